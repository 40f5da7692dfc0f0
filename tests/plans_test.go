package tests

import (
	"math"
	"slices"
	"testing"

	"loop.example/tablehouse/impl"
)

type plan = []impl.Step

func fromTable(n int) impl.Step {
	return impl.Step{Kind: impl.StepTable, N: n}
}

func where(a int, e ...impl.Part) impl.Step {
	return impl.Step{Kind: impl.StepWhere, A: a, E: e}
}

func take(a int, list ...int) impl.Step {
	return impl.Step{Kind: impl.StepTake, A: a, List: list}
}

func join(a int, b int, e ...impl.Part) impl.Step {
	return impl.Step{Kind: impl.StepJoin, A: a, B: b, E: e}
}

func oneBehind(a int, b int) impl.Step {
	return impl.Step{Kind: impl.StepBoth, A: a, B: b}
}

func once(a int) impl.Step {
	return impl.Step{Kind: impl.StepOnce, A: a}
}

// always holds on each row.
func always() expr {
	return expr{val(truth(1))}
}

func house() []impl.Table {
	return []impl.Table{
		{
			Columns: []impl.Column{{Kind: impl.KindNum}, {Kind: impl.KindText, Empty: true}},
			Rows:    bag{{num(2), text("b")}, {num(1), text("a")}, {num(2), none()}, {num(1), text("a")}},
		},
		{
			Columns: []impl.Column{{Kind: impl.KindNum, Empty: true}},
			Rows:    bag{{num(2)}, {none()}, {num(1)}, {num(2)}},
		},
		{Rows: bag{{}, {}}},
	}
}

// nextSteps are steps that may stand behind so many others; many of them are none on the columns that they meet.
func nextSteps(ahead int) []impl.Step {
	list := []impl.Step{fromTable(0), fromTable(1), fromTable(2)}
	tests := []expr{always(), {col(0), val(num(2)), compared(impl.CmpSame)}, {col(1), gone()}}
	lists := [][]int{{}, {0}, {1, 0}, {0, 0}}
	for a := 0; a < ahead; a++ {
		list = append(list, once(a))
		for _, e := range tests {
			list = append(list, where(a, e...))
		}
		for _, l := range lists {
			list = append(list, take(a, l...))
		}
		for b := 0; b < ahead; b++ {
			list = append(list, oneBehind(a, b), join(a, b, always()...))
			list = append(list, join(a, b, col(0), col(1), compared(impl.CmpMost)), join(a, b, col(2), col(0), compared(impl.CmpSame)))
		}
	}
	return list
}

func longer(p plan, s impl.Step) plan {
	return append(slices.Clone(p), s)
}

// plansAndOthers are what nextSteps gives behind each plan: all of up to three steps, and some of up to seven.
func plansAndOthers() []plan {
	list := []plan{{}}
	level := []plan{{}}
	for steps := 1; steps <= 7; steps++ {
		next, seen := []plan{}, 0
		for _, p := range level {
			for _, s := range nextSteps(len(p)) {
				seen++
				if steps <= 3 || seen%31 == 0 {
					list = append(list, longer(p, s))
					next = append(next, longer(p, s))
				}
			}
		}
		level = slices.DeleteFunc(next, func(p plan) bool { return !wantPlan(house(), p) })
		if len(level) > 1200 {
			level = level[:1200]
		}
	}
	return list
}

func plans() []plan {
	return slices.DeleteFunc(plansAndOthers(), func(p plan) bool { return !wantPlan(house(), p) })
}

func sameSteps(a plan, b plan) bool {
	return slices.EqualFunc(a, b, func(x impl.Step, y impl.Step) bool {
		return x.Kind == y.Kind && x.A == y.A && x.B == y.B && x.N == y.N && slices.Equal(x.E, y.E) && slices.Equal(x.List, y.List)
	})
}

// named is what a step has in the fields that its kind names.
func named(s impl.Step) impl.Step {
	switch s.Kind {
	case impl.StepTable:
		return fromTable(s.N)
	case impl.StepWhere:
		return where(s.A, s.E...)
	case impl.StepTake:
		return take(s.A, s.List...)
	case impl.StepJoin:
		return join(s.A, s.B, s.E...)
	case impl.StepBoth:
		return oneBehind(s.A, s.B)
	case impl.StepOnce:
		return once(s.A)
	}
	return impl.Step{Kind: s.Kind}
}

// wantStep and the four behind it are the document's sentences once more, from the last step back to the tables: the columns of a step, how many rows it may have, and whether it is one.
func wantStep(tables []impl.Table, p plan, at int) ([]impl.Column, int, bool) {
	s := p[at]
	if !sameSteps(plan{s}, plan{named(s)}) {
		return nil, 0, false
	}
	if s.Kind == impl.StepTable {
		if s.N < 0 || s.N > len(tables)-1 {
			return nil, 0, false
		}
		return tables[s.N].Columns, 6, true
	}
	if s.Kind < 1 || s.Kind > 6 || s.A < 0 || s.B < 0 || s.A >= at || s.B >= at {
		return nil, 0, false
	}
	first, firstMost, firstOk := wantStep(tables, p, s.A)
	second, secondMost, secondOk := wantStep(tables, p, s.B)
	switch s.Kind {
	case impl.StepWhere:
		return first, firstMost, firstOk && impl.ExprKind(first, s.E) == impl.KindTruth
	case impl.StepTake:
		columns := []impl.Column{}
		for _, n := range s.List {
			if n < 0 || n >= len(first) {
				return nil, 0, false
			}
			columns = append(columns, first[n])
		}
		return columns, firstMost, firstOk && len(columns) <= 4
	case impl.StepJoin:
		columns := slices.Concat(first, second)
		ok := len(columns) <= 4 && impl.ExprKind(columns, s.E) == impl.KindTruth
		return columns, firstMost * secondMost, firstOk && secondOk && ok
	case impl.StepBoth:
		columns, ok := wantColumnsOfBoth(first, second)
		return columns, firstMost + secondMost, firstOk && secondOk && ok
	}
	return first, firstMost, firstOk
}

func wantColumnsOfBoth(a []impl.Column, b []impl.Column) ([]impl.Column, bool) {
	ok := slices.EqualFunc(a, b, func(x impl.Column, y impl.Column) bool { return x.Kind == y.Kind })
	columns := slices.Clone(a)
	for i := range columns {
		if ok && b[i].Empty {
			columns[i].Empty = true
		}
	}
	return columns, ok
}

// wantPlan is asked of tables that are ok.
func wantPlan(tables []impl.Table, p plan) bool {
	for at := range p {
		if _, most, ok := wantStep(tables, p, at); !ok || most > 300 {
			return false
		}
	}
	return len(p) >= 1 && len(p) <= 6
}

// wantPlanRows and wantPlanTables are asked of a plan.
func wantPlanRows(tables []impl.Table, p plan) bag {
	s := p[len(p)-1]
	if s.Kind == impl.StepTable {
		return tables[s.N].Rows
	}
	first, rows := wantPlanRows(tables, p[:s.A+1]), bag{}
	columns, _, _ := wantStep(tables, p, len(p)-1)
	switch s.Kind {
	case impl.StepTake:
		for _, row := range first {
			taken := []impl.Value{}
			for _, n := range s.List {
				taken = append(taken, row[n])
			}
			rows = append(rows, taken)
		}
	case impl.StepBoth:
		rows = joined(first, wantPlanRows(tables, p[:s.B+1]))
	case impl.StepOnce:
		rows = wantOnce(first)
	default:
		others := bag{{}}
		if s.Kind == impl.StepJoin {
			others = wantPlanRows(tables, p[:s.B+1])
		}
		for _, row := range first {
			for _, other := range others {
				if beside := slices.Concat(row, other); impl.ExprHolds(columns, beside, s.E) {
					rows = append(rows, beside)
				}
			}
		}
	}
	return rows
}

func wantPlanTables(p plan) []int {
	s := p[len(p)-1]
	list := []int{}
	switch s.Kind {
	case impl.StepTable:
		list = []int{s.N}
	case impl.StepJoin, impl.StepBoth:
		list = slices.Concat(wantPlanTables(p[:s.A+1]), wantPlanTables(p[:s.B+1]))
	default:
		list = wantPlanTables(p[:s.A+1])
	}
	slices.Sort(list)
	return slices.Compact(list)
}

// checkNoPlan asks that nothing is told of what is no plan.
func checkNoPlan(t *testing.T, tables []impl.Table, p plan) {
	t.Helper()
	if impl.PlanOk(tables, p) {
		t.Fatalf("%v is a plan on %v", p, tables)
	}
	if len(impl.PlanColumns(tables, p)) != 0 || len(impl.PlanRows(tables, p)) != 0 || len(impl.PlanTables(tables, p)) != 0 {
		t.Fatalf("something is told of %v, no plan on %v", p, tables)
	}
}

func checkRows(t *testing.T, tables []impl.Table, p plan, want bag) {
	t.Helper()
	if !impl.PlanOk(tables, p) {
		t.Fatalf("%v is no plan", p)
	}
	if got := impl.PlanRows(tables, p); !sameRows(got, want) {
		t.Fatalf("%v yields %v, not %v", p, got, want)
	}
}

func checkColumns(t *testing.T, tables []impl.Table, p plan, want []impl.Column) {
	t.Helper()
	if got := impl.PlanColumns(tables, p); !slices.Equal(got, want) {
		t.Fatalf("%v has the columns %v, not %v", p, got, want)
	}
}

func TestPromise18WhatAPlanYields(t *testing.T) {
	tables, most := house(), 0
	for _, p := range plans() {
		columns, _, _ := wantStep(tables, p, len(p)-1)
		checkColumns(t, tables, p, columns)
		checkRows(t, tables, p, wantPlanRows(tables, p))
		if rows := impl.PlanRows(tables, p); !impl.ColumnsOk(columns) || !impl.RowsOk(columns, rows) {
			t.Fatalf("%v yields %v, which do not fit %v", p, rows, columns)
		}
		most = max(most, len(p))
	}
	if most != 6 {
		t.Fatalf("the longest plan has %d steps", most)
	}
}

func TestPromise18TheTable(t *testing.T) {
	tables := house()
	for n, table := range tables {
		checkRows(t, tables, plan{fromTable(n)}, table.Rows)
		checkColumns(t, tables, plan{fromTable(n)}, table.Columns)
		checkRows(t, tables, plan{fromTable(0), fromTable(n)}, table.Rows)
	}
	empty := []impl.Table{{Columns: []impl.Column{{Kind: impl.KindTruth}}}}
	checkRows(t, empty, plan{fromTable(0)}, bag{})
	checkColumns(t, empty, plan{fromTable(0)}, empty[0].Columns)
}

// What nobody knows holds nowhere, and its not does not hold either.
func TestPromise18Tests(t *testing.T) {
	tables := house()
	isTwo := expr{col(0), val(num(2)), compared(impl.CmpSame)}
	for _, w := range []struct {
		table int
		e     expr
		want  bag
	}{
		{1, isTwo, bag{{num(2)}, {num(2)}}},
		{1, behind(isTwo, expr{not()}), bag{{num(1)}}},
		{1, expr{col(0), gone()}, bag{{none()}}},
		{1, always(), tables[1].Rows},
		{1, expr{val(truth(0))}, bag{}},
		{0, isTwo, bag{{num(2), text("b")}, {num(2), none()}}},
		{0, expr{col(1), val(text("b")), compared(impl.CmpLess)}, bag{{num(1), text("a")}, {num(1), text("a")}}},
		{2, always(), bag{{}, {}}},
		{2, expr{val(truth(1)), not()}, bag{}},
	} {
		checkRows(t, tables, plan{fromTable(w.table), where(0, w.e...)}, w.want)
		checkColumns(t, tables, plan{fromTable(w.table), where(0, w.e...)}, tables[w.table].Columns)
	}
}

// A column may be taken twice, and none may be.
func TestPromise18Columns(t *testing.T) {
	tables := house()
	n, s := tables[0].Columns[0], tables[0].Columns[1]
	for _, w := range []struct {
		list    []int
		columns []impl.Column
		rows    bag
	}{
		{nil, nil, bag{{}, {}, {}, {}}},
		{[]int{1}, []impl.Column{s}, bag{{text("b")}, {text("a")}, {none()}, {text("a")}}},
		{[]int{1, 0}, []impl.Column{s, n}, bag{{text("b"), num(2)}, {text("a"), num(1)}, {none(), num(2)}, {text("a"), num(1)}}},
		{[]int{0, 0, 1, 0}, []impl.Column{n, n, s, n}, bag{
			{num(2), num(2), text("b"), num(2)}, {num(1), num(1), text("a"), num(1)},
			{num(2), num(2), none(), num(2)}, {num(1), num(1), text("a"), num(1)},
		}},
	} {
		checkRows(t, tables, plan{fromTable(0), take(0, w.list...)}, w.rows)
		checkColumns(t, tables, plan{fromTable(0), take(0, w.list...)}, w.columns)
	}
}

func TestPromise18Joins(t *testing.T) {
	tables := house()
	same := expr{col(0), col(2), compared(impl.CmpSame)}
	p := plan{fromTable(0), fromTable(1), join(0, 1, same...)}
	two, gone := []impl.Value{num(2), text("b"), num(2)}, []impl.Value{num(2), none(), num(2)}
	one := []impl.Value{num(1), text("a"), num(1)}
	checkRows(t, tables, p, bag{two, two, one, gone, gone, one})
	checkColumns(t, tables, p, slices.Concat(tables[0].Columns, tables[1].Columns))
	// Turned round, the rows of the other step come first.
	p[2] = join(1, 0, col(0), col(1), compared(impl.CmpSame))
	turned := bag{{num(2), num(2), text("b")}, {num(2), num(2), none()}}
	checkRows(t, tables, p, slices.Concat(turned, bag{{num(1), num(1), text("a")}, {num(1), num(1), text("a")}}, turned))
	checkColumns(t, tables, p, slices.Concat(tables[1].Columns, tables[0].Columns))
	// A step beside itself, and beside rows without values.
	less := expr{col(0), col(1), compared(impl.CmpLess)}
	checkRows(t, tables, plan{fromTable(1), join(0, 0, less...)}, bag{{num(1), num(2)}, {num(1), num(2)}})
	checkRows(t, tables, plan{fromTable(1), fromTable(2), join(0, 1, always()...)}, bag{{num(2)}, {num(2)}, {none()}, {none()}, {num(1)}, {num(1)}, {num(2)}, {num(2)}})
	checkRows(t, tables, plan{fromTable(2), join(0, 0, always()...)}, bag{{}, {}, {}, {}})
	checkRows(t, tables, plan{fromTable(1), where(0, val(truth(0))), join(0, 1, always()...)}, bag{})
	checkRows(t, tables, plan{fromTable(1), where(0, val(truth(0))), join(1, 0, always()...)}, bag{})
}

// Of two steps one behind the other a column may have none if one of both may.
func TestPromise18OneBehindTheOther(t *testing.T) {
	for _, a := range []bool{false, true} {
		for _, b := range []bool{false, true} {
			tables := []impl.Table{
				{Columns: []impl.Column{{Kind: 1, Empty: a}, {Kind: 3, Empty: b}}, Rows: bag{{num(4), truth(1)}}},
				{Columns: []impl.Column{{Kind: 1, Empty: b}, {Kind: 3}}, Rows: bag{{num(3), truth(0)}, {num(4), truth(1)}}},
			}
			p := plan{fromTable(0), fromTable(1), oneBehind(0, 1)}
			checkRows(t, tables, p, bag{{num(4), truth(1)}, {num(3), truth(0)}, {num(4), truth(1)}})
			want := []impl.Column{{Kind: 1, Empty: a || b}, {Kind: 3, Empty: b}}
			checkColumns(t, tables, p, want)
			p[2] = oneBehind(1, 0)
			checkRows(t, tables, p, bag{{num(3), truth(0)}, {num(4), truth(1)}, {num(4), truth(1)}})
			checkColumns(t, tables, p, want)
		}
	}
	tables := house()
	checkRows(t, tables, plan{fromTable(2), oneBehind(0, 0)}, bag{{}, {}, {}, {}})
}

func TestPromise19EachRowOnce(t *testing.T) {
	tables := house()
	for _, p := range plans() {
		if len(p) == impl.MaxSteps {
			continue
		}
		rows := impl.PlanRows(tables, p)
		checkRows(t, tables, longer(p, once(len(p)-1)), impl.RowsOnce(rows))
		twice := longer(p, oneBehind(len(p)-1, len(p)-1))
		if impl.PlanOk(tables, twice) {
			checkRows(t, tables, twice, joined(rows, rows))
		}
	}
}

func TestPromise19TheFirstOnes(t *testing.T) {
	tables := house()
	checkRows(t, tables, plan{fromTable(0), once(0)}, bag{{num(2), text("b")}, {num(1), text("a")}, {num(2), none()}})
	checkRows(t, tables, plan{fromTable(1), once(0)}, bag{{num(2)}, {none()}, {num(1)}})
	checkRows(t, tables, plan{fromTable(2), once(0)}, bag{{}})
	checkRows(t, tables, plan{fromTable(1), oneBehind(0, 0), once(1), once(2)}, bag{{num(2)}, {none()}, {num(1)}})
	checkRows(t, tables, plan{fromTable(1), where(0, val(truth(0))), once(1)}, bag{})
	checkColumns(t, tables, plan{fromTable(0), once(0)}, tables[0].Columns)
}

// othersEmptied are tables of which those that a list does not name have no rows.
func othersEmptied(tables []impl.Table, list []int) []impl.Table {
	emptied := slices.Clone(tables)
	for n := range emptied {
		if !slices.Contains(list, n) {
			emptied[n].Rows = nil
		}
	}
	return emptied
}

func TestPromise20OtherTables(t *testing.T) {
	tables := house()
	for _, p := range plans() {
		list := impl.PlanTables(tables, p)
		if !slices.Equal(list, wantPlanTables(p)) {
			t.Fatalf("%v asks for the tables %v", p, list)
		}
		for i, n := range list {
			if n < 0 || n >= len(tables) || i > 0 && list[i-1] >= n {
				t.Fatalf("%v asks for the tables %v", p, list)
			}
		}
		checkRows(t, othersEmptied(tables, list), p, impl.PlanRows(tables, p))
	}
}

// A field that a kind does not name has 0, and is no first step on which something hangs.
func TestPromise20WhatHangsOnNothing(t *testing.T) {
	tables := []impl.Table{
		{Columns: []impl.Column{{Kind: impl.KindNum}}},
		{Columns: []impl.Column{{Kind: impl.KindNum}}},
		{Columns: []impl.Column{{Kind: impl.KindNum}}},
	}
	for _, w := range []struct {
		p    plan
		want []int
	}{
		{plan{fromTable(2)}, []int{2}},
		{plan{fromTable(0), fromTable(1)}, []int{1}},
		{plan{fromTable(0), fromTable(1), where(1, always()...)}, []int{1}},
		{plan{fromTable(0), fromTable(1), take(1, 0)}, []int{1}},
		{plan{fromTable(0), fromTable(1), once(1)}, []int{1}},
		{plan{fromTable(0), fromTable(1), fromTable(2), oneBehind(2, 1)}, []int{1, 2}},
		{plan{fromTable(0), fromTable(1), fromTable(2), join(2, 1, always()...)}, []int{1, 2}},
		{plan{fromTable(2), fromTable(1), fromTable(0), oneBehind(0, 1), join(3, 2, always()...)}, []int{0, 1, 2}},
		{plan{fromTable(2), fromTable(0), oneBehind(0, 1), once(0)}, []int{2}},
		{plan{fromTable(1), fromTable(1), fromTable(1), join(0, 2, always()...)}, []int{1}},
		{plan{fromTable(1), oneBehind(0, 0), fromTable(0), take(1), once(3)}, []int{1}},
	} {
		if got := impl.PlanTables(tables, w.p); !slices.Equal(got, w.want) {
			t.Fatalf("%v asks for the tables %v, not %v", w.p, got, w.want)
		}
	}
}

// wantTables is asked of columns that are ok, and of rows that are rows.
func wantTables(tables []impl.Table) bool {
	for _, table := range tables {
		if len(table.Rows) > 6 || !wantRows(table.Columns, table.Rows) {
			return false
		}
	}
	return len(tables) <= 3
}

func TestPromise161FewerTables(t *testing.T) {
	kinds := []impl.Table{
		{},
		{Rows: bag{{}, {}, {}, {}, {}, {}}},
		{Rows: bag{{}, {}, {}, {}, {}, {}, {}}},
		{Rows: bag{{}, {none()}}},
		{Columns: []impl.Column{{Kind: 1}, {Kind: 2, Empty: true}}, Rows: bag{{num(1), none()}, {num(1), text("a")}}},
		{Columns: []impl.Column{{Kind: 1}, {Kind: 2, Empty: true}}, Rows: bag{{num(1), none()}, {none(), text("a")}}},
		{Columns: []impl.Column{{Kind: 3}}, Rows: bag{{truth(0)}, {truth(0)}, {truth(0)}, {truth(0)}, {truth(0)}, {truth(0)}}},
	}
	lists := [][]impl.Table{{}}
	for i := 0; i < len(lists); i++ {
		tables := lists[i]
		ok := impl.TablesOk(tables)
		if ok != wantTables(tables) {
			t.Fatalf("%v are tables: %v", tables, ok)
		}
		for many := range tables {
			if ok && !impl.TablesOk(tables[:many]) {
				t.Fatalf("%v are tables, but not the first %d", tables, many)
			}
		}
		if len(tables) < 4 {
			for _, table := range kinds {
				lists = append(lists, append(slices.Clone(tables), table))
			}
		}
	}
	if !impl.TablesOk(nil) || !impl.TablesOk([]impl.Table{}) {
		t.Fatal("no tables are tables")
	}
}

// noTables are columns and rows that are none, at each place, and more tables or rows than there may be.
func noTables() [][]impl.Table {
	list := [][]impl.Table{}
	one := impl.Table{Columns: []impl.Column{{Kind: impl.KindNum}}, Rows: bag{{num(1)}}}
	for at := 0; at < 3; at++ {
		for _, columns := range wrongColumns() {
			tables := []impl.Table{one, one, one}
			tables[at] = impl.Table{Columns: columns}
			list = append(list, tables)
		}
		for _, row := range append(wrongRows(), bag{{}, {none()}, {text("a")}, {num(1), num(1)}}...) {
			tables := []impl.Table{one, one, one}
			tables[at] = impl.Table{Columns: one.Columns, Rows: bag{{num(1)}, row}}
			list = append(list, tables)
		}
		for _, many := range []int{7, 8, 255, 256, 262} {
			tables := []impl.Table{one, one, one}
			tables[at] = impl.Table{Rows: make(bag, many)}
			list = append(list, tables)
		}
	}
	for _, many := range []int{4, 5, 255, 256, 258} {
		list = append(list, make([]impl.Table, many), slices.Repeat([]impl.Table{one}, many))
	}
	return list
}

func TestPromise161WhatIsNoTable(t *testing.T) {
	if impl.MaxTables != 3 || impl.MaxRows != 6 {
		t.Fatal("there may be another number of tables, or of their rows")
	}
	for _, tables := range noTables() {
		if impl.TablesOk(tables) {
			t.Fatalf("%v are no tables", tables)
		}
		for n := range tables {
			checkNoPlan(t, tables, plan{fromTable(n)})
		}
	}
	for _, tables := range [][]impl.Table{nil, {}} {
		for _, s := range nextSteps(1) {
			checkNoPlan(t, tables, plan{s})
		}
	}
}

func TestPromise162BeginningsOfPlans(t *testing.T) {
	tables, others := house(), 0
	for _, p := range plansAndOthers() {
		if !wantPlan(tables, p) {
			checkNoPlan(t, tables, p)
			others++
			continue
		}
		for many := 1; many <= len(p); many++ {
			if !impl.PlanOk(tables, p[:many]) {
				t.Fatalf("%v is a plan, but not its first %d steps", p, many)
			}
		}
		if impl.PlanOk(tables, longer(p, once(len(p)-1))) != (len(p) < 6) {
			t.Fatalf("%v, each row once, has %d steps", p, len(p)+1)
		}
	}
	if others < 1000 {
		t.Fatalf("%d are no plans", others)
	}
	checkNoPlan(t, tables, nil)
	checkNoPlan(t, tables, plan{})
}

func TestPromise162Steps(t *testing.T) {
	tables := house()
	for _, many := range []int{1, 5, 6, 7, 8, 255, 256, 257, 262} {
		p := slices.Repeat(plan{fromTable(1)}, many)
		if impl.PlanOk(tables, p) != (many <= 6) {
			t.Fatalf("%d steps are a plan: %v", many, many > 6)
		}
		if many > 6 {
			checkNoPlan(t, tables, p)
		}
	}
	if impl.MaxSteps != 6 || impl.MaxMade != 300 {
		t.Fatal("a plan may have another number of steps or of rows")
	}
}

// A step may name those alone that are ahead of it, and a plan is none if one of its steps is none, though nothing hangs on it.
func TestPromise162StepsAhead(t *testing.T) {
	tables := []impl.Table{{Columns: []impl.Column{{Kind: 1}}, Rows: bag{{num(1)}}}}
	for at := 1; at < 6; at++ {
		for _, n := range []int{math.MinInt, -256, -1, 0, 1, 2, 3, 4, 5, 6, 7, 255, 256, 257, math.MaxInt} {
			for _, s := range []impl.Step{where(n, always()...), take(n, 0), take(n), once(n), join(n, 0, always()...), join(0, n, always()...), oneBehind(n, 0), oneBehind(0, n)} {
				p := slices.Repeat(plan{fromTable(0)}, 6)
				p[at] = s
				p[5] = s
				if n >= 0 && n < at {
					if !impl.PlanOk(tables, p[:at+1]) || !impl.PlanOk(tables, p) {
						t.Fatalf("%v is a plan", p)
					}
					continue
				}
				checkNoPlan(t, tables, p[:at+1])
				checkNoPlan(t, tables, p)
			}
		}
	}
	for _, s := range nextSteps(1)[3:] {
		checkNoPlan(t, tables, plan{s})
		checkNoPlan(t, tables, plan{s, fromTable(0)})
	}
	checkNoPlan(t, tables, plan{fromTable(0), once(2), once(1), fromTable(0)})
}

func TestPromise162TablesAndKinds(t *testing.T) {
	tables := house()
	for _, n := range []int{math.MinInt, -256, -2, -1, 3, 4, 5, 255, 256, 257, math.MaxInt} {
		checkNoPlan(t, tables, plan{fromTable(n)})
		checkNoPlan(t, tables, plan{fromTable(n), fromTable(0)})
		checkNoPlan(t, tables, plan{fromTable(0), fromTable(n)})
	}
	checkNoPlan(t, tables[:2], plan{fromTable(2)})
	for _, kind := range []int{math.MinInt, -256, -6, -1, 0, 7, 8, 255, 256, 257, 258, 262, math.MaxInt} {
		checkNoPlan(t, tables, plan{{Kind: kind}})
		checkNoPlan(t, tables, plan{fromTable(0), {Kind: kind}})
		checkNoPlan(t, tables, plan{fromTable(0), {Kind: kind}, fromTable(0)})
		checkNoPlan(t, tables, plan{fromTable(0), {Kind: kind, E: always()}})
		checkNoPlan(t, tables, plan{fromTable(0), {Kind: kind, List: []int{0}}})
	}
}

// What a kind does not name has nothing: a step that could be named, a table, an expression or a column is too much.
func TestPromise162FieldsThatAreNotNamed(t *testing.T) {
	tables := []impl.Table{{Columns: []impl.Column{{Kind: 1}}, Rows: bag{{num(1)}}}, {Columns: []impl.Column{{Kind: 1}}}}
	last := []impl.Step{fromTable(0), fromTable(1), where(1, always()...), take(1, 0), take(1), join(1, 0, always()...), oneBehind(1, 0), once(1)}
	for _, s := range last {
		p := plan{fromTable(0), fromTable(1), s}
		if !impl.PlanOk(tables, p) {
			t.Fatalf("%v is a plan", p)
		}
		changed := []impl.Step{}
		for _, n := range []int{math.MinInt, -256, -1, 1, 2, 256, math.MaxInt} {
			a, b, table := s, s, s
			a.A, b.B, table.N = n, n, n
			changed = append(changed, a, b, table)
		}
		e, list, empty := s, s, s
		e.E, list.List, empty.E = always(), []int{0}, expr{}
		changed = append(changed, e, list, empty)
		for _, other := range changed {
			p[2] = other
			if want := wantPlan(tables, p); impl.PlanOk(tables, p) != want {
				t.Fatalf("%v is a plan: %v", p, !want)
			}
		}
		empty.List = []int{}
		p[2] = empty
		if ok := impl.PlanOk(tables, p); ok != (s.Kind != impl.StepWhere && s.Kind != impl.StepJoin) {
			t.Fatalf("%v, whose lists are empty, is a plan: %v", p, ok)
		}
	}
}

func TestPromise162Expressions(t *testing.T) {
	tables := house()
	for _, e := range []expr{
		nil, {}, {val(num(1))}, {val(text("a"))}, {col(0)}, {col(1)}, {val(none())}, {col(0), col(1), compared(impl.CmpSame)},
		{val(truth(1)), val(truth(1))}, {both()}, {col(-1), gone()}, {col(4), gone()}, {col(0), val(num(1)), compared(5)},
		slices.Concat(slices.Repeat(expr{val(truth(1))}, 7), slices.Repeat(expr{both()}, 6)),
	} {
		checkNoPlan(t, tables, plan{fromTable(0), where(0, e...)})
		checkNoPlan(t, tables, plan{fromTable(0), where(0, e...), fromTable(0)})
		checkNoPlan(t, tables, plan{fromTable(0), join(0, 0, e...)})
	}
	// The third column is there beside the other step, not ahead of it.
	checkNoPlan(t, tables, plan{fromTable(0), where(0, col(2), gone())})
	for _, n := range []int{0, 1, 2, 3} {
		if !impl.PlanOk(tables, plan{fromTable(0), join(0, 0, col(n), gone())}) {
			t.Fatalf("column %d is one of both steps", n)
		}
	}
}

// Columns are at most four, of a join and of a taking.
func TestPromise162TooManyColumns(t *testing.T) {
	for many := 0; many <= 4; many++ {
		for beside := 0; beside <= 4; beside++ {
			tables := []impl.Table{{Columns: make([]impl.Column, many)}, {Columns: make([]impl.Column, beside)}}
			for _, table := range tables {
				for i := range table.Columns {
					table.Columns[i].Kind = 1 + i%3
				}
			}
			p := plan{fromTable(0), fromTable(1), join(0, 1, always()...)}
			if impl.PlanOk(tables, p) != (many+beside <= 4) {
				t.Fatalf("%d columns and %d beside them are too many: %v", many, beside, many+beside <= 4)
			}
			if many+beside > 4 {
				checkNoPlan(t, tables, p)
				checkNoPlan(t, tables, longer(p, take(2, 0)))
				checkNoPlan(t, tables, longer(p, fromTable(0)))
			}
			if ok := impl.PlanOk(tables, plan{fromTable(0), fromTable(1), oneBehind(0, 1)}); ok != (many == beside) {
				t.Fatalf("%d columns behind %d are a plan: %v", beside, many, ok)
			}
		}
	}
	for _, list := range [][]int{{-1}, {2}, {0, 2}, {0, -1}, {math.MinInt}, {math.MaxInt}, {256}, {0, 1, 0, 1, 0}, make([]int, 5), make([]int, 256), make([]int, 260)} {
		checkNoPlan(t, house(), plan{fromTable(0), take(0, list...)})
		checkNoPlan(t, house(), plan{fromTable(0), take(0, list...), fromTable(0)})
	}
	checkNoPlan(t, house(), plan{fromTable(2), take(0, 0)})
}

// Kinds stand one behind the other just if they are the same; whether there may be none does not count.
func TestPromise162UnlikeColumns(t *testing.T) {
	list := allColumns()
	for i := 0; i < len(list); i += 3 {
		for j := 0; j < len(list); j += 7 {
			tables := []impl.Table{{Columns: list[i]}, {Columns: list[j]}}
			p := plan{fromTable(0), fromTable(1), oneBehind(0, 1)}
			columns, ok := wantColumnsOfBoth(list[i], list[j])
			if impl.PlanOk(tables, p) != ok {
				t.Fatalf("%v behind %v are columns: %v", list[j], list[i], !ok)
			}
			if ok {
				checkColumns(t, tables, p, columns)
			} else {
				checkNoPlan(t, tables, p)
			}
		}
	}
}

// How many rows a step may have does not hang on how many a table has: 300 are not too many, 306 are.
func TestPromise162TooManyRows(t *testing.T) {
	yes := always()
	for _, rows := range []int{0, 1, 6} {
		tables := []impl.Table{{Rows: make(bag, rows)}, {Columns: []impl.Column{{Kind: 1}}}}
		for i := 0; i < rows; i++ {
			tables[1].Rows = append(tables[1].Rows, []impl.Value{num(i)})
		}
		many := plan{fromTable(0), oneBehind(0, 0), join(1, 1, yes...), oneBehind(2, 0), oneBehind(3, 3)}
		checkRows(t, tables, many, make(bag, 8*rows*rows+2*rows))
		for _, s := range []impl.Step{where(4, yes...), take(4), once(4), fromTable(1)} {
			if !impl.PlanOk(tables, longer(many, s)) {
				t.Fatalf("300 rows are not too many for %v", s)
			}
		}
		for _, s := range []impl.Step{oneBehind(4, 0), oneBehind(0, 4), oneBehind(4, 4), join(4, 0, yes...), join(0, 4, yes...), join(4, 4, yes...)} {
			checkNoPlan(t, tables, longer(many, s))
		}
		// Neither a test, nor columns, nor each row once make them fewer.
		for _, p := range []plan{
			{fromTable(0), join(0, 0, yes...), where(1, val(truth(0))), join(1, 2, yes...)},
			{fromTable(0), join(0, 0, yes...), take(1), join(2, 2, yes...)},
			{fromTable(0), join(0, 0, yes...), once(1), join(2, 1, yes...)},
			{fromTable(0), join(0, 0, val(truth(0))), join(1, 1, yes...)},
			{fromTable(0), join(0, 0, yes...), join(1, 0, yes...), join(2, 0, yes...), fromTable(0)},
			{fromTable(1), join(0, 0, yes...), join(1, 1, yes...)},
			{fromTable(1), join(0, 0, yes...), join(1, 0, yes...), oneBehind(2, 2)},
		} {
			checkNoPlan(t, tables, p)
			if !impl.PlanOk(tables, p[:len(p)-1]) && p[len(p)-1].Kind != impl.StepTable {
				t.Fatalf("%v is a plan", p[:len(p)-1])
			}
		}
		one := plan{fromTable(1), join(0, 0, yes...), join(1, 0, yes...)}
		if got := impl.PlanRows(tables, one); len(got) != rows*rows*rows {
			t.Fatalf("three times %d rows beside each other are %d", rows, len(got))
		}
	}
}

// roomyTables and roomyPlan leave room behind each list.
func roomyTables(tables []impl.Table) []impl.Table {
	list := make([]impl.Table, len(tables), len(tables)+1)
	for i, table := range tables {
		columns := append(make([]impl.Column, 0, len(table.Columns)+1), table.Columns...)
		list[i] = impl.Table{Columns: columns, Rows: copyRows(table.Rows)}
	}
	return list
}

func roomyPlan(p plan) plan {
	list := make(plan, len(p), len(p)+1)
	for i, s := range p {
		list[i] = s
		list[i].E = append(make(expr, 0, len(s.E)+1), s.E...)
		list[i].List = append(make([]int, 0, len(s.List)+1), s.List...)
	}
	return list
}

func sameTables(a []impl.Table, b []impl.Table) bool {
	return slices.EqualFunc(a, b, func(x impl.Table, y impl.Table) bool {
		return slices.Equal(x.Columns, y.Columns) && sameRows(x.Rows, y.Rows)
	})
}

// tablesRoomIsLeft and planRoomIsLeft report whether nothing was put into the room.
func tablesRoomIsLeft(tables []impl.Table) bool {
	for _, table := range tables {
		if !roomIsLeft(table.Rows) || table.Columns[:len(table.Columns)+1][len(table.Columns)] != (impl.Column{}) {
			return false
		}
	}
	return sameTables(tables[len(tables):len(tables)+1], make([]impl.Table, 1))
}

func planRoomIsLeft(p plan) bool {
	for _, s := range p {
		if s.E[:len(s.E)+1][len(s.E)] != (impl.Part{}) || s.List[:len(s.List)+1][len(s.List)] != 0 {
			return false
		}
	}
	return sameSteps(p[len(p):len(p)+1], make(plan, 1))
}

// overwrite writes over rows, their values, and the room behind both.
func overwrite(rows bag) {
	for i, row := range rows {
		for j := range row {
			row[j] = num(77)
		}
		_ = append(row, num(78))
		rows[i] = []impl.Value{num(79)}
	}
	_ = append(rows, []impl.Value{num(80)})
}

// checkNotWritten asks of tables and of a plan that were given with room behind them whether they are what they were.
func checkNotWritten(t *testing.T, given []impl.Table, tables []impl.Table, steps plan, p plan) {
	t.Helper()
	if !sameTables(given, tables) || !tablesRoomIsLeft(given) {
		t.Fatalf("by %v the tables became %v, or the room behind them did", p, given)
	}
	if !sameSteps(steps, p) || !planRoomIsLeft(steps) {
		t.Fatalf("%v became %v, or the room behind it did", p, steps)
	}
}

// What is told of a plan shares no memory with the tables, nor with the plan, and neither of them is written.
func TestPlansAreNewMemory(t *testing.T) {
	tables := house()
	for _, p := range plans() {
		given, steps := roomyTables(tables), roomyPlan(p)
		columns, rows := impl.PlanColumns(given, steps), impl.PlanRows(given, steps)
		list := impl.PlanTables(given, steps)
		for i := range columns {
			columns[i] = impl.Column{Kind: 77}
		}
		_ = append(columns, impl.Column{Kind: 78})
		overwrite(rows)
		for i := range list {
			list[i] = 77
		}
		_ = append(list, 78)
		checkNotWritten(t, given, tables, steps, p)
		checkRows(t, given, steps, wantPlanRows(tables, p))
	}
}

// Rows that come twice from one row of a table are two lists, each with room of its own.
func TestPlansShareNoRows(t *testing.T) {
	row := []impl.Value{num(3), text("a")}
	tables := []impl.Table{{Columns: []impl.Column{{Kind: impl.KindNum}, {Kind: impl.KindText}}, Rows: bag{row, row}}}
	for _, p := range []plan{
		{fromTable(0)},
		{fromTable(0), where(0, always()...)},
		{fromTable(0), take(0, 0, 1)},
		{fromTable(0), oneBehind(0, 0)},
		{fromTable(0), join(0, 0, always()...), oneBehind(1, 1)},
		{fromTable(0), once(0), oneBehind(1, 1)},
	} {
		rows := impl.PlanRows(tables, p)
		for i := range rows {
			rows[i][0] = num(i)
		}
		longer := bag{}
		for i := range rows {
			longer = append(longer, append(rows[i], num(80+i)))
		}
		for i := range rows {
			if rows[i][0] != num(i) || longer[i][len(rows[i])] != num(80+i) {
				t.Fatalf("rows of %v share memory: %v", p, rows)
			}
		}
		if row[0] != num(3) {
			t.Fatalf("by %v the row of the table became %v", p, row)
		}
	}
}
