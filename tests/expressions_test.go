package tests

import (
	"math"
	"slices"
	"testing"

	"loop.example/tablehouse/impl"
)

func val(v impl.Value) impl.Part {
	return impl.Part{Kind: impl.PartValue, V: v}
}

func col(n int) impl.Part {
	return impl.Part{Kind: impl.PartColumn, N: n}
}

func compared(by int) impl.Part {
	return impl.Part{Kind: impl.PartCompare, N: by}
}

// op is a part whose number and value are not named.
func op(kind int) impl.Part {
	return impl.Part{Kind: kind}
}

func add() impl.Part    { return op(impl.PartAdd) }
func both() impl.Part   { return op(impl.PartAnd) }
func either() impl.Part { return op(impl.PartOr) }
func not() impl.Part    { return op(impl.PartNot) }
func gone() impl.Part   { return op(impl.PartNone) }

type expr = []impl.Part

// behind joins lists of parts in new memory.
func behind(lists ...expr) expr {
	return slices.Concat(lists...)
}

// exprColumns have each kind; nothing may stand in two of them.
func exprColumns() []impl.Column {
	return []impl.Column{{Kind: impl.KindNum, Empty: true}, {Kind: impl.KindText}, {Kind: impl.KindTruth, Empty: true}}
}

// exprRows are all rows of a few values that fit exprColumns.
func exprRows() [][]impl.Value {
	rows := [][]impl.Value{}
	for _, a := range []impl.Value{none(), num(-9999), num(4), num(9999)} {
		for _, b := range []impl.Value{text("a"), text("b")} {
			for _, c := range []impl.Value{none(), truth(0), truth(1)} {
				rows = append(rows, []impl.Value{a, b, c})
			}
		}
	}
	return rows
}

// tree is an expression as it is bracketed. The tests reckon with trees, the program with lists of parts.
type tree struct {
	part  impl.Part
	under []tree
}

func (x tree) parts() expr {
	list := expr{}
	for _, u := range x.under {
		list = append(list, u.parts()...)
	}
	return append(list, x.part)
}

// kind asks of a tree that is one, on exprColumns.
func (x tree) kind() int {
	switch x.part.Kind {
	case impl.PartValue:
		return x.part.V.Kind
	case impl.PartColumn:
		return []int{impl.KindNum, impl.KindText, impl.KindTruth}[x.part.N]
	case impl.PartAdd:
		return impl.KindNum
	}
	return impl.KindTruth
}

// wantSum and the three behind it are the document's sentences once more, without the program's functions.
func wantSum(a impl.Value, b impl.Value) impl.Value {
	if a.Kind == 0 || b.Kind == 0 || a.N+b.N > 9999 || a.N+b.N < -9999 {
		return none()
	}
	return num(a.N + b.N)
}

func wantCompared(by int, a impl.Value, b impl.Value) impl.Value {
	if a.Kind == 0 || b.Kind == 0 {
		return none()
	}
	less := a.N < b.N || a.N == b.N && a.S < b.S
	switch by {
	case 1:
		return truth(truthOfBool(a == b))
	case 2:
		return truth(truthOfBool(a != b))
	case 3:
		return truth(truthOfBool(less))
	}
	return truth(truthOfBool(less || a == b))
}

// wantJoined is this truth if one of both is, the other one if both are that, and nothing otherwise.
func wantJoined(this int, a impl.Value, b impl.Value) impl.Value {
	if a == truth(this) || b == truth(this) {
		return truth(this)
	}
	if a.Kind == 0 || b.Kind == 0 {
		return none()
	}
	return truth(1 - this)
}

func wantNot(a impl.Value) impl.Value {
	if a.Kind == 0 {
		return none()
	}
	return truth(1 - a.N)
}

func (x tree) value(row []impl.Value) impl.Value {
	v := []impl.Value{}
	for _, u := range x.under {
		v = append(v, u.value(row))
	}
	switch x.part.Kind {
	case impl.PartValue:
		return x.part.V
	case impl.PartColumn:
		return row[x.part.N]
	case impl.PartAdd:
		return wantSum(v[0], v[1])
	case impl.PartCompare:
		return wantCompared(x.part.N, v[0], v[1])
	case impl.PartAnd:
		return wantJoined(0, v[0], v[1])
	case impl.PartOr:
		return wantJoined(1, v[0], v[1])
	case impl.PartNot:
		return wantNot(v[0])
	}
	return truth(truthOfBool(v[0].Kind == 0))
}

// names reports whether a tree asks for a column.
func (x tree) names(column int) bool {
	if x.part.Kind == impl.PartColumn && x.part.N == column {
		return true
	}
	return slices.ContainsFunc(x.under, func(u tree) bool { return u.names(column) })
}

func (x tree) columns() []int {
	list := []int{}
	for n := 0; n < 4; n++ {
		if x.names(n) {
			list = append(list, n)
		}
	}
	return list
}

// treesBySize holds at each place all trees of so many parts, of a few values, on exprColumns.
func treesBySize(most int) [][]tree {
	sizes := [][]tree{{}, {}}
	leaves := expr{col(0), val(num(4)), val(num(-9999)), col(1), val(text("a")), col(2), val(truth(1))}
	for _, p := range leaves {
		sizes[1] = append(sizes[1], tree{part: p})
	}
	for size := 2; size <= most; size++ {
		made := []tree{}
		for _, u := range sizes[size-1] {
			made = append(made, treesOver(u)...)
		}
		for front := 1; front < size-1; front++ {
			for _, a := range sizes[front] {
				for _, b := range sizes[size-1-front] {
					made = append(made, treesOfTwo(a, b)...)
				}
			}
		}
		sizes = append(sizes, made)
	}
	return sizes
}

func treesOver(u tree) []tree {
	made := []tree{{gone(), []tree{u}}}
	if u.kind() == impl.KindTruth {
		made = append(made, tree{not(), []tree{u}})
	}
	return made
}

func treesOfTwo(a tree, b tree) []tree {
	made := []tree{}
	if a.kind() != b.kind() {
		return made
	}
	for _, by := range comparisons() {
		made = append(made, tree{compared(by), []tree{a, b}})
	}
	switch a.kind() {
	case impl.KindNum:
		made = append(made, tree{add(), []tree{a, b}})
	case impl.KindTruth:
		made = append(made, tree{both(), []tree{a, b}}, tree{either(), []tree{a, b}})
	}
	return made
}

// trees are all of at most five parts, and some of each further length up to the greatest one.
func trees() []tree {
	sizes := treesBySize(6)
	list := slices.Concat(sizes[:6]...)
	for front := 1; front <= 6; front++ {
		for back := 6 - front; back <= 6; back++ {
			for i := 0; back > 0 && i < 60; i++ {
				a := sizes[front][i*37%len(sizes[front])]
				b := sizes[back][i*101%len(sizes[back])]
				if front+back+1 <= 12 {
					list = append(list, treesOfTwo(a, b)...)
				}
			}
		}
	}
	return append(list, deepTrees()...)
}

// deepTrees put down all their values ahead of taking any, or take each one at once.
func deepTrees() []tree {
	list := []tree{}
	left, right := tree{part: col(2)}, tree{part: col(2)}
	sum, turned := tree{part: col(0)}, tree{part: col(0)}
	for i := 0; i < 5; i++ {
		link := []impl.Part{both(), either(), compared(impl.CmpMost)}[i%3]
		left = tree{link, []tree{left, {part: val(truth(i % 2))}}}
		right = tree{link, []tree{{part: col(2)}, right}}
		sum = tree{add(), []tree{sum, {part: val(num(i - 2))}}}
		turned = tree{add(), []tree{{part: val(num(i * 1000))}, turned}}
		list = append(list, left, right, sum, turned, tree{gone(), []tree{turned}}, tree{not(), []tree{right}})
	}
	return list
}

func TestTreesAreOfEachLength(t *testing.T) {
	many := make([]int, 14)
	for _, x := range trees() {
		many[len(x.parts())]++
	}
	for size := 1; size <= 12; size++ {
		if many[size] == 0 {
			t.Fatalf("no expression of %d parts is asked for", size)
		}
	}
	if many[13] != 0 {
		t.Fatal("expressions that are too long")
	}
}

func TestNumbersOfParts(t *testing.T) {
	kinds := []int{impl.PartValue, impl.PartColumn, impl.PartAdd, impl.PartCompare, impl.PartAnd, impl.PartOr, impl.PartNot, impl.PartNone}
	for i, kind := range kinds {
		if kind != i+1 {
			t.Fatalf("the part with the number %d is %d", i+1, kind)
		}
	}
	if impl.MaxParts != 12 {
		t.Fatal("the number of parts is another one")
	}
}

func TestPromise9KindsAsWritten(t *testing.T) {
	columns := exprColumns()
	for _, w := range []struct {
		e    expr
		kind int
	}{
		{expr{val(num(3))}, 1},
		{expr{val(text(""))}, 2},
		{expr{val(truth(0))}, 3},
		{expr{col(0)}, 1},
		{expr{col(1)}, 2},
		{expr{col(2)}, 3},
		{expr{col(0), val(num(3)), add()}, 1},
		{expr{col(1), val(text("b")), compared(1)}, 3},
		{expr{col(0), val(num(3)), compared(4)}, 3},
		{expr{col(2), col(2), compared(3)}, 3},
		{expr{col(2), val(truth(1)), both()}, 3},
		{expr{col(2), val(truth(1)), either()}, 3},
		{expr{col(2), not()}, 3},
		{expr{col(0), gone()}, 3},
		{expr{col(1), gone()}, 3},
		{expr{col(2), gone(), gone()}, 3},
		{nil, -1},
		{expr{}, -1},
		{expr{col(0), col(0)}, -1},
		{expr{col(2), col(2), not()}, -1},
		{expr{col(0), col(0), add(), col(0)}, -1},
		{expr{add()}, -1},
		{expr{col(0), add()}, -1},
		{expr{add(), col(0), col(0)}, -1},
		{expr{col(0), add(), col(0)}, -1},
		{expr{col(0), compared(1)}, -1},
		{expr{col(2), both()}, -1},
		{expr{col(2), either()}, -1},
		{expr{not()}, -1},
		{expr{gone()}, -1},
		{expr{col(0), col(1), add()}, -1},
		{expr{col(1), col(0), add()}, -1},
		{expr{col(1), col(1), add()}, -1},
		{expr{col(2), col(2), add()}, -1},
		{expr{col(0), col(1), compared(1)}, -1},
		{expr{col(0), col(2), compared(2)}, -1},
		{expr{col(2), col(1), compared(4)}, -1},
		{expr{col(0), col(2), both()}, -1},
		{expr{col(2), col(0), both()}, -1},
		{expr{col(1), col(2), either()}, -1},
		{expr{col(2), col(1), either()}, -1},
		{expr{col(0), col(0), either()}, -1},
		{expr{col(0), not()}, -1},
		{expr{col(1), not()}, -1},
		{expr{col(2), col(0), not()}, -1},
	} {
		if got := impl.ExprKind(columns, w.e); got != w.kind {
			t.Fatalf("the kind of %v is %d, not %d", w.e, got, w.kind)
		}
	}
}

func TestPromise9KindsOfTrees(t *testing.T) {
	for _, x := range trees() {
		if got := impl.ExprKind(exprColumns(), x.parts()); got != x.kind() {
			t.Fatalf("the kind of %v is %d, not %d", x.parts(), got, x.kind())
		}
	}
}

// kindEnding reads a list of parts from behind: the kind of the expression that ends at a place, and where it begins; -1 if there is none.
func kindEnding(e expr, end int) (int, int) {
	if end < 0 {
		return -1, 0
	}
	p := e[end]
	if p.Kind == impl.PartValue || p.Kind == impl.PartColumn {
		return tree{part: p}.kind(), end
	}
	last, at := kindEnding(e, end-1)
	if p.Kind == impl.PartNone || p.Kind == impl.PartNot {
		if last < 0 || p.Kind == impl.PartNot && last != impl.KindTruth {
			return -1, 0
		}
		return impl.KindTruth, at
	}
	first := -1
	if last > 0 {
		first, at = kindEnding(e, at-1)
	}
	if first < 0 || first != last {
		return -1, 0
	}
	switch p.Kind {
	case impl.PartAdd:
		return wantKind(first == impl.KindNum, impl.KindNum), at
	case impl.PartCompare:
		return impl.KindTruth, at
	}
	return wantKind(first == impl.KindTruth, impl.KindTruth), at
}

func wantKind(holds bool, kind int) int {
	if holds {
		return kind
	}
	return -1
}

// wantAnyKind asks of a list of parts each of which is right where it stands alone.
func wantAnyKind(e expr) int {
	kind, at := kindEnding(e, len(e)-1)
	if at != 0 {
		return -1
	}
	return kind
}

func checkAnyKind(t *testing.T, e expr) {
	t.Helper()
	columns, row := exprColumns(), []impl.Value{num(1), text("a"), truth(1)}
	want := wantAnyKind(e)
	if got := impl.ExprKind(columns, e); got != want {
		t.Fatalf("the kind of %v is %d, not %d", e, got, want)
	}
	if want < 0 {
		checkNoExpr(t, columns, row, e)
	}
}

// checkNoExpr asks that nothing is told of what is no expression on columns.
func checkNoExpr(t *testing.T, columns []impl.Column, row []impl.Value, e expr) {
	t.Helper()
	to := []int{}
	for i := range columns {
		to = append(to, i%4)
	}
	if got := impl.ExprKind(columns, e); got != -1 {
		t.Fatalf("the kind of %v on %v is %d", e, columns, got)
	}
	if got := impl.ExprValue(columns, row, e); got != none() {
		t.Fatalf("the value of %v on %v is %v", e, columns, got)
	}
	if impl.ExprHolds(columns, row, e) {
		t.Fatalf("%v holds on %v", e, columns)
	}
	if got := impl.ExprColumns(columns, e); len(got) != 0 {
		t.Fatalf("%v asks for %v of %v", e, got, columns)
	}
	if got := impl.ExprMoved(columns, e, to); len(got) != 0 {
		t.Fatalf("%v on %v is moved to %v", e, columns, got)
	}
	if got := impl.ExprFolded(columns, e); len(got) != 0 {
		t.Fatalf("%v on %v is reckoned as %v", e, columns, got)
	}
}

func TestPromise9AllShortLists(t *testing.T) {
	signs := expr{val(num(3)), col(0), col(1), col(2), add(), compared(1), both(), either(), not(), gone()}
	level := []expr{{}}
	for length := 0; length <= 5; length++ {
		longer := []expr{}
		for _, e := range level {
			checkAnyKind(t, e)
			for _, p := range signs {
				if length < 5 {
					longer = append(longer, behind(e, expr{p}))
				}
			}
		}
		level = longer
	}
}

// wrongParts cannot stand in an expression on exprColumns, whatever they would take.
func wrongParts() expr {
	list := expr{val(none())}
	for _, wrong := range fewWrongValues() {
		list = append(list, val(wrong))
	}
	for _, n := range []int{math.MinInt, -256, -1, 1, 2, 256, math.MaxInt} {
		list = append(list, impl.Part{Kind: impl.PartValue, N: n, V: num(1)}, impl.Part{Kind: impl.PartValue, N: n, V: truth(1)})
		for _, kind := range []int{impl.PartAdd, impl.PartAnd, impl.PartOr, impl.PartNot, impl.PartNone} {
			list = append(list, impl.Part{Kind: kind, N: n})
		}
	}
	for _, n := range []int{math.MinInt, -256, -3, -1, 3, 4, 256, 257, math.MaxInt} {
		list = append(list, col(n))
	}
	for _, n := range noComparisons() {
		list = append(list, compared(n))
	}
	plain := expr{col(0), col(1), col(2), add(), compared(1), compared(4), both(), either(), not(), gone()}
	for _, v := range []impl.Value{num(0), num(1), text(""), truth(0), truth(1), {N: 1}, {S: "a"}, {Kind: -1}, {Kind: 4}} {
		for _, p := range plain {
			p.V = v
			list = append(list, p)
		}
	}
	for _, kind := range []int{math.MinInt, -256, -8, -1, 0, 9, 10, 255, 256, 257, 258, 264, math.MaxInt} {
		list = append(list, op(kind), impl.Part{Kind: kind, V: num(1)}, impl.Part{Kind: kind, N: 1})
	}
	return list
}

func TestPromise9WrongParts(t *testing.T) {
	columns, row := exprColumns(), []impl.Value{num(1), text("a"), truth(1)}
	fronts := []expr{{}, {col(0)}, {col(1)}, {col(2)}, {col(0), col(0)}, {col(1), col(1)}, {col(2), col(2)}}
	backs := []expr{{}, {gone()}, {col(0), add()}, {col(2), both()}, {val(text("a")), compared(1)}, {gone(), gone(), both()}}
	for _, wrong := range wrongParts() {
		for _, front := range fronts {
			for _, back := range backs {
				checkNoExpr(t, columns, row, behind(front, expr{wrong}, back))
			}
		}
	}
}

func TestPromise9WrongColumns(t *testing.T) {
	for _, columns := range wrongColumns() {
		row := make([]impl.Value, len(columns))
		for i, c := range columns {
			row[i].Kind = c.Kind
		}
		for _, e := range []expr{{val(num(1))}, {val(truth(1))}, {col(0)}, {col(0), gone()}, {col(len(columns) - 1)}} {
			checkNoExpr(t, columns, row, e)
		}
	}
}

func TestPromise9ColumnsThatAreThere(t *testing.T) {
	for _, columns := range allColumns() {
		for n := -1; n <= 5; n++ {
			want := -1
			if n >= 0 && n < len(columns) {
				want = columns[n].Kind
			}
			if got := impl.ExprKind(columns, expr{col(n)}); got != want {
				t.Fatalf("the kind of column %d of %v is %d", n, columns, got)
			}
		}
	}
	if impl.ExprKind(nil, expr{val(num(1))}) != impl.KindNum || impl.ExprKind(nil, expr{col(0)}) != -1 {
		t.Fatal("without columns there are values alone")
	}
}

func TestPromise9PartsLeft(t *testing.T) {
	columns, row := exprColumns(), []impl.Value{num(1), text("a"), truth(1)}
	e := expr{col(2)}
	for len(e) < 12 {
		e = append(e, not())
		if got := impl.ExprKind(columns, e); got != impl.KindTruth {
			t.Fatalf("the kind of %d parts is %d", len(e), got)
		}
	}
	checkNoExpr(t, columns, row, append(e, not()))
	long := expr{col(0)}
	for len(long) < 1001 {
		long = append(long, val(num(0)), add())
		if got := impl.ExprKind(columns, long); (got == impl.KindNum) != (len(long) <= 12) {
			t.Fatalf("the kind of %d parts is %d", len(long), got)
		}
	}
	checkNoExpr(t, columns, row, long)
	checkNoExpr(t, columns, row, slices.Repeat(expr{col(0)}, 1000))
}

func TestPromise9WithItself(t *testing.T) {
	columns := exprColumns()
	for _, x := range trees() {
		e := x.parts()
		for _, by := range comparisons() {
			want := wantKind(2*len(e)+1 <= 12, impl.KindTruth)
			if got := impl.ExprKind(columns, behind(e, e, expr{compared(by)})); got != want {
				t.Fatalf("the kind of %v, compared with itself, is %d", e, got)
			}
		}
		want := wantKind(len(e)+1 <= 12, impl.KindTruth)
		if got := impl.ExprKind(columns, behind(e, expr{gone()})); got != want {
			t.Fatalf("the kind of %v, asked whether there is no value, is %d", e, got)
		}
	}
}

func TestPromise9JustOfOneKind(t *testing.T) {
	columns := exprColumns()
	list := slices.Concat(treesBySize(4)...)
	for i, x := range list {
		for j := i % 5; j < len(list); j += 5 {
			a, b := x.parts(), list[j].parts()
			got := impl.ExprKind(columns, behind(a, b, expr{compared(1 + i%4)}))
			if got != wantKind(x.kind() == list[j].kind(), impl.KindTruth) {
				t.Fatalf("the kind of %v and %v, compared, is %d", a, b, got)
			}
		}
	}
}

func TestPromise10ValuesAsWritten(t *testing.T) {
	columns := exprColumns()
	row := []impl.Value{num(4), text("a"), none()}
	for _, w := range []struct {
		e expr
		v impl.Value
	}{
		{expr{val(num(-12))}, num(-12)},
		{expr{col(0)}, num(4)},
		{expr{col(1)}, text("a")},
		{expr{col(2)}, none()},
		{expr{col(0), val(num(5)), add()}, num(9)},
		{expr{val(num(9999)), val(num(0)), add()}, num(9999)},
		{expr{val(num(9998)), val(num(1)), add()}, num(9999)},
		{expr{val(num(9999)), val(num(1)), add()}, none()},
		{expr{val(num(9999)), val(num(9999)), add()}, none()},
		{expr{val(num(-9999)), val(num(-1)), add()}, none()},
		{expr{val(num(-9998)), val(num(-1)), add()}, num(-9999)},
		{expr{val(num(9999)), val(num(-9999)), add()}, num(0)},
		// What is out of range once is nothing, though the next sum would lead back.
		{expr{val(num(9999)), col(0), add(), val(num(-9999)), add()}, none()},
		{expr{val(num(9999)), col(0), val(num(-9999)), add(), add()}, num(4)},
		{expr{val(num(9999)), col(0), add(), gone()}, truth(1)},
		{expr{val(num(9999)), col(0), add(), col(0), compared(2)}, none()},
		{expr{col(0), val(num(5)), compared(1)}, truth(0)},
		{expr{col(0), val(num(5)), compared(2)}, truth(1)},
		{expr{col(0), val(num(5)), compared(3)}, truth(1)},
		{expr{val(num(5)), col(0), compared(3)}, truth(0)},
		{expr{val(num(5)), col(0), compared(4)}, truth(0)},
		{expr{col(0), col(0), compared(4)}, truth(1)},
		{expr{col(1), val(text("ab")), compared(3)}, truth(1)},
		{expr{val(truth(0)), val(truth(1)), compared(3)}, truth(1)},
		{expr{col(2), col(2), compared(1)}, none()},
		{expr{col(2), val(truth(0)), both()}, truth(0)},
		{expr{val(truth(0)), col(2), both()}, truth(0)},
		{expr{col(2), val(truth(1)), both()}, none()},
		{expr{val(truth(1)), val(truth(1)), both()}, truth(1)},
		{expr{col(2), col(2), both()}, none()},
		{expr{col(2), val(truth(1)), either()}, truth(1)},
		{expr{val(truth(1)), col(2), either()}, truth(1)},
		{expr{col(2), val(truth(0)), either()}, none()},
		{expr{val(truth(0)), val(truth(0)), either()}, truth(0)},
		{expr{col(2), not()}, none()},
		{expr{val(truth(0)), not()}, truth(1)},
		{expr{val(truth(1)), not()}, truth(0)},
		{expr{col(2), gone()}, truth(1)},
		{expr{col(2), not(), gone()}, truth(1)},
		{expr{col(0), gone()}, truth(0)},
		{expr{val(text("")), gone()}, truth(0)},
		{expr{val(truth(0)), gone()}, truth(0)},
	} {
		if got := impl.ExprValue(columns, row, w.e); got != w.v {
			t.Fatalf("the value of %v is %v, not %v", w.e, got, w.v)
		}
		if got := impl.ExprHolds(columns, row, w.e); got != (w.v == truth(1)) {
			t.Fatalf("%v holds: %v", w.e, got)
		}
	}
}

func TestPromise10ValuesOfTrees(t *testing.T) {
	columns, rows := exprColumns(), exprRows()
	for _, x := range trees() {
		e := x.parts()
		for _, row := range rows {
			got, want := impl.ExprValue(columns, row, e), x.value(row)
			if got != want {
				t.Fatalf("the value of %v on %v is %v, not %v", e, row, got, want)
			}
			if got.Kind != impl.ExprKind(columns, e) && got != none() {
				t.Fatalf("the value of %v on %v is %v", e, row, got)
			}
		}
	}
}

func TestPromise10EachSum(t *testing.T) {
	ends := []int{-9999, -9998, -5000, -4999, -1, 0, 1, 4999, 5000, 9998, 9999}
	columns := []impl.Column{{Kind: impl.KindNum}, {Kind: impl.KindNum, Empty: true}}
	for _, a := range ends {
		for b := -9999; b <= 9999; b++ {
			got := impl.ExprValue(columns, []impl.Value{num(a), num(b)}, expr{col(0), col(1), add()})
			if got != wantSum(num(a), num(b)) {
				t.Fatalf("the sum of %d and %d is %v", a, b, got)
			}
		}
		there := impl.ExprValue(columns, []impl.Value{num(a), none()}, expr{col(0), col(1), add()})
		back := impl.ExprValue(columns, []impl.Value{num(a), none()}, expr{col(1), col(0), add()})
		if there != none() || back != none() {
			t.Fatalf("the sum of %d and nothing is %v, turned round %v", a, there, back)
		}
	}
}

func TestPromise10EachComparison(t *testing.T) {
	for i, a := range writtenValues() {
		for j, b := range writtenValues() {
			if a.v.Kind == impl.KindNone || a.v.Kind != b.v.Kind {
				continue
			}
			columns := []impl.Column{{Kind: a.v.Kind}, {Kind: b.v.Kind}}
			for _, by := range comparisons() {
				got := impl.ExprValue(columns, []impl.Value{a.v, b.v}, expr{col(0), col(1), compared(by)})
				if got != truth(wantCompare(by, i, j)) {
					t.Fatalf("comparison %d of %s and %s is %v", by, a.s, b.s, got)
				}
			}
		}
	}
}

func TestPromise10ComparedWithItself(t *testing.T) {
	columns, rows := exprColumns(), exprRows()
	for _, x := range trees() {
		e := x.parts()
		if 2*len(e)+1 > 12 {
			continue
		}
		for _, row := range rows {
			nothing := impl.ExprValue(columns, row, e) == none()
			for _, by := range comparisons() {
				want := truth(truthOfBool(by == impl.CmpSame || by == impl.CmpMost))
				if nothing {
					want = none()
				}
				if got := impl.ExprValue(columns, row, behind(e, e, expr{compared(by)})); got != want {
					t.Fatalf("comparison %d of %v with itself on %v is %v", by, e, row, got)
				}
			}
		}
	}
}

func TestPromise10RowsThatDoNotFit(t *testing.T) {
	columns := exprColumns()
	rows := [][]impl.Value{
		nil,
		{num(1)},
		{num(1), text("a")},
		{num(1), text("a"), truth(1), none()},
		{num(1), none(), truth(1)},
		{none(), none(), none()},
		{text("a"), text("a"), truth(1)},
		{num(1), text("a"), num(1)},
		{truth(1), text("a"), truth(1)},
		{num(10000), text("a"), truth(1)},
		{num(1), text("A"), truth(1)},
		{num(1), text("a"), truth(2)},
		{num(1), text("a"), {N: 1}},
	}
	for _, row := range append(rows, wrongRows()...) {
		for _, e := range []expr{{val(num(3))}, {val(truth(1))}, {col(0)}, {col(2)}, {col(0), col(0), add()}, {col(1), col(1), compared(1)}, {col(0), gone()}, {col(0), gone(), not()}} {
			if got := impl.ExprValue(columns, row, e); got != none() {
				t.Fatalf("the value of %v on %v is %v", e, row, got)
			}
			if impl.ExprHolds(columns, row, e) {
				t.Fatalf("%v holds on %v", e, row)
			}
		}
	}
}

func TestPromise10NoColumns(t *testing.T) {
	e := expr{val(num(2)), val(num(3)), compared(impl.CmpLess)}
	if impl.ExprValue(nil, nil, e) != truth(1) || !impl.ExprHolds([]impl.Column{}, nil, e) || !impl.ExprHolds(nil, []impl.Value{}, e) {
		t.Fatal("without columns an expression has its value on the row without values")
	}
	if impl.ExprValue(nil, []impl.Value{none()}, e) != none() || impl.ExprHolds(nil, []impl.Value{num(1)}, e) {
		t.Fatal("without columns no row with a value fits")
	}
}

func TestPromise11NotBothWays(t *testing.T) {
	columns, rows := exprColumns(), exprRows()
	for _, x := range trees() {
		e := x.parts()
		if x.kind() != impl.KindTruth || len(e) == 12 {
			continue
		}
		turned := behind(e, expr{not()})
		for _, row := range rows {
			v := x.value(row)
			holds, other := impl.ExprHolds(columns, row, e), impl.ExprHolds(columns, row, turned)
			if holds && other {
				t.Fatalf("%v and its not hold on %v", e, row)
			}
			if holds != (v == truth(1)) || other != (v == truth(0)) {
				t.Fatalf("%v holds on %v: %v, its not: %v, and its value is %v", e, row, holds, other, v)
			}
			unknown := impl.ExprValue(columns, row, e) == none()
			if unknown == (holds || other) {
				t.Fatalf("%v holds on %v: %v, its not: %v, it is unknown: %v", e, row, holds, other, unknown)
			}
		}
	}
}

// The twelfth part may be the not itself, and behind it nothing can stand.
func TestPromise11PartsLeft(t *testing.T) {
	columns, row := exprColumns(), []impl.Value{num(1), text("a"), truth(1)}
	e := expr{col(2)}
	for i := 1; i < 12; i++ {
		holds := impl.ExprHolds(columns, row, e)
		e = append(e, not())
		if impl.ExprHolds(columns, row, e) == holds {
			t.Fatalf("%v holds like one not less", e)
		}
	}
	if impl.ExprHolds(columns, row, append(e, not())) {
		t.Fatal("a not too many holds")
	}
}

func TestPromise11OtherKindsDoNotHold(t *testing.T) {
	columns := exprColumns()
	for _, x := range trees() {
		for _, row := range exprRows() {
			if x.kind() != impl.KindTruth && impl.ExprHolds(columns, row, x.parts()) {
				t.Fatalf("%v holds on %v", x.parts(), row)
			}
		}
	}
	row := []impl.Value{num(1), text("true"), truth(1)}
	for _, e := range []expr{{val(num(1))}, {col(0)}, {col(1)}, {val(text("true"))}} {
		if impl.ExprHolds(columns, row, e) {
			t.Fatalf("%v holds, but is no truth", e)
		}
	}
}

// orders are all lists of the first numbers, each once.
func orders(many int) [][]int {
	list := [][]int{{}}
	for n := 0; n < many; n++ {
		longer := [][]int{}
		for _, o := range list {
			for at := 0; at <= len(o); at++ {
				longer = append(longer, slices.Insert(slices.Clone(o), at, n))
			}
		}
		list = longer
	}
	return list
}

func TestPromise12AllPlaces(t *testing.T) {
	columns, rows, list := exprColumns(), exprRows(), trees()
	for _, to := range orders(3) {
		there := make([]impl.Column, 3)
		for i, place := range to {
			there[place] = columns[i]
		}
		for i := 0; i < len(list); i += 2 {
			e := list[i].parts()
			moved := impl.ExprMoved(columns, e, to)
			if impl.ExprKind(there, moved) != list[i].kind() {
				t.Fatalf("%v moved to %v is %v", e, to, moved)
			}
			for _, row := range rows {
				turned := make([]impl.Value, 3)
				for i, place := range to {
					turned[place] = row[i]
				}
				if got := impl.ExprValue(there, turned, moved); got != impl.ExprValue(columns, row, e) {
					t.Fatalf("the value of %v moved to %v is %v on %v", e, to, got, row)
				}
			}
		}
	}
}

func TestPromise12AsWritten(t *testing.T) {
	columns := []impl.Column{{Kind: impl.KindNum}, {Kind: impl.KindNum}, {Kind: impl.KindNum}, {Kind: impl.KindTruth}}
	e := expr{col(0), col(2), add(), col(0), compared(2), val(num(1)), gone(), both(), col(3), either()}
	// A column may be named more than once, and even, in the last list, for columns of unlike kinds.
	for _, to := range [][]int{{0, 1, 2, 3}, {3, 2, 1, 0}, {1, 0, 3, 2}, {1, 1, 1, 0}, {2, 0, 2, 1}, {2, 2, 2, 2}} {
		want := expr{col(to[0]), col(to[2]), add(), col(to[0]), compared(2), val(num(1)), gone(), both(), col(to[3]), either()}
		if got := impl.ExprMoved(columns, e, to); !slices.Equal(got, want) {
			t.Fatalf("%v moved to %v is %v", e, to, got)
		}
	}
	few := columns[:2]
	sum := expr{col(1), col(0), add()}
	for _, w := range []struct {
		to   []int
		want expr
	}{
		{[]int{0, 3}, expr{col(3), col(0), add()}},
		{[]int{3, 1}, expr{col(1), col(3), add()}},
		{[]int{2, 2}, expr{col(2), col(2), add()}},
	} {
		if got := impl.ExprMoved(few, sum, w.to); !slices.Equal(got, w.want) {
			t.Fatalf("%v moved to %v is %v", sum, w.to, got)
		}
	}
	// Numbers that are kinds of comparisons are no columns.
	if got := impl.ExprMoved(few, expr{col(0), col(1), compared(1)}, []int{2, 3}); !slices.Equal(got, expr{col(2), col(3), compared(1)}) {
		t.Fatalf("a comparison is moved to %v", got)
	}
	if got := impl.ExprMoved(nil, expr{val(num(1))}, nil); !slices.Equal(got, expr{val(num(1))}) {
		t.Fatalf("a value without columns is moved to %v", got)
	}
}

func TestPromise12OtherPlaces(t *testing.T) {
	columns := exprColumns()
	lists := [][]int{nil, {}, {0}, {0, 1}, {0, 1, 2, 3}, {0, 1, 2, 0}, {0, 1, 2, -1}}
	for _, wrong := range []int{math.MinInt, -256, -1, 4, 5, 256, 257, math.MaxInt} {
		lists = append(lists, []int{wrong, 1, 2}, []int{0, wrong, 2}, []int{0, 1, wrong})
	}
	// A place counts, asked for or not.
	for _, e := range []expr{{col(0)}, {col(1)}, {col(2)}, {val(num(3))}, {col(0), gone()}, {col(0), col(0), add()}} {
		for _, to := range lists {
			if got := impl.ExprMoved(columns, e, to); len(got) != 0 {
				t.Fatalf("%v moved to %v is %v", e, to, got)
			}
		}
	}
	if got := impl.ExprMoved(nil, expr{val(num(1))}, []int{0}); len(got) != 0 {
		t.Fatalf("a place too many: %v", got)
	}
}

func TestPromise13AsWritten(t *testing.T) {
	columns := exprColumns()
	for _, w := range []struct{ e, want expr }{
		{expr{val(num(5)), val(num(5)), add()}, expr{val(num(10))}},
		{expr{val(text("a")), val(text("b")), compared(3)}, expr{val(truth(1))}},
		{expr{val(truth(1)), not()}, expr{val(truth(0))}},
		{expr{val(num(9999)), val(num(1)), add(), gone()}, expr{val(truth(1))}},
		{expr{val(num(9999)), val(num(1)), add(), val(num(3)), compared(1), val(truth(0)), both()}, expr{val(truth(0))}},
		{expr{val(text("q"))}, expr{val(text("q"))}},
		// Nothing cannot be put down as a value.
		{expr{val(num(9999)), val(num(1)), add()}, expr{val(num(9999)), val(num(1)), add()}},
		{expr{val(num(-9999)), val(num(-1)), add(), val(num(3)), compared(4)}, expr{val(num(-9999)), val(num(-1)), add(), val(num(3)), compared(4)}},
		// A column is asked for, though it matters nothing; and parts of an expression are not reckoned alone.
		{expr{col(2), val(truth(1)), either()}, expr{col(2), val(truth(1)), either()}},
		{expr{col(1), gone()}, expr{col(1), gone()}},
		{expr{col(0)}, expr{col(0)}},
		{expr{val(num(2)), val(num(3)), add(), col(0), add()}, expr{val(num(2)), val(num(3)), add(), col(0), add()}},
	} {
		if got := impl.ExprFolded(columns, w.e); !slices.Equal(got, w.want) {
			t.Fatalf("%v is reckoned as %v, not %v", w.e, got, w.want)
		}
	}
	if got := impl.ExprFolded(nil, expr{val(num(2)), val(num(3)), add()}); !slices.Equal(got, expr{val(num(5))}) {
		t.Fatalf("without columns a sum is reckoned as %v", got)
	}
}

func TestPromise13TheSame(t *testing.T) {
	columns, rows := exprColumns(), exprRows()
	for _, x := range trees() {
		e := x.parts()
		folded := impl.ExprFolded(columns, e)
		want := e
		if v := x.value(rows[0]); len(x.columns()) == 0 && v != none() {
			want = expr{val(v)}
		}
		if !slices.Equal(folded, want) {
			t.Fatalf("%v is reckoned as %v, not %v", e, folded, want)
		}
		if impl.ExprKind(columns, folded) != impl.ExprKind(columns, e) || len(folded) > len(e) {
			t.Fatalf("%v is reckoned as %v", e, folded)
		}
		for _, row := range rows {
			if impl.ExprValue(columns, row, folded) != impl.ExprValue(columns, row, e) {
				t.Fatalf("%v is reckoned as %v, which has another value on %v", e, folded, row)
			}
		}
	}
}

func TestPromise158AsWritten(t *testing.T) {
	columns := []impl.Column{{Kind: impl.KindNum}, {Kind: impl.KindNum}, {Kind: impl.KindNum}, {Kind: impl.KindTruth}}
	for _, w := range []struct {
		e    expr
		want []int
	}{
		{expr{val(num(3))}, []int{}},
		{expr{val(num(1)), val(num(2)), compared(3)}, []int{}},
		{expr{col(3)}, []int{3}},
		{expr{col(2), col(0), add()}, []int{0, 2}},
		{expr{col(1), col(1), add(), col(1), add()}, []int{1}},
		{expr{col(2), col(1), add(), col(0), compared(3), col(3), both()}, []int{0, 1, 2, 3}},
		// It is asked for, whether it matters or not.
		{expr{col(3), val(truth(1)), either()}, []int{3}},
	} {
		if got := impl.ExprColumns(columns, w.e); !slices.Equal(got, w.want) {
			t.Fatalf("%v asks for %v, not %v", w.e, got, w.want)
		}
	}
	if got := impl.ExprColumns(nil, expr{val(num(3))}); len(got) != 0 {
		t.Fatalf("without columns %v are asked for", got)
	}
}

func TestPromise158OtherColumns(t *testing.T) {
	columns, rows, list := exprColumns(), exprRows(), trees()
	for i := 0; i < len(list); i += 3 {
		e, asked := list[i].parts(), impl.ExprColumns(columns, list[i].parts())
		if !slices.Equal(asked, list[i].columns()) {
			t.Fatalf("%v asks for %v, not %v", e, asked, list[i].columns())
		}
		for _, row := range rows {
			v := impl.ExprValue(columns, row, e)
			for _, other := range rows {
				turned := slices.Clone(other)
				for _, n := range asked {
					turned[n] = row[n]
				}
				if impl.ExprValue(columns, turned, e) != v {
					t.Fatalf("%v has another value on %v than on %v", e, turned, row)
				}
			}
		}
	}
}

// What asks of expressions may not write into them, nor into the room behind them.
func TestExpressionsAreNotWritten(t *testing.T) {
	columns := append(exprColumns(), impl.Column{Kind: 77}, impl.Column{Kind: 78})
	row := []impl.Value{num(4), text("a"), truth(1), num(41), num(42)}
	to := []int{2, 0, 1, 43, 44}
	for _, x := range slices.Concat(treesBySize(4)...) {
		e := append(x.parts(), op(45), op(46))
		was := slices.Clone(e)
		short := e[:len(e)-2]
		impl.ExprKind(columns[:3], short)
		impl.ExprValue(columns[:3], row[:3], short)
		impl.ExprHolds(columns[:3], row[:3], short)
		impl.ExprColumns(columns[:3], short)
		impl.ExprMoved(columns[:3], short, to[:3])
		impl.ExprFolded(columns[:3], short)
		if !slices.Equal(e, was) {
			t.Fatalf("%v became %v", was, e)
		}
	}
	if !slices.Equal(columns, append(exprColumns(), impl.Column{Kind: 77}, impl.Column{Kind: 78})) {
		t.Fatalf("columns became %v", columns)
	}
	if !sameRow(row, []impl.Value{num(4), text("a"), truth(1), num(41), num(42)}) || !slices.Equal(to, []int{2, 0, 1, 43, 44}) {
		t.Fatalf("a row became %v, a list %v", row, to)
	}
}

// checkHangs writes over an answer and asks that the argument and another answer stay as they were.
func checkHangs(t *testing.T, given expr, was expr, answer expr, other expr) {
	t.Helper()
	kept := slices.Clone(other)
	for i := range answer {
		answer[i] = op(99)
	}
	_ = append(answer, op(98))
	if !slices.Equal(given, was) || !slices.Equal(other, kept) {
		t.Fatalf("an answer of %v hangs on it, or on another one", was)
	}
}

func TestExpressionsAreNewMemory(t *testing.T) {
	columns, to := exprColumns(), []int{0, 1, 2}
	for _, x := range slices.Concat(treesBySize(4)...) {
		e, was := x.parts(), x.parts()
		checkHangs(t, e, was, impl.ExprMoved(columns, e, to), impl.ExprMoved(columns, e, to))
		checkHangs(t, e, was, impl.ExprFolded(columns, e), impl.ExprFolded(columns, e))
		first, other := impl.ExprColumns(columns, e), impl.ExprColumns(columns, e)
		for i := range first {
			first[i] = 99
		}
		if !slices.Equal(other, x.columns()) {
			t.Fatalf("the columns of %v hang on another answer", e)
		}
	}
}
