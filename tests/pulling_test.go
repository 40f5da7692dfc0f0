package tests

import (
	"math"
	"slices"
	"testing"

	"loop.example/tablehouse/impl"
)

// puller gives the next row, and false if there is none any more.
type puller func() ([]impl.Value, bool)

// pulling is the document's sentences once more, as steps that ask each other for one row: reads rises with each row of a table that is read. It is asked of a plan.
func pulling(tables []impl.Table, p plan, reads *int) puller {
	s := p[len(p)-1]
	if s.Kind == impl.StepTable {
		return pullTable(tables[s.N].Rows, reads)
	}
	a, b := p[:s.A+1], p[:s.B+1]
	columns, _, _ := wantStep(tables, p, len(p)-1)
	switch s.Kind {
	case impl.StepWhere:
		return pullHeld(columns, pulling(tables, a, reads), s.E)
	case impl.StepTake:
		return pullTaken(pulling(tables, a, reads), s.List)
	case impl.StepBoth:
		return pullBehind(pulling(tables, a, reads), pulling(tables, b, reads))
	case impl.StepOnce:
		return pullOnce(pulling(tables, a, reads))
	}
	first := pulling(tables, a, reads)
	anew := func() puller { return pulling(tables, b, reads) }
	return pullHeld(columns, pullBeside(first, anew), s.E)
}

func pullTable(rows bag, reads *int) puller {
	next := 0
	return func() ([]impl.Value, bool) {
		if next == len(rows) {
			return nil, false
		}
		next++
		*reads++
		return rows[next-1], true
	}
}

func pullHeld(columns []impl.Column, of puller, e expr) puller {
	return func() ([]impl.Value, bool) {
		row, ok := of()
		for ok && !impl.ExprHolds(columns, row, e) {
			row, ok = of()
		}
		return row, ok
	}
}

func pullTaken(of puller, list []int) puller {
	return func() ([]impl.Value, bool) {
		row, ok := of()
		if !ok {
			return nil, false
		}
		taken := []impl.Value{}
		for _, n := range list {
			taken = append(taken, row[n])
		}
		return taken, true
	}
}

func pullBehind(first puller, second puller) puller {
	ended := false
	return func() ([]impl.Value, bool) {
		if !ended {
			if row, ok := first(); ok {
				return row, true
			}
			ended = true
		}
		return second()
	}
}

func pullOnce(of puller) puller {
	seen := bag{}
	return func() ([]impl.Value, bool) {
		row, ok := of()
		for ok && wantMany(seen, row) > 0 {
			row, ok = of()
		}
		seen = append(seen, row)
		return row, ok
	}
}

// pullBeside makes the second step anew for each row of the first one.
func pullBeside(first puller, anew func() puller) puller {
	row, second := []impl.Value{}, puller(nil)
	return func() ([]impl.Value, bool) {
		for {
			if second != nil {
				if other, ok := second(); ok {
					return slices.Concat(row, other), true
				}
			}
			next, ok := first()
			if !ok {
				return nil, false
			}
			row, second = next, anew()
		}
	}
}

// wantPulled are the rows of a plan, how many rows of tables are read when each of them comes, and how many at its end.
func wantPulled(tables []impl.Table, p plan) (bag, []int, int) {
	rows, counts, reads := bag{}, []int{}, 0
	next := pulling(tables, p, &reads)
	for row, ok := next(); ok; row, ok = next() {
		rows, counts = append(rows, row), append(counts, reads)
	}
	return rows, counts, reads
}

// houses are tables, these turned round, and these with each of them without rows.
func houses() [][]impl.Table {
	tables := house()
	return [][]impl.Table{tables, roundTables(tables), othersEmptied(tables, []int{1, 2}), othersEmptied(tables, []int{0, 2}), othersEmptied(tables, []int{0, 1}), othersEmptied(tables, nil)}
}

// farNumbers are not the number of a row, and no row comes when so many are asked for, or all do.
func farNumbers() []int {
	return []int{math.MinInt, math.MinInt + 1, -65536, -256, -2, -1, math.MaxInt - 1, math.MaxInt}
}

func checkRowAt(t *testing.T, tables []impl.Table, p plan, number int, want []impl.Value) {
	t.Helper()
	if row, ok := impl.RowAt(tables, p, number); !ok || !sameRow(row, want) {
		t.Fatalf("the row %d of %v is %v, %v, not %v", number, p, row, ok, want)
	}
}

func checkNoRowAt(t *testing.T, tables []impl.Table, p plan, number int) {
	t.Helper()
	if row, ok := impl.RowAt(tables, p, number); ok || len(row) != 0 {
		t.Fatalf("the row %d of %v is %v, %v, on %v", number, p, row, ok, tables)
	}
}

func checkFirst(t *testing.T, tables []impl.Table, p plan, most int, want bag) {
	t.Helper()
	if rows := impl.RowsFirst(tables, p, most); !sameRows(rows, want) {
		t.Fatalf("the first %d rows of %v are %v, not %v", most, p, rows, want)
	}
}

func checkReads(t *testing.T, tables []impl.Table, p plan, most int, want int) {
	t.Helper()
	if reads := impl.RowReads(tables, p, most); reads != want {
		t.Fatalf("%d rows of %v come with %d rows read, not %d, on %v", most, p, reads, want, tables)
	}
}

// checkPulled asks for just these rows, and for just so many reads: one number for each row, and one more for the end.
func checkPulled(t *testing.T, tables []impl.Table, p plan, rows bag, reads []int) {
	t.Helper()
	checkRows(t, tables, p, rows)
	for i, row := range rows {
		checkRowAt(t, tables, p, i, row)
		checkFirst(t, tables, p, i+1, rows[:i+1])
		checkReads(t, tables, p, i+1, reads[i])
	}
	checkNoRowAt(t, tables, p, len(rows))
	checkReads(t, tables, p, 0, 0)
	for _, more := range []int{1, 2, 255, 256, 1 << 32} {
		checkFirst(t, tables, p, len(rows)+more, rows)
		checkReads(t, tables, p, len(rows)+more, reads[len(rows)])
	}
}

// checkNothingPulled asks that nothing comes of what is no plan, whatever is asked for.
func checkNothingPulled(t *testing.T, tables []impl.Table, p plan) {
	t.Helper()
	for _, n := range append(farNumbers(), 0, 1, 2, 7) {
		checkNoRowAt(t, tables, p, n)
		checkFirst(t, tables, p, n, bag{})
		checkReads(t, tables, p, n, -1)
	}
}

func TestPromise23RowsOneAtATime(t *testing.T) {
	for at, tables := range houses()[:2] {
		most := 0
		for i, p := range append(plans(), chains()...) {
			if at > 0 && i%3 != 0 {
				continue
			}
			rows := impl.PlanRows(tables, p)
			for n, row := range rows {
				checkRowAt(t, tables, p, n, row)
			}
			checkNoRowAt(t, tables, p, len(rows))
			most = max(most, len(rows))
		}
		if most < 50 {
			t.Fatalf("no plan has more than %d rows", most)
		}
	}
}

func TestPromise23TablesWithoutRows(t *testing.T) {
	for _, tables := range houses()[2:] {
		for i, p := range append(plans(), chains()...) {
			if i%5 != 0 {
				continue
			}
			rows := wantPlanRows(tables, p)
			for n, row := range rows {
				checkRowAt(t, tables, p, n, row)
			}
			checkNoRowAt(t, tables, p, len(rows))
		}
	}
}

func TestPromise23OtherNumbers(t *testing.T) {
	tables := house()
	for _, w := range []struct {
		p    plan
		many int
	}{
		{plan{fromTable(0)}, 4},
		{plan{fromTable(2)}, 2},
		{plan{fromTable(1), where(0, isTwo(0)...)}, 2},
		{plan{fromTable(1), where(0, val(truth(0)))}, 0},
		{plan{fromTable(1), once(0)}, 3},
		{plan{fromTable(0), take(0), once(1)}, 1},
		{plan{fromTable(1), oneBehind(0, 0)}, 8},
		{plan{fromTable(1), join(0, 0, always()...)}, 16},
	} {
		for n := 0; n < w.many; n++ {
			checkRowAt(t, tables, w.p, n, wantPlanRows(tables, w.p)[n])
		}
		for _, n := range append(farNumbers(), w.many, w.many+1, w.many+255, 256, 1<<32) {
			checkNoRowAt(t, tables, w.p, n)
		}
	}
}

// A row without values is a row.
func TestPromise23RowsWithoutValues(t *testing.T) {
	tables := house()
	for _, p := range []plan{{fromTable(2)}, {fromTable(2), join(0, 0, always()...)}, {fromTable(2), oneBehind(0, 0)}, {fromTable(0), take(0)}, {fromTable(2), once(0)}} {
		many := len(wantPlanRows(tables, p))
		for n := 0; n < many; n++ {
			checkRowAt(t, tables, p, n, []impl.Value{})
		}
		checkNoRowAt(t, tables, p, many)
		checkFirst(t, tables, p, 1, bag{{}})
	}
}

// What is behind a step by one step that names it is not there by another one.
func TestPromise23StepsThatAreNamedByMany(t *testing.T) {
	for many := 1; many <= impl.MaxRows; many++ {
		tables := []impl.Table{{Columns: []impl.Column{{Kind: 1}}}, {Columns: []impl.Column{{Kind: 1}}, Rows: bag{{num(11)}, {num(12)}}}}
		for n := 0; n < many; n++ {
			tables[0].Rows = append(tables[0].Rows, []impl.Value{num(n)})
		}
		for _, last := range []impl.Step{oneBehind(2, 3), oneBehind(3, 2), join(2, 3, always()...)} {
			p := plan{fromTable(0), fromTable(1), oneBehind(0, 1), oneBehind(0, 0), last}
			rows, counts, end := wantPulled(tables, p)
			checkPulled(t, tables, p, rows, append(counts, end))
		}
	}
}

// As many rows as a step may have come one at a time, too.
func TestPromise23ThreeHundredRows(t *testing.T) {
	tables := []impl.Table{{Columns: []impl.Column{{Kind: 1}}, Rows: bag{{num(0)}, {num(1)}, {num(2)}, {num(3)}, {num(4)}, {num(5)}}}}
	p := plan{fromTable(0), oneBehind(0, 0), take(1), join(1, 2, always()...), oneBehind(3, 0), oneBehind(4, 4)}
	rows, counts, end := wantPulled(tables, p)
	if len(rows) != 300 || end != 324 {
		t.Fatalf("%d rows come with %d rows read", len(rows), end)
	}
	checkPulled(t, tables, p, rows, append(counts, end))
}

func TestPromise24TheFirstRows(t *testing.T) {
	for at, tables := range houses() {
		for i, p := range append(plans(), chains()...) {
			if i%3 != at%3 {
				continue
			}
			rows := wantPlanRows(tables, p)
			for many := 0; many <= len(rows); many += 1 + many/8 {
				checkFirst(t, tables, p, many, rows[:many])
			}
			checkFirst(t, tables, p, len(rows), rows)
			checkFirst(t, tables, p, len(rows)+1, rows)
		}
	}
}

func TestPromise24ThoseAtEachNumber(t *testing.T) {
	tables := house()
	for i, p := range plans() {
		if i%11 != 0 {
			continue
		}
		first := impl.RowsFirst(tables, p, 5)
		for n, row := range first {
			checkRowAt(t, tables, p, n, row)
		}
		if len(first) < 5 {
			checkNoRowAt(t, tables, p, len(first))
		}
	}
}

// There are no first rows if fewer than one are asked for, and all of them if more are than there are.
func TestPromise24FewerAndMore(t *testing.T) {
	tables := house()
	for _, p := range []plan{
		{fromTable(0)}, {fromTable(1)}, {fromTable(2)}, {fromTable(1), where(0, isTwo(0)...)}, {fromTable(1), where(0, val(truth(0)))},
		{fromTable(0), take(0, 1)}, {fromTable(1), join(0, 0, always()...)}, {fromTable(1), oneBehind(0, 0)}, {fromTable(1), once(0)},
	} {
		rows := wantPlanRows(tables, p)
		for _, n := range farNumbers() {
			if n < 1 {
				checkFirst(t, tables, p, n, bag{})
			} else {
				checkFirst(t, tables, p, n, rows)
			}
		}
		checkFirst(t, tables, p, 0, bag{})
		checkFirst(t, tables, p, 255, rows)
		checkFirst(t, tables, p, 256, rows)
	}
}

func TestPromise25Reads(t *testing.T) {
	for at, tables := range houses() {
		late := 0
		for i, p := range append(plans(), chains()...) {
			if at > 1 && i%5 != at {
				continue
			}
			rows, counts, end := wantPulled(tables, p)
			if !sameRows(rows, wantPlanRows(tables, p)) {
				t.Fatalf("%v yields %v one at a time", p, rows)
			}
			for n := 1; n <= len(rows); n += 1 + n/8 {
				checkReads(t, tables, p, n, counts[n-1])
			}
			if len(rows) > 0 {
				checkReads(t, tables, p, len(rows), counts[len(rows)-1])
			}
			if len(rows) > 0 && counts[len(rows)-1] < end {
				late++
			}
			checkReads(t, tables, p, 0, 0)
			checkReads(t, tables, p, len(rows)+1, end)
			checkReads(t, tables, p, len(rows)+2, end)
		}
		if at < 2 && late < 100 {
			t.Fatalf("%d plans read something behind their last row", late)
		}
	}
}

func TestPromise25FewerRowsReadNoMore(t *testing.T) {
	tables := house()
	for _, p := range append(plans(), chains()...) {
		many := len(impl.PlanRows(tables, p))
		before := impl.RowReads(tables, p, 0)
		for n := 1; n <= many+2; n += 1 + n/16 {
			reads := impl.RowReads(tables, p, n)
			if reads < before {
				t.Fatalf("%d rows of %v come with %d rows read, and fewer ones with %d", n, p, reads, before)
			}
			if many > 0 && reads < 1 {
				t.Fatalf("nothing is read for %d rows of %v", n, p)
			}
			before = reads
		}
	}
}

// A plan of one table alone reads it at most once.
func TestPromise25OneTable(t *testing.T) {
	tables, seen := house(), 0
	for _, p := range append(plans(), chains()...) {
		if slices.ContainsFunc(wantTidy(p), func(s impl.Step) bool { return s.Kind == impl.StepJoin || s.Kind == impl.StepBoth }) {
			continue
		}
		seen++
		table := tables[wantPlanTables(p)[0]]
		many := len(impl.PlanRows(tables, p))
		for n := 1; n <= many+1; n++ {
			if reads := impl.RowReads(tables, p, n); reads < min(n, many) || reads > len(table.Rows) {
				t.Fatalf("%d rows of %v come with %d rows read", n, p, reads)
			}
		}
		checkReads(t, tables, p, many+1, len(table.Rows))
	}
	if seen < 100 {
		t.Fatalf("%d plans are of one table alone", seen)
	}
}

func TestPromise25AsWritten(t *testing.T) {
	tables := house()
	two, one, gap := []impl.Value{num(2)}, []impl.Value{num(1)}, []impl.Value{none()}
	never := val(truth(0))
	for _, w := range []struct {
		p     plan
		rows  bag
		reads []int
	}{
		{plan{fromTable(1)}, bag{two, gap, one, two}, []int{1, 2, 3, 4, 4}},
		// A test reads what it does not yield, behind the last row, too.
		{plan{fromTable(1), where(0, isTwo(0)...)}, bag{two, two}, []int{1, 4, 4}},
		{plan{fromTable(1), where(0, col(0), gone())}, bag{gap}, []int{2, 4}},
		{plan{fromTable(1), where(0, never)}, bag{}, []int{4}},
		{plan{fromTable(1), take(0)}, bag{{}, {}, {}, {}}, []int{1, 2, 3, 4, 4}},
		{plan{fromTable(1), take(0), once(1)}, bag{{}}, []int{1, 4}},
		{plan{fromTable(1), once(0)}, bag{two, gap, one}, []int{1, 2, 3, 4}},
		{plan{fromTable(1), where(0, isTwo(0)...), once(1)}, bag{two}, []int{1, 4}},
		// The first step is asked to its end ahead of the second one.
		{plan{fromTable(1), where(0, col(0), gone()), oneBehind(1, 0)}, bag{gap, two, gap, one, two}, []int{2, 5, 6, 7, 8, 8}},
		{plan{fromTable(1), where(0, never), oneBehind(1, 0)}, bag{two, gap, one, two}, []int{5, 6, 7, 8, 8}},
		{plan{fromTable(1), where(0, never), oneBehind(0, 1)}, bag{two, gap, one, two}, []int{1, 2, 3, 4, 8}},
		{plan{fromTable(1), where(0, never), oneBehind(1, 1)}, bag{}, []int{8}},
		{plan{fromTable(1), where(0, isTwo(0)...), oneBehind(1, 1), once(2)}, bag{two}, []int{1, 8}},
		// The second step of a join is asked anew for each row of the first one.
		{plan{fromTable(2), join(0, 0, always()...)}, bag{{}, {}, {}, {}}, []int{2, 3, 5, 6, 6}},
		{plan{fromTable(1), where(0, isTwo(0)...), fromTable(2), join(1, 2, always()...)}, bag{two, two, two, two}, []int{2, 3, 7, 8, 8}},
		{plan{fromTable(1), where(0, col(0), gone()), fromTable(2), join(1, 2, always()...)}, bag{gap, gap}, []int{3, 4, 6}},
		{plan{fromTable(1), where(0, col(0), gone()), fromTable(2), join(2, 1, always()...)}, bag{gap, gap}, []int{3, 8, 10}},
		{plan{fromTable(1), fromTable(2), join(0, 1, isTwo(0)...)}, bag{two, two, two, two}, []int{2, 3, 11, 12, 12}},
		{plan{fromTable(1), fromTable(2), join(0, 1, isTwo(0)...), once(2)}, bag{two}, []int{2, 12}},
		{plan{fromTable(2), join(0, 0, always()...), join(1, 0, never)}, bag{}, []int{14}},
	} {
		checkPulled(t, tables, w.p, w.rows, w.reads)
	}
}

// A second step without rows is asked all the same, as often as the first one has rows; without these it is not asked at all.
func TestPromise25SecondStepsWithoutRows(t *testing.T) {
	tables := append(house()[:2], impl.Table{Columns: []impl.Column{{Kind: impl.KindText}}})
	yes, never := always(), val(truth(0))
	for _, w := range []struct {
		p   plan
		end int
	}{
		{plan{fromTable(1), fromTable(2), join(0, 1, yes...)}, 4},
		{plan{fromTable(1), fromTable(2), join(1, 0, yes...)}, 0},
		{plan{fromTable(2), join(0, 0, yes...)}, 0},
		{plan{fromTable(1), where(0, never), join(0, 1, yes...)}, 20},
		{plan{fromTable(1), where(0, never), join(1, 0, yes...)}, 4},
		{plan{fromTable(1), where(0, never), join(1, 1, yes...)}, 4},
		{plan{fromTable(1), where(0, isTwo(0)...), where(0, never), join(1, 2, yes...)}, 12},
		{plan{fromTable(1), where(0, never), oneBehind(1, 1), join(0, 2, yes...)}, 36},
		{plan{fromTable(1), where(0, never), join(0, 1, yes...), join(0, 2, yes...)}, 84},
		{plan{fromTable(1), where(0, never), once(1), take(2), join(0, 3, yes...)}, 20},
		{plan{fromTable(1), fromTable(2), join(0, 1, yes...), take(2, 0), oneBehind(3, 3)}, 8},
	} {
		checkPulled(t, tables, w.p, bag{}, []int{w.end})
	}
	// Other rows come all the same.
	p := plan{fromTable(1), where(0, never), join(0, 1, yes...), take(2, 0), oneBehind(3, 0)}
	checkPulled(t, tables, p, tables[1].Rows, []int{21, 22, 23, 24, 24})
}

// A step that is named twice is done twice, by a join and by one behind the other; on what nothing hangs is not done.
func TestPromise25StepsThatAreNamedTwice(t *testing.T) {
	tables := house()
	for _, w := range []struct {
		p   plan
		end int
	}{
		{plan{fromTable(1), oneBehind(0, 0)}, 8},
		{plan{fromTable(1), fromTable(1), oneBehind(0, 1)}, 8},
		{plan{fromTable(1), oneBehind(0, 0), oneBehind(1, 1), oneBehind(2, 2)}, 32},
		{plan{fromTable(1), where(0, isTwo(0)...), oneBehind(1, 0), oneBehind(2, 1)}, 12},
		{plan{fromTable(1), join(0, 0, always()...)}, 20},
		{plan{fromTable(1), once(0), join(1, 1, always()...), oneBehind(2, 2)}, 32},
		{plan{fromTable(0), oneBehind(0, 0), fromTable(1)}, 4},
		{plan{fromTable(0), fromTable(1), join(0, 1, always()...), once(1)}, 4},
	} {
		checkReads(t, tables, w.p, 301, w.end)
		if _, _, end := wantPulled(tables, w.p); end != w.end {
			t.Fatalf("%v reads %d rows of tables, not %d", w.p, end, w.end)
		}
	}
}

func TestPromise25FewerAndMore(t *testing.T) {
	tables := house()
	for _, p := range []plan{
		{fromTable(0)}, {fromTable(2)}, {fromTable(1), where(0, isTwo(0)...)}, {fromTable(1), where(0, val(truth(0)))},
		{fromTable(0), take(0, 1)}, {fromTable(1), join(0, 0, always()...)}, {fromTable(1), oneBehind(0, 0)}, {fromTable(1), once(0)},
	} {
		_, _, end := wantPulled(tables, p)
		for _, n := range farNumbers() {
			if n < 1 {
				checkReads(t, tables, p, n, 0)
			} else {
				checkReads(t, tables, p, n, end)
			}
		}
	}
	empty := []impl.Table{{Columns: []impl.Column{{Kind: impl.KindTruth}}}}
	checkPulled(t, empty, plan{fromTable(0)}, bag{}, []int{0})
}

// What is no plan has no rows, and -1 is told of it even where no row is asked for.
func TestPromise25WhatIsNoPlan(t *testing.T) {
	tables, others := house(), 0
	for _, p := range plansAndOthers() {
		if !wantPlan(tables, p) {
			others++
			checkNoRowAt(t, tables, p, 0)
			checkFirst(t, tables, p, 1, bag{})
			checkReads(t, tables, p, 1, -1)
			checkReads(t, tables, p, 0, -1)
		}
	}
	if others < 1000 {
		t.Fatalf("%d are no plans", others)
	}
	for _, p := range []plan{nil, {}, {fromTable(3)}, {fromTable(-1)}, {once(0)}, {fromTable(0), once(1)}, {fromTable(3), fromTable(0)}, {fromTable(0), once(2), fromTable(0)}, slices.Repeat(plan{fromTable(0)}, 7)} {
		checkNothingPulled(t, tables, p)
	}
	for _, given := range append(noTables(), nil, []impl.Table{}) {
		checkNothingPulled(t, given, plan{fromTable(0)})
		checkNothingPulled(t, given, nil)
	}
}

// overwriteRow writes over a row and the room behind it.
func overwriteRow(row []impl.Value) {
	for i := range row {
		row[i] = num(77)
	}
	_ = append(row, num(78))
}

// checkRowsShareNothing writes over rows that a plan gave, one after the other, and asks that those behind stay what they were.
func checkRowsShareNothing(t *testing.T, p plan, rows bag, want bag) {
	t.Helper()
	for n := range rows {
		overwriteRow(rows[n])
		if n+1 < len(rows) && !sameRow(rows[n+1], want[n+1]) {
			t.Fatalf("rows of %v share memory", p)
		}
	}
	overwrite(rows)
}

// Rows that are asked for share no memory with tables, nor with each other, and neither tables nor plans are written.
func TestPulledRowsAreNewMemory(t *testing.T) {
	tables := house()
	for i, p := range append(plans(), chains()...) {
		if i%4 != 0 {
			continue
		}
		given, steps := roomyTables(tables), roomyPlan(p)
		rows := wantPlanRows(tables, p)
		first := impl.RowsFirst(given, steps, len(rows))
		checkRowsShareNothing(t, p, first, rows)
		for n := range rows[:min(len(rows), 5)] {
			row, _ := impl.RowAt(given, steps, n)
			overwriteRow(row)
			again, _ := impl.RowAt(given, steps, n)
			if !sameRow(again, rows[n]) {
				t.Fatalf("the row %d of %v became %v", n, p, again)
			}
		}
		impl.RowReads(given, steps, len(rows))
		checkNotWritten(t, given, tables, steps, p)
	}
}
