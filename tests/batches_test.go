package tests

import (
	"math"
	"slices"
	"testing"

	"loop.example/tablehouse/impl"
)

// batchFrom lays rows of so many values out as columns.
func batchFrom(columns int, rows bag, picked []bool) impl.Batch {
	b := impl.Batch{Columns: make(bag, columns), Picked: slices.Clone(picked)}
	for _, row := range rows {
		for n, v := range row {
			b.Columns[n] = append(b.Columns[n], v)
		}
	}
	return b
}

func sameBatch(a impl.Batch, b impl.Batch) bool {
	return sameRows(a.Columns, b.Columns) && slices.Equal(a.Picked, b.Picked)
}

// picks are all ways to pick of so many rows.
func picks(many int) [][]bool {
	list := [][]bool{{}}
	for ; many > 0; many-- {
		next := [][]bool{}
		for _, front := range list {
			next = append(next, append(slices.Clone(front), false), append(slices.Clone(front), true))
		}
		list = next
	}
	return list
}

func allPicked(many int) []bool {
	return slices.Repeat([]bool{true}, many)
}

func batchSizes() []int {
	return []int{1, 2, 3, 4}
}

func noBatchSizes() []int {
	return []int{math.MinInt, -256, -255, -4, -2, -1, 0, 5, 6, 8, 255, 256, 257, 258, 260, 1<<32 + 1, math.MaxInt}
}

// numberedRows are rows no two values of which are the same.
func numberedRows(columns int, many int) bag {
	rows := bag{}
	for i := 0; i < many; i++ {
		row := []impl.Value{}
		for n := 0; n < columns; n++ {
			row = append(row, num(10*i+n))
		}
		rows = append(rows, row)
	}
	return rows
}

func numberColumns(many int) []impl.Column {
	return slices.Repeat([]impl.Column{{Kind: impl.KindNum}}, many)
}

// pickedOf are the rows that are picked, as they were laid out.
func pickedOf(rows bag, picked []bool) bag {
	list := bag{}
	for i, row := range rows {
		if picked[i] {
			list = append(list, row)
		}
	}
	return list
}

func checkBatch(t *testing.T, b impl.Batch, rows bag) {
	t.Helper()
	if !impl.BatchOk(b) {
		t.Fatalf("%v is no batch", b)
	}
	if got := impl.BatchRows(b); !sameRows(got, rows) {
		t.Fatalf("%v has the rows %v, not %v", b, got, rows)
	}
}

func checkNothingOf(t *testing.T, columns []impl.Column, b impl.Batch, e expr) {
	t.Helper()
	if got := impl.BatchValues(columns, b, e); len(got) != 0 {
		t.Fatalf("%v has the values %v on %v of %v", e, got, b, columns)
	}
	if got := impl.BatchPicked(columns, b, e); !sameBatch(got, impl.Batch{}) {
		t.Fatalf("by %v %v of %v becomes %v", e, b, columns, got)
	}
}

// checkNoBatch asks that nothing is told of what is no batch, whatever columns it is said to have.
func checkNoBatch(t *testing.T, b impl.Batch) {
	t.Helper()
	if impl.BatchOk(b) {
		t.Fatalf("%v is a batch", b)
	}
	if got := impl.BatchRows(b); len(got) != 0 {
		t.Fatalf("%v, no batch, has the rows %v", b, got)
	}
	for kind := 1; kind <= 3; kind++ {
		checkNothingOf(t, slices.Repeat([]impl.Column{{Kind: kind, Empty: true}}, len(b.Columns)), b, always())
	}
	checkNothingOf(t, numberColumns(len(b.Columns)), b, always())
}

// wantBatches are the document's sentence once more: how many rows each batch has.
func wantBatches(many int, size int) []int {
	list := []int{}
	for ; many > size; many -= size {
		list = append(list, size)
	}
	if many > 0 {
		list = append(list, many)
	}
	return list
}

// checkBatchesOf asks of rows that fit columns.
func checkBatchesOf(t *testing.T, columns []impl.Column, rows bag, size int) {
	t.Helper()
	list, want := impl.BatchesOf(columns, rows, size), wantBatches(len(rows), size)
	if len(list) != len(want) {
		t.Fatalf("%d rows in batches of %d are %d batches, not %d", len(rows), size, len(list), len(want))
	}
	from := 0
	for i, b := range list {
		part := rows[from : from+want[i]]
		if !sameBatch(b, batchFrom(len(columns), part, allPicked(want[i]))) {
			t.Fatalf("the batch %d of %d of %v is %v", i, size, rows, b)
		}
		checkBatch(t, b, part)
		from += want[i]
	}
}

func checkNoBatchesOf(t *testing.T, columns []impl.Column, rows bag, size int) {
	t.Helper()
	if list := impl.BatchesOf(columns, rows, size); len(list) != 0 {
		t.Fatalf("%v of %v in batches of %d are %v", rows, columns, size, list)
	}
}

func TestPromise26BatchesAreAllRows(t *testing.T) {
	if impl.MaxBatch != 4 {
		t.Fatal("the number of rows of a batch is another one")
	}
	rows := exprRows()
	for many := 0; many <= len(rows); many++ {
		for _, size := range batchSizes() {
			checkBatchesOf(t, exprColumns(), rows[:many], size)
			checkBatchesOf(t, exprColumns(), turnedRound(rows[:many]), size)
		}
	}
	for _, table := range slices.Concat(house(), roundTables(house())) {
		for _, size := range batchSizes() {
			checkBatchesOf(t, table.Columns, table.Rows, size)
		}
	}
}

func TestPromise26AsWritten(t *testing.T) {
	columns := []impl.Column{{Kind: impl.KindNum, Empty: true}, {Kind: impl.KindText}}
	rows := bag{{num(1), text("a")}, {none(), text("b")}, {num(1), text("a")}, {num(3), text("")}, {num(-5), text("c")}}
	list := impl.BatchesOf(columns, rows, 2)
	want := []impl.Batch{
		{Columns: bag{{num(1), none()}, {text("a"), text("b")}}, Picked: []bool{true, true}},
		{Columns: bag{{num(1), num(3)}, {text("a"), text("")}}, Picked: []bool{true, true}},
		{Columns: bag{{num(-5)}, {text("c")}}, Picked: []bool{true}},
	}
	if !slices.EqualFunc(list, want, sameBatch) {
		t.Fatalf("%v in batches of two are %v", rows, list)
	}
	// If it comes out even, no batch without rows stands behind.
	if list = impl.BatchesOf(columns, rows[:4], 2); !slices.EqualFunc(list, want[:2], sameBatch) {
		t.Fatalf("%v in batches of two are %v", rows[:4], list)
	}
}

// Rows without values, and as many rows as a step may have; no rows are no batches.
func TestPromise26EachNumberOfRows(t *testing.T) {
	for columns := 0; columns <= 4; columns++ {
		for _, many := range []int{0, 1, 2, 3, 4, 5, 6, 7, 8, 9, 255, 256, 257, 300} {
			rows := numberedRows(columns, many)
			for _, size := range batchSizes() {
				checkBatchesOf(t, numberColumns(columns), rows, size)
			}
		}
		for _, size := range batchSizes() {
			checkNoBatchesOf(t, numberColumns(columns), nil, size)
		}
	}
}

func TestPromise26OtherSizes(t *testing.T) {
	for _, size := range noBatchSizes() {
		for columns := 0; columns <= 4; columns++ {
			for _, many := range []int{0, 1, 4, 5, 6, 300} {
				checkNoBatchesOf(t, numberColumns(columns), numberedRows(columns, many), size)
			}
		}
	}
}

// One row that does not fit is enough, in whatever batch it would be.
func TestPromise26RowsThatDoNotFit(t *testing.T) {
	columns, rows := exprColumns(), exprRows()[:9]
	others := append(wrongRows(), bag{{}, {num(4)}, {num(4), text("a")}, {num(4), none(), truth(1)}, {text("a"), text("a"), truth(1)}, {num(4), text("a"), truth(1), none()}}...)
	for _, size := range batchSizes() {
		for _, other := range others {
			for at := range rows {
				turned := slices.Clone(rows)
				turned[at] = other
				checkNoBatchesOf(t, columns, turned, size)
			}
		}
		for _, given := range wrongColumns() {
			row := make([]impl.Value, len(given))
			checkNoBatchesOf(t, given, nil, size)
			checkNoBatchesOf(t, given, bag{row}, size)
			checkNoBatchesOf(t, given, bag{{}}, size)
		}
		checkNoBatchesOf(t, nil, bag{{}, {none()}}, size)
		checkNoBatchesOf(t, columns, bag{{}}, size)
	}
}

// batchesToAsk are all rows on exprColumns, in batches of each size, each of them picked in one way of many.
func batchesToAsk() ([]impl.Batch, []bag) {
	list, laid := []impl.Batch{}, []bag{}
	rows := exprRows()
	for _, size := range batchSizes() {
		ways := picks(size)
		for from := 0; from+size <= len(rows); from += size {
			part := rows[from : from+size]
			list = append(list, batchFrom(3, part, ways[(from*7+size)%len(ways)]))
			laid = append(laid, part)
		}
	}
	return list, laid
}

func checkValues(t *testing.T, columns []impl.Column, b impl.Batch, e expr, want []impl.Value) {
	t.Helper()
	if got := impl.BatchValues(columns, b, e); !sameRow(got, want) {
		t.Fatalf("%v has the values %v on %v, not %v", e, got, b, want)
	}
}

func TestPromise27ColumnByColumnIsRowByRow(t *testing.T) {
	columns := exprColumns()
	list, laid := batchesToAsk()
	for _, x := range trees() {
		e := x.parts()
		for i, b := range list {
			want := []impl.Value{}
			for _, row := range laid[i] {
				want = append(want, x.value(row))
			}
			checkValues(t, columns, b, e, want)
		}
	}
}

func TestPromise27TheValueOfEachRow(t *testing.T) {
	columns := exprColumns()
	list, laid := batchesToAsk()
	for n, x := range trees() {
		b, rows := list[n%len(list)], laid[n%len(list)]
		values := impl.BatchValues(columns, b, x.parts())
		for i, row := range rows {
			if values[i] != impl.ExprValue(columns, row, x.parts()) {
				t.Fatalf("%v has the values %v on %v", x.parts(), values, b)
			}
		}
	}
}

// Which rows are picked does not matter: all have values.
func TestPromise27PickedOrNot(t *testing.T) {
	columns := exprColumns()
	rows := bag{{num(4), text("b"), none()}, {none(), text("a"), truth(1)}, {num(9999), text("b"), truth(0)}, {num(-9999), text("a"), truth(1)}}
	sum := expr{col(0), val(num(1)), add()}
	for many := 0; many <= len(rows); many++ {
		for _, picked := range picks(many) {
			b := batchFrom(3, rows[:many], picked)
			checkValues(t, columns, b, expr{col(0)}, []impl.Value{num(4), none(), num(9999), num(-9999)}[:many])
			checkValues(t, columns, b, expr{col(1)}, []impl.Value{text("b"), text("a"), text("b"), text("a")}[:many])
			checkValues(t, columns, b, sum, []impl.Value{num(5), none(), none(), num(-9998)}[:many])
			checkValues(t, columns, b, behind(sum, expr{gone()}), []impl.Value{truth(0), truth(1), truth(1), truth(0)}[:many])
			checkValues(t, columns, b, expr{col(2), not()}, []impl.Value{none(), truth(0), truth(1), truth(0)}[:many])
			checkValues(t, columns, b, expr{col(1), val(text("b")), compared(impl.CmpSame), col(2), both()}, []impl.Value{none(), truth(0), truth(0), truth(0)}[:many])
			checkValues(t, columns, b, expr{col(0), gone(), col(2), either()}, []impl.Value{none(), truth(1), truth(0), truth(1)}[:many])
			checkValues(t, columns, b, expr{val(text("q"))}, slices.Repeat([]impl.Value{text("q")}, many))
		}
	}
}

// Without columns an expression is done as often as there are rows.
func TestPromise27NoColumns(t *testing.T) {
	for many := 0; many <= 4; many++ {
		for _, picked := range picks(many) {
			b := impl.Batch{Picked: picked}
			checkValues(t, nil, b, expr{val(num(3)), val(num(4)), add()}, slices.Repeat([]impl.Value{num(7)}, many))
			checkValues(t, []impl.Column{}, b, expr{val(num(9999)), val(num(4)), add()}, slices.Repeat([]impl.Value{none()}, many))
			checkNothingOf(t, nil, b, expr{col(0)})
			checkNothingOf(t, numberColumns(1), b, expr{val(truth(1))})
		}
	}
}

func TestPromise27WhatIsNoExpression(t *testing.T) {
	list, _ := batchesToAsk()
	list = append(list, batchFrom(3, nil, nil), impl.Batch{})
	others := []expr{nil, {}, {col(3)}, {col(0), col(0)}, {col(0), add()}, {col(0), col(1), add()}, {col(2), not(), not(), add()}, slices.Repeat(expr{gone()}, 3)}
	others = append(others, behind(always(), slices.Repeat(expr{not()}, 12)))
	for _, p := range wrongParts() {
		others = append(others, expr{p}, expr{col(0), p}, expr{col(2), p}, expr{col(2), col(2), p}, expr{p, gone()})
	}
	for _, e := range others {
		if impl.ExprKind(exprColumns(), e) >= 0 {
			continue
		}
		for i, b := range list {
			if i%9 == 0 || i >= len(list)-2 {
				checkNothingOf(t, exprColumns(), b, e)
			}
		}
	}
	longest := behind(always(), slices.Repeat(expr{not()}, 11))
	checkValues(t, exprColumns(), batchFrom(3, exprRows()[:2], []bool{true, false}), longest, []impl.Value{truth(0), truth(0)})
}

// A batch without rows has no row that does not fit; its columns are none all the same.
func TestPromise27WhatAreNoColumns(t *testing.T) {
	for _, columns := range wrongColumns() {
		checkNothingOf(t, columns, impl.Batch{Columns: make(bag, min(len(columns), 4))}, always())
		for many := 0; many <= 4; many++ {
			rows := bag{}
			for i := 0; i < many; i++ {
				rows = append(rows, make([]impl.Value, len(columns)))
			}
			checkNothingOf(t, columns, batchFrom(len(columns), rows, allPicked(many)), always())
			checkNothingOf(t, columns, impl.Batch{Picked: allPicked(many)}, always())
		}
	}
}

// A row that does not fit is one too many, picked or not.
func TestPromise27RowsThatDoNotFit(t *testing.T) {
	columns := exprColumns()
	others := bag{{num(4), none(), truth(1)}, {text("a"), text("a"), truth(1)}, {truth(1), text("a"), truth(1)}, {num(4), num(4), truth(1)}, {num(4), text("a"), num(1)}, {none(), none(), none()}}
	for _, other := range others {
		for many := 1; many <= 4; many++ {
			for at := 0; at < many; at++ {
				rows := slices.Clone(exprRows()[7 : 7+many])
				rows[at] = other
				for _, picked := range picks(many) {
					b := batchFrom(3, rows, picked)
					checkBatch(t, b, pickedOf(rows, picked))
					for _, e := range []expr{always(), {col(2)}, {col(0), gone()}, {val(num(3))}} {
						checkNothingOf(t, columns, b, e)
					}
				}
			}
		}
	}
}

// There are just as many columns as the batch has, even where it has no rows.
func TestPromise27FewerAndMoreColumns(t *testing.T) {
	for there := 0; there <= 4; there++ {
		for named := 0; named <= 4; named++ {
			for many := 0; many <= 4; many++ {
				b := batchFrom(there, numberedRows(there, many), allPicked(many))
				if named != there {
					checkNothingOf(t, numberColumns(named), b, always())
					continue
				}
				checkValues(t, numberColumns(named), b, always(), slices.Repeat([]impl.Value{truth(1)}, many))
				checkPicked(t, numberColumns(named), b, always(), allPicked(many))
			}
		}
	}
}

func checkPicked(t *testing.T, columns []impl.Column, b impl.Batch, e expr, want []bool) {
	t.Helper()
	if got := impl.BatchPicked(columns, b, e); !sameBatch(got, impl.Batch{Columns: b.Columns, Picked: want}) {
		t.Fatalf("by %v %v becomes %v, with %v picked", e, b, got, want)
	}
}

func TestPromise28TestsTurnWhatIsPickedAlone(t *testing.T) {
	columns := exprColumns()
	list, laid := batchesToAsk()
	for n, x := range trees() {
		for i, b := range list {
			if x.kind() != impl.KindTruth || (n+i)%3 != 0 {
				continue
			}
			want := []bool{}
			for at, row := range laid[i] {
				want = append(want, b.Picked[at] && x.value(row) == truth(1))
			}
			checkPicked(t, columns, b, x.parts(), want)
		}
	}
}

func TestPromise28TheRowsThatAreLeft(t *testing.T) {
	columns := exprColumns()
	list, _ := batchesToAsk()
	for n, x := range trees() {
		if x.kind() != impl.KindTruth {
			continue
		}
		b, left := list[n%len(list)], bag{}
		for _, row := range impl.BatchRows(b) {
			if impl.ExprHolds(columns, row, x.parts()) {
				left = append(left, row)
			}
		}
		picked := impl.BatchPicked(columns, b, x.parts())
		checkBatch(t, picked, left)
		if !sameBatch(impl.BatchPicked(columns, picked, x.parts()), picked) {
			t.Fatalf("by %v twice %v becomes another batch", x.parts(), b)
		}
	}
}

func TestPromise28EachWayToPick(t *testing.T) {
	columns := exprColumns()
	rows := bag{{num(4), text("b"), none()}, {none(), text("a"), truth(1)}, {num(7), text("b"), truth(0)}, {num(-3), text("a"), truth(1)}}
	for _, w := range []struct {
		e     expr
		holds []bool
	}{
		{always(), []bool{true, true, true, true}},
		{expr{val(truth(0))}, []bool{false, false, false, false}},
		{expr{col(2)}, []bool{false, true, false, true}},
		// What nobody knows holds no more than its not does.
		{expr{col(2), not()}, []bool{false, false, true, false}},
		{expr{col(2), gone()}, []bool{true, false, false, false}},
		{expr{col(0), val(num(4)), compared(impl.CmpMost)}, []bool{true, false, false, true}},
		{expr{col(0), val(num(4)), compared(impl.CmpMost), not()}, []bool{false, false, true, false}},
		{expr{val(num(9999)), val(num(1)), add(), col(0), compared(impl.CmpOther)}, []bool{false, false, false, false}},
		{expr{col(1), val(text("b")), compared(impl.CmpSame)}, []bool{true, false, true, false}},
	} {
		for many := 0; many <= len(rows); many++ {
			for _, picked := range picks(many) {
				want := []bool{}
				for i := range picked {
					want = append(want, picked[i] && w.holds[i])
				}
				b := batchFrom(3, rows[:many], picked)
				checkPicked(t, columns, b, w.e, want)
				checkBatch(t, impl.BatchPicked(columns, b, w.e), pickedOf(rows[:many], want))
			}
		}
	}
}

// Rows without values are picked and turned, too, and a batch without rows keeps its columns.
func TestPromise28NoColumnsAndNoRows(t *testing.T) {
	for many := 0; many <= 4; many++ {
		for _, picked := range picks(many) {
			b := impl.Batch{Picked: picked}
			checkPicked(t, nil, b, always(), picked)
			checkPicked(t, []impl.Column{}, b, expr{val(truth(0))}, make([]bool, many))
			checkPicked(t, nil, b, expr{val(num(3)), val(num(4)), compared(impl.CmpLess)}, picked)
		}
	}
	for columns := 0; columns <= 4; columns++ {
		b := impl.Batch{Columns: make(bag, columns)}
		if got := impl.BatchPicked(numberColumns(columns), b, always()); len(got.Columns) != columns || len(got.Picked) != 0 {
			t.Fatalf("%d columns without rows become %v", columns, got)
		}
	}
}

// An expression of another kind has values, and picks nothing.
func TestPromise28OtherKinds(t *testing.T) {
	columns := exprColumns()
	list, laid := batchesToAsk()
	for n, x := range trees() {
		if x.kind() == impl.KindTruth {
			continue
		}
		at := n % len(list)
		if got := impl.BatchPicked(columns, list[at], x.parts()); !sameBatch(got, impl.Batch{}) {
			t.Fatalf("by %v, no test, %v becomes %v", x.parts(), list[at], got)
		}
		if got := impl.BatchValues(columns, list[at], x.parts()); len(got) != len(laid[at]) {
			t.Fatalf("%v has the values %v on %v", x.parts(), got, list[at])
		}
	}
	for _, b := range []impl.Batch{{}, {Picked: []bool{true}}} {
		if got := impl.BatchPicked(nil, b, expr{val(num(1))}); !sameBatch(got, impl.Batch{}) {
			t.Fatalf("by a number %v becomes %v", b, got)
		}
	}
}

func checkBatchPlan(t *testing.T, tables []impl.Table, p plan, want bag) {
	t.Helper()
	for _, size := range batchSizes() {
		if got := impl.BatchPlan(tables, p, size); !sameRows(got, want) {
			t.Fatalf("%v yields %v in batches of %d, not %v", p, got, size, want)
		}
	}
}

func checkNoBatchPlan(t *testing.T, tables []impl.Table, p plan, size int) {
	t.Helper()
	if got := impl.BatchPlan(tables, p, size); len(got) != 0 {
		t.Fatalf("%v yields %v in batches of %d", p, got, size)
	}
}

func TestPromise29HoweverLargeTheBatchesAre(t *testing.T) {
	for at, tables := range houses() {
		for i, p := range append(plans(), chains()...) {
			if at == 0 || i%6 == at {
				checkBatchPlan(t, tables, p, wantPlanRows(tables, p))
			}
		}
	}
}

func TestPromise29RowsAllAtOnceAndOneAtATime(t *testing.T) {
	tables := house()
	for i, p := range append(plans(), chains()...) {
		if i%5 != 0 {
			continue
		}
		rows := impl.PlanRows(tables, p)
		checkBatchPlan(t, tables, p, rows)
		checkBatchPlan(t, tables, p, impl.RowsFirst(tables, p, len(rows)))
	}
}

func TestPromise29AsWritten(t *testing.T) {
	tables := house()
	two, one, gap := []impl.Value{num(2)}, []impl.Value{num(1)}, []impl.Value{none()}
	never := val(truth(0))
	for _, w := range []struct {
		p    plan
		rows bag
	}{
		{plan{fromTable(1)}, bag{two, gap, one, two}},
		{plan{fromTable(1), where(0, isTwo(0)...)}, bag{two, two}},
		{plan{fromTable(0), take(0, 1)}, bag{{text("b")}, {text("a")}, {none()}, {text("a")}}},
		{plan{fromTable(0), take(0, 1, 1, 0, 0), where(1, isTwo(3)...)}, bag{{text("b"), text("b"), num(2), num(2)}, {none(), none(), num(2), num(2)}}},
		{plan{fromTable(0), take(0)}, bag{{}, {}, {}, {}}},
		{plan{fromTable(0), where(0, isTwo(0)...), take(1), oneBehind(2, 2)}, bag{{}, {}, {}, {}}},
		// Each row of the first step comes with all of the second one, in whatever batches these are.
		{plan{fromTable(1), fromTable(0), join(0, 1, col(0), col(1), compared(impl.CmpSame)), take(2, 0, 2)}, bag{{num(2), text("b")}, {num(2), none()}, {num(1), text("a")}, {num(1), text("a")}, {num(2), text("b")}, {num(2), none()}}},
		{plan{fromTable(2), fromTable(1), join(0, 1, always()...)}, bag{two, gap, one, two, two, gap, one, two}},
		{plan{fromTable(2), fromTable(1), join(1, 0, always()...)}, bag{two, two, gap, gap, one, one, two, two}},
		{plan{fromTable(2), join(0, 0, always()...)}, bag{{}, {}, {}, {}}},
		{plan{fromTable(1), where(0, isTwo(0)...), join(1, 1, always()...)}, bag{{num(2), num(2)}, {num(2), num(2)}, {num(2), num(2)}, {num(2), num(2)}}},
		// The same row may be in another batch, and behind one that is not picked.
		{plan{fromTable(1), once(0)}, bag{two, gap, one}},
		{plan{fromTable(1), oneBehind(0, 0), once(1)}, bag{two, gap, one}},
		{plan{fromTable(0), where(0, col(1), gone()), take(1, 0), once(2)}, bag{two}},
		{plan{fromTable(0), where(0, col(1), gone(), not()), take(1, 0), once(2), where(3, isTwo(0)...)}, bag{two}},
		{plan{fromTable(0), take(0), once(1)}, bag{{}}},
		// Of no batch is a row picked.
		{plan{fromTable(1), where(0, never)}, bag{}},
		{plan{fromTable(1), where(0, never), where(1, always()...)}, bag{}},
		{plan{fromTable(1), where(0, never), take(1)}, bag{}},
		{plan{fromTable(1), where(0, never), take(1), once(2)}, bag{}},
		{plan{fromTable(1), where(0, never), join(0, 1, always()...)}, bag{}},
		{plan{fromTable(1), where(0, never), join(1, 0, always()...)}, bag{}},
		{plan{fromTable(1), where(0, never), oneBehind(1, 0)}, bag{two, gap, one, two}},
		{plan{fromTable(1), where(0, never), oneBehind(0, 1)}, bag{two, gap, one, two}},
		{plan{fromTable(1), where(0, never), oneBehind(1, 0), once(2), join(3, 1, always()...)}, bag{}},
	} {
		checkRows(t, tables, w.p, w.rows)
		checkBatchPlan(t, tables, w.p, w.rows)
	}
}

// The last batch of a table has from one row up to all that a batch may have.
func TestPromise29TheLastBatch(t *testing.T) {
	for many := 0; many <= impl.MaxRows; many++ {
		for columns := 0; columns <= 1; columns++ {
			tables := []impl.Table{{Columns: numberColumns(columns), Rows: numberedRows(columns, many)}}
			for _, p := range []plan{{fromTable(0)}, {fromTable(0), oneBehind(0, 0)}, {fromTable(0), join(0, 0, always()...)}, {fromTable(0), once(0)}, {fromTable(0), oneBehind(0, 0), once(1)}, {fromTable(0), take(0), join(0, 1, always()...)}, {fromTable(0), where(0, val(num(3)), val(num(4)), compared(impl.CmpLess))}} {
				checkBatchPlan(t, tables, p, wantPlanRows(tables, p))
			}
			if columns == 0 {
				continue
			}
			for n := 0; n <= many; n++ {
				p := plan{fromTable(0), where(0, col(0), val(num(10*n)), compared(impl.CmpLess))}
				checkBatchPlan(t, tables, p, tables[0].Rows[:n])
				p = append(p, oneBehind(1, 0), join(1, 2, always()...))
				checkBatchPlan(t, tables, p, wantPlanRows(tables, p))
			}
		}
	}
}

// As many rows as a step may have, and a join over them whose rows are mostly not picked.
func TestPromise29ThreeHundredRows(t *testing.T) {
	tables := []impl.Table{{Columns: numberColumns(1), Rows: bag{{num(0)}, {num(1)}, {num(2)}, {num(3)}, {num(4)}, {num(5)}}}}
	p := plan{fromTable(0), oneBehind(0, 0), take(1), join(1, 2, always()...), oneBehind(3, 0), oneBehind(4, 4)}
	rows := wantPlanRows(tables, p)
	if len(rows) != 300 {
		t.Fatalf("there are %d rows", len(rows))
	}
	checkBatchPlan(t, tables, p, rows)
	p = plan{fromTable(0), join(0, 0, col(0), col(1), compared(impl.CmpLess)), join(1, 0, col(1), col(2), compared(impl.CmpSame)), once(2)}
	checkBatchPlan(t, tables, p, wantPlanRows(tables, p))
}

func TestPromise29OtherSizes(t *testing.T) {
	tables := house()
	for i, p := range plans() {
		if i%101 != 0 && len(p) > 1 {
			continue
		}
		for _, size := range noBatchSizes() {
			checkNoBatchPlan(t, tables, p, size)
		}
	}
}

func TestPromise29WhatIsNoPlan(t *testing.T) {
	tables, others := house(), 0
	for i, p := range plansAndOthers() {
		if !wantPlan(tables, p) {
			others++
			checkNoBatchPlan(t, tables, p, 1+i%4)
		}
	}
	if others < 1000 {
		t.Fatalf("%d are no plans", others)
	}
	for size := -1; size <= 5; size++ {
		for _, p := range []plan{nil, {}, {fromTable(3)}, {fromTable(-1)}, {once(0)}, {fromTable(0), once(1)}, {fromTable(3), fromTable(0)}, {fromTable(0), once(2), fromTable(0)}, slices.Repeat(plan{fromTable(0)}, 7)} {
			checkNoBatchPlan(t, tables, p, size)
		}
		for _, given := range append(noTables(), nil, []impl.Table{}) {
			checkNoBatchPlan(t, given, plan{fromTable(0)}, size)
			checkNoBatchPlan(t, given, nil, size)
		}
	}
}

func TestPromise164NoColumns(t *testing.T) {
	checkBatch(t, impl.Batch{}, bag{})
	for many := 0; many <= 4; many++ {
		checkBatch(t, impl.Batch{Columns: bag{}, Picked: allPicked(many)}, make(bag, many))
	}
	for _, many := range []int{5, 6, 8, 16, 255, 256, 257, 260} {
		checkNoBatch(t, impl.Batch{Picked: allPicked(many)})
		checkNoBatch(t, impl.Batch{Picked: make([]bool, many)})
		checkNoBatch(t, impl.Batch{Columns: bag{}, Picked: allPicked(many)})
	}
}

// Each column has as many values as there are rows: one that is longer or shorter is none, wherever it stands.
func TestPromise164ColumnsOfOtherLengths(t *testing.T) {
	for columns := 1; columns <= 4; columns++ {
		for many := 0; many <= 4; many++ {
			for at := 0; at < columns; at++ {
				for _, length := range []int{0, 1, 2, 3, 4, 5, 6, 255, 256, 257, 260} {
					rows := numberedRows(columns, many)
					b := batchFrom(columns, rows, allPicked(many))
					b.Columns[at] = slices.Repeat([]impl.Value{num(7)}, length)
					if length != many {
						checkNoBatch(t, b)
						continue
					}
					for i := range rows {
						rows[i][at] = num(7)
					}
					checkBatch(t, b, rows)
				}
			}
		}
	}
}

func TestPromise164EqualLengths(t *testing.T) {
	for columns := 0; columns <= 7; columns++ {
		for _, many := range []int{0, 1, 2, 3, 4, 5, 6, 7, 8, 255, 256, 260} {
			rows := numberedRows(columns, many)
			b := batchFrom(columns, rows, allPicked(many))
			if columns <= 4 && many <= 4 {
				checkBatch(t, b, rows)
			} else {
				checkNoBatch(t, b)
			}
		}
	}
	for _, columns := range []int{5, 8, 255, 256, 257, 260} {
		checkNoBatch(t, impl.Batch{Columns: make(bag, columns)})
	}
}

// Values of rows that are not picked count, too; values of one column may be of unlike kinds.
func TestPromise164WrongValues(t *testing.T) {
	for i, wrong := range wrongValues() {
		for at := 0; at < 16; at++ {
			rows := bag{}
			for range 4 {
				rows = append(rows, []impl.Value{none(), num(3), text("a"), truth(1)})
			}
			ways := picks(4)
			rows[at/4][at%4] = wrong
			checkNoBatch(t, batchFrom(4, rows, ways[(i+at)%16]))
			checkNoBatch(t, batchFrom(4, rows, ways[0]))
		}
	}
	values := sampleValues()
	for from := 0; from+16 <= len(values); from += 5 {
		rows := bag{}
		for i := 0; i < 16; i += 4 {
			rows = append(rows, values[from+i:from+i+4])
		}
		checkBatch(t, batchFrom(4, rows, allPicked(4)), rows)
	}
}

func TestPromise165RowsThatAreNotPicked(t *testing.T) {
	for columns := 0; columns <= 4; columns++ {
		for many := 0; many <= 4; many++ {
			rows := numberedRows(columns, many)
			for _, picked := range picks(many) {
				b := batchFrom(columns, rows, picked)
				checkBatch(t, b, pickedOf(rows, picked))
				for _, row := range impl.BatchRows(b) {
					if len(row) != columns {
						t.Fatalf("%v has the row %v", b, row)
					}
				}
			}
		}
	}
}

func TestPromise165AsWritten(t *testing.T) {
	columns := bag{{num(1), none(), num(3), num(1)}, {text("a"), text("b"), none(), text("a")}}
	for _, w := range []struct {
		picked []bool
		rows   bag
	}{
		{[]bool{false, false, false, false}, bag{}},
		{[]bool{true, false, false, false}, bag{{num(1), text("a")}}},
		{[]bool{false, true, true, false}, bag{{none(), text("b")}, {num(3), none()}}},
		{[]bool{true, false, false, true}, bag{{num(1), text("a")}, {num(1), text("a")}}},
		{[]bool{true, true, true, true}, bag{{num(1), text("a")}, {none(), text("b")}, {num(3), none()}, {num(1), text("a")}}},
	} {
		checkBatch(t, impl.Batch{Columns: columns, Picked: w.picked}, w.rows)
	}
	for many := 0; many <= 4; many++ {
		checkBatch(t, impl.Batch{Picked: make([]bool, many)}, bag{})
	}
	checkNoBatch(t, impl.Batch{Columns: columns, Picked: []bool{true, true, true}})
	checkNoBatch(t, impl.Batch{Columns: columns, Picked: nil})
}

// roomyBatch leaves room behind each list.
func roomyBatch(b impl.Batch) impl.Batch {
	picked := append(make([]bool, 0, len(b.Picked)+1), b.Picked...)
	return impl.Batch{Columns: copyRows(b.Columns), Picked: picked}
}

func batchRoomIsLeft(b impl.Batch) bool {
	return roomIsLeft(b.Columns) && !b.Picked[:len(b.Picked)+1][len(b.Picked)]
}

func overwriteBatch(b impl.Batch) {
	overwrite(b.Columns)
	for i := range b.Picked {
		b.Picked[i] = !b.Picked[i]
	}
	_ = append(b.Picked, true)
}

// What is told of a batch shares no memory with it, and neither it, nor columns, nor an expression are written.
func TestAnswersOfBatchesAreNewMemory(t *testing.T) {
	list, _ := batchesToAsk()
	for _, x := range slices.Concat(treesBySize(4)...) {
		for i, b := range list {
			if i%5 != 0 {
				continue
			}
			given := roomyBatch(b)
			e := append(x.parts(), op(45))
			columns := append(exprColumns(), impl.Column{Kind: 77})
			overwriteRow(impl.BatchValues(columns[:3], given, e[:len(e)-1]))
			overwriteBatch(impl.BatchPicked(columns[:3], given, e[:len(e)-1]))
			overwrite(impl.BatchRows(given))
			impl.BatchOk(given)
			if !sameBatch(given, b) || !batchRoomIsLeft(given) {
				t.Fatalf("by %v %v became %v, or the room behind it did", x.parts(), b, given)
			}
			if !slices.Equal(e, append(x.parts(), op(45))) || !slices.Equal(columns, append(exprColumns(), impl.Column{Kind: 77})) {
				t.Fatalf("%v became %v, or columns became %v", x.parts(), e, columns)
			}
		}
	}
}

// No two lists of one answer share memory, nor the room behind them, even where those that were given do.
func TestAnswersOfBatchesShareNothing(t *testing.T) {
	values := []impl.Value{num(1), num(2)}
	shared := impl.Batch{Columns: bag{values, values, values}, Picked: []bool{true, true}}
	answer := impl.BatchPicked(numberColumns(3), shared, always())
	for i := range answer.Columns {
		answer.Columns[i][0] = num(70 + i)
		_ = append(answer.Columns[i], num(80+i))
	}
	if !sameRows(answer.Columns, bag{{num(70), num(2)}, {num(71), num(2)}, {num(72), num(2)}}) || values[0] != num(1) {
		t.Fatalf("columns of %v share memory", answer)
	}
	rows := impl.BatchRows(shared)
	overwriteRow(rows[0])
	if !sameRow(rows[1], []impl.Value{num(2), num(2), num(2)}) || values[0] != num(1) {
		t.Fatalf("%v share memory", rows)
	}
}

func TestBatchesOfRowsAreNewMemory(t *testing.T) {
	row := exprRows()[8]
	for _, rows := range []bag{exprRows()[:9], {row, row, row, row, row}} {
		for _, size := range batchSizes() {
			given := copyRows(rows)
			columns := append(exprColumns(), impl.Column{Kind: 77})
			list := impl.BatchesOf(columns[:3], given, size)
			want := impl.BatchesOf(exprColumns(), rows, size)
			for i, b := range list {
				for n := range b.Columns {
					overwriteRow(b.Columns[n])
					if n+1 < len(b.Columns) && !sameRow(b.Columns[n+1], want[i].Columns[n+1]) {
						t.Fatalf("columns of the batch %d of %v share memory", i, rows)
					}
				}
				overwriteBatch(b)
				if i+1 < len(list) && !sameBatch(list[i+1], want[i+1]) {
					t.Fatalf("batches of %v share memory", rows)
				}
			}
			_ = append(list, impl.Batch{Picked: []bool{true}})
			if !sameRows(given, rows) || !roomIsLeft(given) || columns[3] != (impl.Column{Kind: 77}) {
				t.Fatalf("%v became %v, or the room behind them did", rows, given)
			}
		}
	}
}

// Rows of a plan in batches share no memory with tables, nor with each other, and neither tables nor plans are written.
func TestRowsOfBatchesAreNewMemory(t *testing.T) {
	tables := house()
	for i, p := range append(plans(), chains()...) {
		if i%4 != 0 {
			continue
		}
		given, steps := roomyTables(tables), roomyPlan(p)
		rows := impl.BatchPlan(given, steps, 1+i/4%4)
		checkRowsShareNothing(t, p, rows, wantPlanRows(tables, p))
		checkNotWritten(t, given, tables, steps, p)
	}
}
