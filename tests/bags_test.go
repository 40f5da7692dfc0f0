package tests

import (
	"testing"

	"loop.example/tablehouse/impl"
)

type bag = [][]impl.Value

// bagRows stand in ascending order: a row without values, beginnings, and rows that differ at their last value.
func bagRows() bag {
	return bag{{}, {none()}, {num(2)}, {num(2), text("a")}, {num(2), text("b")}}
}

// mixedRows have rows among what is no row: two of these are alike for RowOrder, and not the same.
func mixedRows() bag {
	return bag{{num(3)}, {num(10000)}, {num(1)}, {none(), none(), none(), none(), none()}, {num(10001)}}
}

// bagsOf are all lists of at most so many of some rows.
func bagsOf(rows bag, most int) []bag {
	list := []bag{{}}
	level := []bag{{}}
	for many := 1; many <= most; many++ {
		longer := []bag{}
		for _, front := range level {
			for _, row := range rows {
				longer = append(longer, append(append(bag{}, front...), row))
			}
		}
		list = append(list, longer...)
		level = longer
	}
	return list
}

// largeBags have many rows, in an order that is none, each of them once or more often.
func largeBags() []bag {
	list := []bag{}
	for _, rows := range []bag{orderedRows(), sampleRows()} {
		for _, stride := range []int{1, 7, 11} {
			b := bag{}
			for i := 0; i < 200; i++ {
				b = append(b, rows[i*i*stride%(len(rows)-1)])
			}
			list = append(list, b)
		}
	}
	return list
}

func sameRows(a bag, b bag) bool {
	if len(a) != len(b) {
		return false
	}
	for i := range a {
		if !sameRow(a[i], b[i]) {
			return false
		}
	}
	return true
}

func turnedRound(rows bag) bag {
	turned := bag{}
	for i := len(rows) - 1; i >= 0; i-- {
		turned = append(turned, rows[i])
	}
	return turned
}

func joined(a bag, b bag) bag {
	return append(append(bag{}, a...), b...)
}

// wantMany looks at each row by hand.
func wantMany(rows bag, row []impl.Value) int {
	many := 0
	for _, r := range rows {
		if sameRow(r, row) {
			many++
		}
	}
	return many
}

// wantSorted goes through all rows that there may be, in ascending order, and takes each as often as it is there.
func wantSorted(ascending bag, rows bag) bag {
	sorted := bag{}
	for _, row := range ascending {
		for many := wantMany(rows, row); many > 0; many-- {
			sorted = append(sorted, row)
		}
	}
	return sorted
}

// wantLess strikes out the first row that is left, for each row that is taken.
func wantLess(a bag, b bag) bag {
	left := joined(a, nil)
	for _, row := range b {
		for i := range left {
			if sameRow(left[i], row) {
				left = joined(left[:i], left[i+1:])
				break
			}
		}
	}
	return left
}

// wantSame strikes out of one bag what the other one has, till nothing is left of either.
func wantSame(a bag, b bag) bool {
	return len(wantLess(a, b)) == 0 && len(wantLess(b, a)) == 0
}

func wantOnce(rows bag) bag {
	once := bag{}
	for i, row := range rows {
		if wantMany(rows[:i], row) == 0 {
			once = append(once, row)
		}
	}
	return once
}

// checkSorted asks for what the document promises of rows in order.
func checkSorted(t *testing.T, rows bag) {
	t.Helper()
	sorted := impl.RowsSorted(rows)
	if !impl.SameBag(sorted, rows) || !wantSame(sorted, rows) {
		t.Fatalf("%v in order are %v: another bag", rows, sorted)
	}
	for i := 1; i < len(sorted); i++ {
		if impl.RowOrder(sorted[i], sorted[i-1]) < 0 {
			t.Fatalf("%v in order are %v: row %d comes ahead of the one before it", rows, sorted, i)
		}
	}
	if twice := impl.RowsSorted(sorted); !sameRows(twice, sorted) {
		t.Fatalf("%v in order twice are %v", sorted, twice)
	}
}

func TestPromise14Order(t *testing.T) {
	ascending := bagRows()
	for _, rows := range bagsOf(ascending, 5) {
		checkSorted(t, rows)
		if got := impl.RowsSorted(rows); !sameRows(got, wantSorted(ascending, rows)) {
			t.Fatalf("%v in order are %v", rows, got)
		}
	}
}

func TestPromise14ManyRows(t *testing.T) {
	for _, rows := range largeBags() {
		checkSorted(t, rows)
	}
	ascending := orderedRows()[:300]
	for _, rows := range []bag{ascending, turnedRound(ascending), joined(ascending, turnedRound(ascending))} {
		checkSorted(t, rows)
		if !sameRows(impl.RowsSorted(rows), wantSorted(ascending, rows)) {
			t.Fatal("many rows are in another order")
		}
	}
}

func TestPromise14EachValue(t *testing.T) {
	for _, w := range writtenRows() {
		for _, v := range writtenRows() {
			checkSorted(t, bag{v.row, w.row})
		}
	}
	written := bag{}
	for _, w := range writtenRows() {
		written = append(written, w.row)
	}
	if got := impl.RowsSorted(turnedRound(written)); !sameRows(got, written) {
		t.Fatalf("the rows in order are %v", got)
	}
}

func TestPromise14EmptyBags(t *testing.T) {
	if len(impl.RowsSorted(nil)) != 0 || len(impl.RowsSorted(bag{})) != 0 {
		t.Fatal("no rows in order are none")
	}
	got := impl.RowsSorted(bag{{num(1)}, nil, {}})
	if !sameRows(got, bag{{}, {}, {num(1)}}) {
		t.Fatalf("rows without values in order: %v", got)
	}
}

// wantParts puts in order by itself what stands between what is no row, for that neither goes nor lets anything by.
func wantParts(ascending bag, rows bag) bag {
	sorted := bag{}
	part := bag{}
	for _, row := range rows {
		if impl.RowOk(row) {
			part = append(part, row)
			continue
		}
		sorted = append(joined(sorted, wantSorted(ascending, part)), row)
		part = bag{}
	}
	return joined(sorted, wantSorted(ascending, part))
}

func TestPromise14AheadOfNoRows(t *testing.T) {
	ascending := bag{{num(1)}, {num(3)}}
	for _, rows := range bagsOf(mixedRows(), 5) {
		checkSorted(t, rows)
		if got := impl.RowsSorted(rows); !sameRows(got, wantParts(ascending, rows)) {
			t.Fatalf("%v in order are %v", rows, got)
		}
	}
	b, a := []impl.Value{num(2)}, []impl.Value{num(1)}
	for _, wrong := range wrongRows() {
		for _, rows := range []bag{{b, wrong, a}, {wrong, a, b}, {a, b, wrong}, {a, wrong, b}, {wrong}, {wrong, wrong}} {
			if got := impl.RowsSorted(rows); !sameRows(got, rows) {
				t.Fatalf("%v in order are %v", rows, got)
			}
		}
		if got := impl.RowsSorted(bag{b, a, wrong, b, a}); !sameRows(got, bag{a, b, wrong, a, b}) {
			t.Fatalf("rows on both sides of %v in order are %v", wrong, got)
		}
	}
}

// checkSame asks whether two bags are the same, both ways, and of both turned round.
func checkSame(t *testing.T, a bag, b bag) {
	t.Helper()
	want := wantSame(a, b)
	if impl.SameBag(a, b) != want || impl.SameBag(b, a) != want {
		t.Fatalf("%v and %v are the same: %v", a, b, want)
	}
	if impl.SameBag(turnedRound(a), turnedRound(b)) != want || impl.SameBag(turnedRound(a), b) != want {
		t.Fatalf("%v and %v, turned round, are the same: %v", a, b, want)
	}
}

// checkSameInOrder asks of two bags of rows whether they are the same just if they are so in order.
func checkSameInOrder(t *testing.T, a bag, b bag) {
	t.Helper()
	if impl.SameBag(a, b) != sameRows(impl.RowsSorted(a), impl.RowsSorted(b)) {
		t.Fatalf("%v and %v are the same, or in order the same, but not both", a, b)
	}
}

func TestPromise15InOrderTheSame(t *testing.T) {
	list := bagsOf(bagRows()[:4], 4)
	for _, a := range list {
		for _, b := range list {
			checkSame(t, a, b)
			checkSameInOrder(t, a, b)
		}
	}
}

func TestPromise15ManyRows(t *testing.T) {
	list := largeBags()
	for _, a := range list {
		for _, b := range list {
			checkSame(t, a, b)
			checkSameInOrder(t, a, b)
		}
		if impl.SameBag(a, a[1:]) || impl.SameBag(a[1:], a) || !impl.SameBag(a[:len(a)-1], turnedRound(a)[1:]) {
			t.Fatal("a row less is another bag")
		}
	}
}

func TestPromise15EmptyBags(t *testing.T) {
	if !impl.SameBag(nil, nil) || !impl.SameBag(nil, bag{}) || !impl.SameBag(bag{nil}, bag{{}}) {
		t.Fatal("nothing is the same as nothing")
	}
	if impl.SameBag(nil, bag{nil}) || impl.SameBag(bag{{}}, nil) || impl.SameBag(bag{{}, {}}, bag{{}}) {
		t.Fatal("a row without values is one")
	}
}

// How often a row is there is asked of what is no row, too: another one is not the same.
func TestPromise15WhatIsNoRow(t *testing.T) {
	list := bagsOf(mixedRows(), 3)
	for _, a := range list {
		for _, b := range list {
			checkSame(t, a, b)
		}
	}
	wrong := wrongRows()
	for i := range wrong {
		for j := range wrong {
			checkSame(t, bag{wrong[i], {num(1)}}, bag{{num(1)}, wrong[j]})
		}
	}
}

// checkOnce asks for what the document promises of each row once.
func checkOnce(t *testing.T, rows bag) {
	t.Helper()
	once := impl.RowsOnce(rows)
	if !sameRows(once, wantOnce(rows)) {
		t.Fatalf("of %v each once are %v", rows, once)
	}
	for _, row := range rows {
		if impl.RowMany(once, row) != 1 {
			t.Fatalf("of %v each once are %v: %v is not there once", rows, once, row)
		}
	}
	for _, row := range once {
		if impl.RowMany(rows, row) == 0 {
			t.Fatalf("of %v each once are %v: %v is not one of them", rows, once, row)
		}
	}
	if twice := impl.RowsOnce(once); !sameRows(twice, once) {
		t.Fatalf("of %v each once are %v", once, twice)
	}
}

func TestPromise16EachRowOnce(t *testing.T) {
	for _, rows := range bagsOf(bagRows(), 5) {
		checkOnce(t, rows)
	}
	for _, rows := range largeBags() {
		checkOnce(t, rows)
		checkOnce(t, joined(rows, rows))
	}
}

func TestPromise16TheFirstOnes(t *testing.T) {
	a, b, c := []impl.Value{num(1)}, []impl.Value{text("b")}, []impl.Value{none()}
	if got := impl.RowsOnce(bag{b, a, b, c, a, b, c}); !sameRows(got, bag{b, a, c}) {
		t.Fatalf("the first ones stand as %v", got)
	}
	if got := impl.RowsOnce(bag{c, c, b, c, a}); !sameRows(got, bag{c, b, a}) {
		t.Fatalf("the first ones stand as %v", got)
	}
}

func TestPromise16EmptyBags(t *testing.T) {
	if len(impl.RowsOnce(nil)) != 0 || len(impl.RowsOnce(bag{})) != 0 {
		t.Fatal("of no rows each once are none")
	}
	if got := impl.RowsOnce(bag{nil, {}, nil}); !sameRows(got, bag{{}}) {
		t.Fatalf("a row without values is there once: %v", got)
	}
}

func TestPromise16WhatIsNoRow(t *testing.T) {
	for _, rows := range bagsOf(mixedRows(), 4) {
		checkOnce(t, rows)
	}
	checkOnce(t, joined(wrongRows(), wrongRows()))
}

// checkLess asks for what the document promises of some rows less others.
func checkLess(t *testing.T, a bag, b bag) {
	t.Helper()
	left := impl.RowsLess(a, b)
	if !sameRows(left, wantLess(a, b)) {
		t.Fatalf("%v less %v are %v", a, b, left)
	}
	for _, row := range joined(a, b) {
		want := wantMany(a, row) - wantMany(b, row)
		if want < 0 {
			want = 0
		}
		if got := impl.RowMany(left, row); got != want {
			t.Fatalf("%v less %v are %v: %d times %v", a, b, left, got, row)
		}
	}
	if back := impl.RowsLess(joined(a, b), b); !impl.SameBag(back, a) {
		t.Fatalf("%v with %v behind them, less these, are %v", a, b, back)
	}
}

func TestPromise17RowsLessOthers(t *testing.T) {
	list := bagsOf(bagRows()[:4], 4)
	for _, a := range list {
		for _, b := range list {
			checkLess(t, a, b)
		}
	}
}

func TestPromise17ManyRows(t *testing.T) {
	list := largeBags()
	for _, a := range list {
		for _, b := range list {
			checkLess(t, a[:120], b[:80])
		}
	}
}

func TestPromise17TheFirstOnesGo(t *testing.T) {
	a, b, c := []impl.Value{num(1)}, []impl.Value{text("b")}, []impl.Value{none()}
	rows := bag{b, a, b, c, b, a}
	for _, w := range []struct{ others, want bag }{
		{bag{b}, bag{a, b, c, b, a}},
		{bag{b, b}, bag{a, c, b, a}},
		{bag{a, b}, bag{b, c, b, a}},
		{bag{c, a, a}, bag{b, b, b}},
		{bag{b, b, b, b, a, a, a, c, c}, bag{}},
		{bag{{num(2)}, {text("b"), none()}, {}}, rows},
	} {
		if got := impl.RowsLess(rows, w.others); !sameRows(got, w.want) {
			t.Fatalf("less %v are left %v", w.others, got)
		}
	}
}

func TestPromise17EmptyBags(t *testing.T) {
	rows := bag{{num(2)}, {}, {num(2)}}
	if len(impl.RowsLess(nil, nil)) != 0 || len(impl.RowsLess(nil, rows)) != 0 || len(impl.RowsLess(rows, rows)) != 0 {
		t.Fatal("nothing is left")
	}
	if !sameRows(impl.RowsLess(rows, nil), rows) || !sameRows(impl.RowsLess(rows, bag{}), rows) {
		t.Fatal("less no rows all are left")
	}
	if got := impl.RowsLess(rows, bag{nil, nil}); !sameRows(got, bag{{num(2)}, {num(2)}}) {
		t.Fatalf("less rows without values are left %v", got)
	}
}

func TestPromise17WhatIsNoRow(t *testing.T) {
	list := bagsOf(mixedRows(), 3)
	for _, a := range list {
		for _, b := range list {
			checkLess(t, a, b)
		}
	}
	wrong := wrongRows()
	for i := range wrong {
		checkLess(t, wrong, bag{wrong[i]})
		checkLess(t, bag{wrong[i]}, wrong[i/2:])
	}
}

func wantRows(columns []impl.Column, rows bag) bool {
	for _, row := range rows {
		if !wantFits(columns, row) {
			return false
		}
	}
	return true
}

func TestPromise159WhatFits(t *testing.T) {
	list := bagsOf(bag{{}, {num(1)}, {none()}, {text("a")}, {num(1), truth(1)}}, 4)
	for _, columns := range allColumns() {
		for _, rows := range list {
			fits := impl.RowsOk(columns, rows)
			if fits != wantRows(columns, rows) {
				t.Fatalf("%v fit %v: %v", rows, columns, fits)
			}
			if len(rows) > 0 && fits != (impl.RowsOk(columns, rows[:1]) && impl.RowsOk(columns, rows[1:])) {
				t.Fatalf("the first one of %v and the others fit %v alone: %v", rows, columns, !fits)
			}
		}
		if len(columns) == 3 {
			break
		}
	}
}

func TestPromise159NoRows(t *testing.T) {
	for _, columns := range append(allColumns(), wrongColumns()...) {
		if impl.RowsOk(columns, nil) != impl.ColumnsOk(columns) || impl.RowsOk(columns, bag{}) != impl.ColumnsOk(columns) {
			t.Fatalf("no rows fit %v: %v", columns, !impl.ColumnsOk(columns))
		}
	}
	for _, columns := range wrongColumns() {
		if impl.RowsOk(columns, nil) || impl.RowsOk(columns, bag{make([]impl.Value, len(columns))}) || impl.RowsOk(columns, bag{{}}) {
			t.Fatalf("%v are no columns, and nothing fits them", columns)
		}
	}
	if !impl.RowsOk(nil, bag{{}, nil, {}}) || impl.RowsOk(nil, bag{{}, {none()}, {}}) {
		t.Fatal("rows without values fit no columns")
	}
}

func TestPromise159OneThatDoesNotFit(t *testing.T) {
	columns := []impl.Column{{Kind: 1}, {Kind: 2, Empty: true}}
	fits := []impl.Value{num(4), none()}
	others := append(bag{{}, {num(4)}, {none(), none()}, {num(4), num(4)}, {text("a"), none()}, {num(4), none(), none()}}, wrongRows()...)
	for _, other := range others {
		for at := 0; at < 7; at++ {
			rows := bag{fits, fits, fits, fits, fits, fits, fits}
			if !impl.RowsOk(columns, rows) {
				t.Fatalf("%v fit", rows)
			}
			rows[at] = other
			if impl.RowsOk(columns, rows) {
				t.Fatalf("%v fit, but for row %d", rows, at)
			}
		}
	}
}

// A table has few rows, but rows may be more: what is asked of them has no end.
func TestPromise159ManyRows(t *testing.T) {
	if impl.MaxRows != 6 {
		t.Fatal("the number of rows of a table is another one")
	}
	columns := []impl.Column{{Kind: 3}}
	rows := bag{}
	for i := 0; i < 1000; i++ {
		rows = append(rows, []impl.Value{truth(i % 2)})
		if !impl.RowsOk(columns, rows) {
			t.Fatalf("%d rows fit", len(rows))
		}
	}
	rows[999] = []impl.Value{num(1)}
	if impl.RowsOk(columns, rows) {
		t.Fatal("the last one does not fit")
	}
}

// checkCounts asks that rows are counted in parts, and that all of them are counted.
func checkCounts(t *testing.T, rows bag, looked bag) {
	t.Helper()
	for _, row := range looked {
		many := impl.RowMany(rows, row)
		if many != wantMany(rows, row) {
			t.Fatalf("%v are there %d times among %v", row, many, rows)
		}
		for n := 0; n <= len(rows); n++ {
			if impl.RowMany(rows[:n], row)+impl.RowMany(rows[n:], row) != many {
				t.Fatalf("%v: the first %d of %v and all others", row, n, rows)
			}
		}
	}
	all := 0
	for _, row := range impl.RowsOnce(rows) {
		all += impl.RowMany(rows, row)
	}
	if all != len(rows) {
		t.Fatalf("of %v are counted %d", rows, all)
	}
}

func TestPromise160RowsAreCounted(t *testing.T) {
	for _, rows := range bagsOf(bagRows(), 4) {
		checkCounts(t, rows, bagRows())
	}
	for _, rows := range largeBags() {
		checkCounts(t, rows, bag{rows[0], rows[1], rows[100], rows[199], {}, {num(77)}})
	}
}

func TestPromise160EmptyBags(t *testing.T) {
	if impl.RowMany(nil, nil) != 0 || impl.RowMany(bag{}, []impl.Value{num(1)}) != 0 {
		t.Fatal("no rows are none")
	}
	if impl.RowMany(bag{nil, {}}, nil) != 2 || impl.RowMany(bag{{none()}, {}}, []impl.Value{}) != 1 {
		t.Fatal("a row without values is one")
	}
}

// Each value of a row, and each part of a value, is asked whether it is the same.
func TestPromise160OtherRows(t *testing.T) {
	row := []impl.Value{num(3), text("a"), none(), truth(1)}
	for at := range row {
		for _, other := range []impl.Value{num(4), text("b"), text("ab"), truth(0), num(0), {Kind: row[at].Kind, N: 3, S: "a"}} {
			rows := bag{append([]impl.Value{}, row...), append([]impl.Value{}, row...)}
			rows[1][at] = other
			if impl.RowMany(rows, row) != 1 || impl.RowMany(rows, rows[1]) != 1 {
				t.Fatalf("%v are not the same", rows)
			}
		}
		if impl.RowMany(bag{row[:at], row, row[:at]}, row) != 1 || impl.RowMany(bag{row, row[:at]}, row[:at]) != 1 {
			t.Fatalf("the first %d values are another row", at)
		}
	}
}

func TestPromise160WhatIsNoRow(t *testing.T) {
	for _, rows := range bagsOf(mixedRows(), 3) {
		checkCounts(t, rows, mixedRows())
	}
	wrong := wrongRows()
	for i := range wrong {
		checkCounts(t, wrong[i/2:i], bag{wrong[i], wrong[i/2]})
	}
}

// bagAnswers are what each function that gives rows gives for some.
func bagAnswers(rows bag, others bag) []bag {
	return []bag{impl.RowsSorted(rows), impl.RowsOnce(rows), impl.RowsLess(rows, others)}
}

// copyRows leaves room behind the rows, and behind each of them.
func copyRows(rows bag) bag {
	list := make(bag, len(rows), len(rows)+1)
	for i, row := range rows {
		list[i] = append(make([]impl.Value, 0, len(row)+1), row...)
	}
	return list
}

// roomIsLeft reports whether nothing was put into the room that copyRows left.
func roomIsLeft(rows bag) bool {
	for _, row := range rows {
		if row[:len(row)+1][len(row)] != none() {
			return false
		}
	}
	return len(rows[:len(rows)+1][len(rows)]) == 0
}

// What bags give shares no memory with what they were given, nor do two rows of it, nor the room behind them.
func TestBagsAreNewMemory(t *testing.T) {
	for _, rows := range bagsOf(bagRows(), 3) {
		for _, others := range []bag{{}, {{num(2)}}, rows} {
			given, taken := copyRows(rows), copyRows(others)
			wanted := bagAnswers(rows, others)
			for which, answer := range bagAnswers(given, taken) {
				for i := range answer {
					for j := range answer[i] {
						answer[i][j] = num(77)
					}
					_ = append(answer[i], num(78))
				}
				_ = append(answer, []impl.Value{num(79)})
				if !sameRows(given, rows) || !sameRows(taken, others) || !roomIsLeft(given) || !roomIsLeft(taken) {
					t.Fatalf("%v or %v is written, or the room behind them", rows, others)
				}
				again := bagAnswers(given, taken)[which]
				if !sameRows(again, wanted[which]) {
					t.Fatalf("of %v and %v come %v", rows, others, again)
				}
			}
		}
	}
}

// Rows that are one list in an argument are two in an answer.
func TestBagsShareNoRows(t *testing.T) {
	row := []impl.Value{num(2), text("a")}
	for which, answer := range bagAnswers(bag{row, row, row}, nil) {
		for i := range answer {
			for j := range answer[i] {
				answer[i][j] = num(i)
			}
		}
		for i := range answer {
			if answer[i][0] != num(i) {
				t.Fatalf("answer %d: rows share memory: %v", which, answer)
			}
		}
	}
	if row[0] != num(2) || row[1] != text("a") {
		t.Fatalf("the row became %v", row)
	}
}

// The room behind a row of an answer is its own.
func TestBagsShareNoRoom(t *testing.T) {
	rows := bag{{num(1)}, {}, {num(2), text("a")}, {num(1), none(), none()}}
	for which, answer := range bagAnswers(rows, nil) {
		longer := bag{}
		for i := range answer {
			longer = append(longer, append(answer[i], num(80+i)))
		}
		for i, row := range longer {
			if !sameRow(row[:len(row)-1], answer[i]) || row[len(row)-1] != num(80+i) {
				t.Fatalf("answer %d: rows share the room behind them: %v", which, longer)
			}
		}
	}
}

func TestBagsAreNotWritten(t *testing.T) {
	columns := []impl.Column{{Kind: 1, Empty: true}}
	for _, rows := range append(bagsOf(bagRows(), 4), bagsOf(mixedRows(), 3)...) {
		room := append(copyRows(rows), []impl.Value{num(41)}, []impl.Value{num(42)})
		given := room[:len(rows)]
		impl.RowsOk(columns, given)
		impl.RowMany(given, []impl.Value{num(2)})
		impl.SameBag(given, given)
		bagAnswers(given, given)
		if !sameRows(given, rows) || room[len(rows)][0] != num(41) || room[len(rows)+1][0] != num(42) {
			t.Fatalf("%v became %v", rows, room)
		}
	}
}
