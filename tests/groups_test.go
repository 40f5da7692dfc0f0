package tests

import (
	"math"
	"slices"
	"testing"

	"loop.example/tablehouse/impl"
)

func tellings() []int {
	return []int{1, 2, 3, 4}
}

func noTellings() []int {
	return append(farNumbers(), -4, -3, 0, 5, 6, 8, 255, 256, 257, 258, 259, 260, 1<<32+1)
}

// kept are those of some values that are not none.
func kept(values []impl.Value) []impl.Value {
	list := []impl.Value{}
	for _, v := range values {
		if v != none() {
			list = append(list, v)
		}
	}
	return list
}

// firstAndLast are the first and the last one of values of one kind, in their order.
func firstAndLast(values []impl.Value) (impl.Value, impl.Value) {
	first, last := values[0], values[0]
	for _, v := range values {
		if v.N < first.N || v.S < first.S {
			first = v
		}
		if v.N > last.N || v.S > last.S {
			last = v
		}
	}
	return first, last
}

// wantKnown looks at all of some values of one kind at once.
func wantKnown(values []impl.Value) impl.Known {
	values = kept(values)
	if len(values) == 0 {
		return impl.Known{}
	}
	k := impl.Known{Many: len(values)}
	k.Least, k.Most = firstAndLast(values)
	for _, v := range values {
		if v.Kind == impl.KindNum {
			k.Sum += v.N
		}
	}
	return k
}

// wantTold says of some values of one kind what the document tells of them.
func wantTold(values []impl.Value, tell int) impl.Value {
	k := wantKnown(values)
	switch tell {
	case impl.TellMany:
		return num(k.Many)
	case impl.TellSum:
		if k.Least.Kind == impl.KindNum && k.Sum >= -9999 && k.Sum <= 9999 {
			return num(k.Sum)
		}
	case impl.TellLeast:
		return k.Least
	case impl.TellMost:
		return k.Most
	}
	return none()
}

// valueLists are, for each kind, a few values of it in ascending order.
func valueLists() [][]impl.Value {
	return [][]impl.Value{
		{num(-9999), num(-3), num(0), num(7), num(9999)},
		{text(""), text("a"), text("ab"), text("b"), text("zzzzzz")},
		{truth(0), truth(1)},
	}
}

// knowns are what may be known of values, whether there are such values or not.
func knowns() []impl.Known {
	list := []impl.Known{{}}
	for _, values := range valueLists() {
		for i, least := range values {
			for _, most := range values[i:] {
				for _, many := range []int{1, 2, 40, 60, 99, 100} {
					for _, sum := range []int{0, -7, 9999, 10000, -9999 * many, 9999 * many} {
						if sum == 0 || least.Kind == impl.KindNum && sum <= 9999*many {
							list = append(list, impl.Known{Many: many, Sum: sum, Least: least, Most: most})
						}
					}
				}
			}
		}
	}
	return list
}

// wrongKnowns have something known of no values, too few or too many values, sums that cannot be, and ends that are none.
func wrongKnowns() []impl.Known {
	list := []impl.Known{{Sum: 1}, {Sum: -1}, {Least: num(0)}, {Most: num(0)}, {Least: text(""), Most: text("")}, {Sum: 5, Least: num(5), Most: num(5)}}
	for _, many := range append(farNumbers(), 101, 102, 200, 255, 256, 257, 1<<32, 1<<32+1, math.MaxInt/9999+1) {
		list = append(list, impl.Known{Many: many}, impl.Known{Many: many, Least: num(1), Most: num(1)}, impl.Known{Many: many, Least: text("a"), Most: text("b")})
	}
	for _, many := range []int{1, 2, 50, 100} {
		for _, sum := range append(farNumbers()[:2], 9999*many+1, -9999*many-1, math.MaxInt) {
			list = append(list, impl.Known{Many: many, Sum: sum, Least: num(0), Most: num(1)})
		}
		for _, sum := range []int{1, -1, 9999, math.MinInt} {
			list = append(list, impl.Known{Many: many, Sum: sum, Least: text("a"), Most: text("b")}, impl.Known{Many: many, Sum: sum, Least: truth(0), Most: truth(1)})
		}
		list = append(list,
			impl.Known{Many: many}, impl.Known{Many: many, Sum: 1},
			impl.Known{Many: many, Least: num(0)}, impl.Known{Many: many, Most: num(0)},
			impl.Known{Many: many, Least: num(1), Most: num(0)}, impl.Known{Many: many, Least: text("b"), Most: text("ab")}, impl.Known{Many: many, Least: truth(1), Most: truth(0)},
			impl.Known{Many: many, Least: num(0), Most: text("a")}, impl.Known{Many: many, Least: text("a"), Most: truth(1)}, impl.Known{Many: many, Least: num(0), Most: truth(1)})
		for _, wrong := range fewWrongValues() {
			list = append(list,
				impl.Known{Many: many, Least: wrong, Most: wrong},
				impl.Known{Many: many, Least: num(0), Most: wrong}, impl.Known{Many: many, Least: wrong, Most: num(0)},
				impl.Known{Many: many, Least: text("a"), Most: wrong}, impl.Known{Many: many, Least: wrong, Most: text("a")},
				impl.Known{Many: many, Least: truth(0), Most: wrong}, impl.Known{Many: many, Least: wrong, Most: truth(1)})
		}
	}
	return list
}

// wantBoth is the document's sentence once more, of two parts that are ok.
func wantBoth(a impl.Known, b impl.Known) impl.Known {
	switch {
	case a == impl.Known{}:
		return b
	case b == impl.Known{}:
		return a
	case a.Least.Kind != b.Least.Kind || a.Many+b.Many > 100:
		return impl.Known{}
	}
	both := impl.Known{Many: a.Many + b.Many, Sum: a.Sum + b.Sum}
	both.Least, both.Most = firstAndLast([]impl.Value{a.Least, a.Most, b.Least, b.Most})
	return both
}

func checkBoth(t *testing.T, a impl.Known, b impl.Known, want impl.Known) {
	t.Helper()
	if got := impl.KnownBoth(a, b); got != want {
		t.Fatalf("of %v and %v is known %v, not %v", a, b, got, want)
	}
	if got := impl.KnownBoth(b, a); got != want {
		t.Fatalf("of %v and %v is known %v, not %v", b, a, got, want)
	}
	if !impl.KnownOk(want) {
		t.Fatalf("%v cannot be known", want)
	}
}

func TestPromise30AnyOrder(t *testing.T) {
	list := knowns()
	for _, a := range list {
		if !impl.KnownOk(a) {
			t.Fatalf("%v can be known", a)
		}
		for _, b := range list {
			checkBoth(t, a, b, wantBoth(a, b))
		}
	}
}

func TestPromise30AsWritten(t *testing.T) {
	four, less := impl.KnownOf(num(4)), impl.KnownOf(num(-1))
	two := impl.Known{Many: 2, Sum: 3, Least: num(-1), Most: num(4)}
	checkBoth(t, four, less, two)
	checkBoth(t, two, two, impl.Known{Many: 4, Sum: 6, Least: num(-1), Most: num(4)})
	checkBoth(t, two, impl.KnownOf(num(9999)), impl.Known{Many: 3, Sum: 10002, Least: num(-1), Most: num(9999)})
	checkBoth(t, impl.KnownOf(text("b")), impl.KnownOf(text("ab")), impl.Known{Many: 2, Least: text("ab"), Most: text("b")})
	checkBoth(t, impl.KnownOf(truth(1)), impl.KnownOf(truth(0)), impl.Known{Many: 2, Least: truth(0), Most: truth(1)})
	checkBoth(t, two, impl.KnownOf(none()), two)
	checkBoth(t, two, impl.KnownOf(text("a")), impl.Known{})
	checkBoth(t, impl.KnownOf(truth(1)), impl.KnownOf(num(1)), impl.Known{})
}

// allBrackets are what is known of values, put together one behind the other in all ways.
func allBrackets(values []impl.Value) []impl.Known {
	if len(values) == 1 {
		return []impl.Known{impl.KnownOf(values[0])}
	}
	list := []impl.Known{}
	for n := 1; n < len(values); n++ {
		for _, a := range allBrackets(values[:n]) {
			for _, b := range allBrackets(values[n:]) {
				list = append(list, impl.KnownBoth(a, b))
			}
		}
	}
	return list
}

func TestPromise30AnyBrackets(t *testing.T) {
	for _, values := range valueLists() {
		rows := bag{{none()}}
		for _, v := range values {
			rows = append(rows, []impl.Value{v})
		}
		for _, list := range bagsOf(rows, 4)[1:] {
			all := []impl.Value{}
			for _, row := range list {
				all = append(all, row[0])
			}
			for _, k := range allBrackets(all) {
				if k != wantKnown(all) {
					t.Fatalf("of %v is known %v", all, k)
				}
			}
		}
	}
}

// Of three parts of one kind the third one is one value, and all of them are of not more values than there may be.
func TestPromise30AnyBracketsOfThree(t *testing.T) {
	list := knowns()
	for i, a := range list {
		for j, b := range list {
			if (i+j)%5 != 0 || a.Many+b.Many > 99 || a.Many > 0 && b.Many > 0 && a.Least.Kind != b.Least.Kind {
				continue
			}
			kind := max(a.Least.Kind, b.Least.Kind, 1)
			for _, v := range valueLists()[kind-1] {
				c := impl.KnownOf(v)
				want := wantBoth(wantBoth(a, b), c)
				checkBoth(t, impl.KnownBoth(a, b), c, want)
				checkBoth(t, a, impl.KnownBoth(b, c), want)
				checkBoth(t, impl.KnownBoth(a, c), b, want)
			}
		}
	}
}

func TestPromise30AHundredValues(t *testing.T) {
	for _, values := range valueLists() {
		all, k := []impl.Value{}, impl.Known{}
		for many := 1; many <= 100; many++ {
			all = append(all, values[many*many%len(values)])
			k = impl.KnownBoth(k, impl.KnownOf(all[many-1]))
			if k != wantKnown(all) || k.Many != many {
				t.Fatalf("of %d values is known %v", many, k)
			}
		}
		checkBoth(t, k, impl.Known{}, k)
		for many := 1; many <= 100; many++ {
			checkBoth(t, k, wantKnown(all[:many]), impl.Known{})
			checkBoth(t, wantKnown(all[:many]), wantKnown(all[many:]), k)
			checkBoth(t, wantKnown(all[:many]), wantKnown(all[many-1:]), impl.Known{})
		}
	}
}

// The sum may be as far out as all values are, and comes back from there.
func TestPromise30FarSums(t *testing.T) {
	high, low := impl.Known{}, impl.Known{}
	for many := 1; many <= 50; many++ {
		high = impl.KnownBoth(high, impl.KnownOf(num(9999)))
		low = impl.KnownBoth(low, impl.KnownOf(num(-9999)))
		if high.Sum != 9999*many || low.Sum != -9999*many {
			t.Fatalf("the sums are %d and %d", high.Sum, low.Sum)
		}
		checkBoth(t, high, low, impl.Known{Many: 2 * many, Least: num(-9999), Most: num(9999)})
	}
	checkBoth(t, high, high, impl.Known{Many: 100, Sum: 999900, Least: num(9999), Most: num(9999)})
	checkBoth(t, low, low, impl.Known{Many: 100, Sum: -999900, Least: num(-9999), Most: num(-9999)})
}

func TestPromise30WhatCannotBeKnown(t *testing.T) {
	parts := []impl.Known{{}, impl.KnownOf(num(3)), impl.KnownOf(text("a")), impl.KnownOf(truth(1)), {Many: 100, Least: num(0), Most: num(0)}}
	for _, wrong := range wrongKnowns() {
		if impl.KnownOk(wrong) {
			t.Fatalf("%v cannot be known", wrong)
		}
		checkBoth(t, wrong, wrong, impl.Known{})
		for _, k := range parts {
			checkBoth(t, wrong, k, impl.Known{})
		}
	}
}

// wantKnownOk looks for both ends in a list of values in order; -1 is of those that are not there.
func wantKnownOk(k impl.Known, least int, most int) bool {
	if k.Many < 1 || k.Many > 100 {
		return k == impl.Known{}
	}
	if least < 0 || least > most || k.Least.Kind == impl.KindNone || k.Least.Kind != k.Most.Kind {
		return false
	}
	if k.Least.Kind != impl.KindNum {
		return k.Sum == 0
	}
	return k.Sum/k.Many < 9999 && k.Sum/k.Many > -9999 || k.Sum == 9999*k.Many || k.Sum == -9999*k.Many
}

func TestPromise30WhatCanBeKnown(t *testing.T) {
	ends, places := []impl.Value{}, []int{}
	for i, w := range writtenValues() {
		ends, places = append(ends, w.v), append(places, i)
	}
	for i := 0; i < 60; i += 4 {
		ends, places = append(ends, wrongValues()[i]), append(places, -1)
	}
	for i, least := range ends {
		for j, most := range ends {
			for _, many := range []int{math.MinInt, -100, -1, 0, 1, 2, 99, 100, 101, math.MaxInt} {
				for _, sum := range []int{0, 1, -1, 9998, 9999, 10000, -9999, -10000, 989900, 999899, 999900, 999901, -999900, -999901, math.MinInt, math.MaxInt} {
					k := impl.Known{Many: many, Sum: sum, Least: least, Most: most}
					if want := wantKnownOk(k, places[i], places[j]); impl.KnownOk(k) != want {
						t.Fatalf("%v can be known: %v", k, !want)
					}
				}
			}
		}
	}
}

// groupColumns have a column of each kind, and one that is never none.
func groupColumns() []impl.Column {
	return []impl.Column{{Kind: impl.KindNum, Empty: true}, {Kind: impl.KindText, Empty: true}, {Kind: impl.KindTruth, Empty: true}, {Kind: impl.KindNum}}
}

func groupRows() bag {
	return bag{
		{num(2), text("b"), truth(1), num(9999)},
		{none(), text("a"), none(), num(1)},
		{num(2), none(), truth(0), num(-9999)},
		{none(), none(), none(), num(1)},
		{num(-1), text("a"), truth(1), num(-9999)},
		{none(), text("b"), truth(0), num(9999)},
	}
}

// columnLists are all lists of at most so many of the first columns.
func columnLists(columns int, most int) [][]int {
	list := [][]int{{}}
	for from := 0; len(list[from]) < most; from++ {
		for n := 0; n < columns; n++ {
			list = append(list, append(slices.Clone(list[from]), n))
		}
	}
	return list
}

func taken(row []impl.Value, by []int) []impl.Value {
	list := []impl.Value{}
	for _, n := range by {
		list = append(list, row[n])
	}
	return list
}

// wantGroups looks for each group through all rows once more.
func wantGroups(rows bag, by []int, of int, tell int) bag {
	fronts := bag{}
	for _, row := range rows {
		fronts = append(fronts, taken(row, by))
	}
	groups := bag{}
	for _, front := range wantOnce(fronts) {
		values := []impl.Value{}
		for i, row := range rows {
			if sameRow(fronts[i], front) {
				values = append(values, row[of])
			}
		}
		groups = append(groups, append(slices.Clone(front), wantTold(values, tell)))
	}
	return groups
}

// wantGrouped is what the document asks of columns that are ok.
func wantGrouped(columns []impl.Column, by []int, of int, tell int) bool {
	for _, n := range by {
		if n < 0 || n >= len(columns) {
			return false
		}
	}
	if len(by) > 3 || of < 0 || of >= len(columns) {
		return false
	}
	return tell == 1 || tell == 2 && columns[of].Kind == 1 || tell == 3 || tell == 4
}

func checkGroups(t *testing.T, columns []impl.Column, rows bag, by []int, of int, tell int, want bag) {
	t.Helper()
	if got := impl.GroupRows(columns, rows, by, of, tell); !sameRows(got, want) {
		t.Fatalf("%v by %v of %d: %d tells %v, not %v", rows, by, of, tell, got, want)
	}
}

func checkNoGroups(t *testing.T, columns []impl.Column, rows bag, by []int, of int, tell int) {
	t.Helper()
	checkGroups(t, columns, rows, by, of, tell, nil)
}

// checkNotGrouped asks that columns cannot be grouped so, with rows or without.
func checkNotGrouped(t *testing.T, columns []impl.Column, rows bag, by []int, of int, tell int) {
	t.Helper()
	checkNoGroups(t, columns, rows, by, of, tell)
	checkNoGroups(t, columns, nil, by, of, tell)
	if got := impl.GroupColumns(columns, by, of, tell); len(got) != 0 {
		t.Fatalf("%v by %v of %d: %d is told in %v", columns, by, of, tell, got)
	}
}

// checkAllGroups asks for groups of rows on groupColumns by each list, of each column, and each telling.
func checkAllGroups(t *testing.T, rows bag) {
	t.Helper()
	columns := groupColumns()
	for _, by := range columnLists(4, 3) {
		for of := range columns {
			for _, tell := range tellings() {
				if wantGrouped(columns, by, of, tell) {
					checkGroups(t, columns, rows, by, of, tell, wantGroups(rows, by, of, tell))
				} else {
					checkNotGrouped(t, columns, rows, by, of, tell)
				}
			}
		}
	}
}

func TestPromise31GroupsAreTheirRows(t *testing.T) {
	if impl.TellMany != 1 || impl.TellSum != 2 || impl.TellLeast != 3 || impl.TellMost != 4 {
		t.Fatal("what can be told has other numbers")
	}
	for i, rows := range bagsOf(groupRows(), 4) {
		if len(rows) < 2 || i%17 == 0 {
			checkAllGroups(t, rows)
		}
	}
	for _, rows := range []bag{groupRows(), turnedRound(groupRows()), joined(groupRows(), turnedRound(groupRows()))} {
		checkAllGroups(t, rows)
	}
}

func TestPromise31AsWritten(t *testing.T) {
	columns, rows := groupColumns(), groupRows()
	for _, w := range []struct {
		by       []int
		of, tell int
		want     bag
	}{
		// Groups stand in the order of their first rows; what is none is a group of its own.
		{[]int{0}, 3, impl.TellMany, bag{{num(2), num(2)}, {none(), num(3)}, {num(-1), num(1)}}},
		{[]int{0}, 3, impl.TellSum, bag{{num(2), num(0)}, {none(), none()}, {num(-1), num(-9999)}}},
		{[]int{0}, 3, impl.TellLeast, bag{{num(2), num(-9999)}, {none(), num(1)}, {num(-1), num(-9999)}}},
		{[]int{0}, 3, impl.TellMost, bag{{num(2), num(9999)}, {none(), num(9999)}, {num(-1), num(-9999)}}},
		{[]int{1}, 3, impl.TellSum, bag{{text("b"), none()}, {text("a"), num(-9998)}, {none(), num(-9998)}}},
		{[]int{2}, 0, impl.TellSum, bag{{truth(1), num(1)}, {none(), none()}, {truth(0), num(2)}}},
		// Values that are none do not count; where there are no others nothing is told but how many.
		{[]int{0}, 0, impl.TellMany, bag{{num(2), num(2)}, {none(), num(0)}, {num(-1), num(1)}}},
		{[]int{0}, 0, impl.TellSum, bag{{num(2), num(4)}, {none(), none()}, {num(-1), num(-1)}}},
		{[]int{0}, 0, impl.TellLeast, bag{{num(2), num(2)}, {none(), none()}, {num(-1), num(-1)}}},
		{[]int{0}, 1, impl.TellLeast, bag{{num(2), text("b")}, {none(), text("a")}, {num(-1), text("a")}}},
		{[]int{0}, 1, impl.TellMost, bag{{num(2), text("b")}, {none(), text("b")}, {num(-1), text("a")}}},
		{[]int{0}, 1, impl.TellMany, bag{{num(2), num(1)}, {none(), num(2)}, {num(-1), num(1)}}},
		{[]int{1}, 2, impl.TellMost, bag{{text("b"), truth(1)}, {text("a"), truth(1)}, {none(), truth(0)}}},
		{[]int{1}, 2, impl.TellLeast, bag{{text("b"), truth(0)}, {text("a"), truth(1)}, {none(), truth(0)}}},
		// By no columns all rows are one group.
		{nil, 3, impl.TellSum, bag{{num(2)}}},
		{[]int{}, 1, impl.TellMany, bag{{num(4)}}},
		{nil, 0, impl.TellLeast, bag{{num(-1)}}},
		// By several columns, in the order of the list, and by one twice.
		{[]int{2, 0}, 3, impl.TellMany, bag{{truth(1), num(2), num(1)}, {none(), none(), num(2)}, {truth(0), num(2), num(1)}, {truth(1), num(-1), num(1)}, {truth(0), none(), num(1)}}},
		{[]int{3, 1}, 0, impl.TellMany, bag{{num(9999), text("b"), num(1)}, {num(1), text("a"), num(0)}, {num(-9999), none(), num(1)}, {num(1), none(), num(0)}, {num(-9999), text("a"), num(1)}}},
		{[]int{0, 0, 0}, 3, impl.TellMost, bag{{num(2), num(2), num(2), num(9999)}, {none(), none(), none(), num(9999)}, {num(-1), num(-1), num(-1), num(-9999)}}},
	} {
		checkGroups(t, columns, rows, w.by, w.of, w.tell, w.want)
	}
}

// manyGroupRows are more rows than a table has, in few groups and many.
func manyGroupRows(many int) bag {
	rows := bag{}
	for i := range many {
		row := []impl.Value{none(), none(), none(), num(i*7919%19999 - 9999)}
		if i%7 > 1 {
			row[0] = num(i % 7)
		}
		if i*i%5 > 0 {
			row[1] = text([]string{"", "a", "ab", "b"}[i*i%5-1])
		}
		if i%3 > 0 {
			row[2] = truth(i % 2)
		}
		rows = append(rows, row)
	}
	return rows
}

func TestPromise31AHundredRows(t *testing.T) {
	for _, many := range []int{7, 50, 99, 100} {
		checkAllGroups(t, manyGroupRows(many))
	}
	same := slices.Repeat(groupRows()[:1], 100)
	checkGroups(t, groupColumns(), same, []int{1}, 0, impl.TellMany, bag{{text("b"), num(100)}})
	checkGroups(t, groupColumns(), same, []int{1}, 0, impl.TellSum, bag{{text("b"), num(200)}})
	checkGroups(t, groupColumns(), same, []int{1}, 3, impl.TellSum, bag{{text("b"), none()}})
	for _, many := range []int{101, 102, 200, 255, 256, 300} {
		for _, tell := range tellings() {
			for _, by := range [][]int{nil, {0}, {1, 2}, {3, 0, 1}} {
				checkNoGroups(t, groupColumns(), manyGroupRows(many), by, 0, tell)
				checkNoGroups(t, groupColumns(), slices.Repeat(groupRows()[3:4], many), by, 0, tell)
			}
		}
	}
}

// Each different front stands once, and how many values are told of all groups are all that there are.
func TestPromise31EachGroupOnce(t *testing.T) {
	columns := groupColumns()
	for _, rows := range append(bagsOf(groupRows(), 3), manyGroupRows(100)) {
		for i, by := range columnLists(4, 3) {
			of := (i + len(rows)) % 4
			groups := impl.GroupRows(columns, rows, by, of, impl.TellMany)
			fronts, told, there := bag{}, bag{}, 0
			for _, row := range rows {
				fronts = append(fronts, taken(row, by))
				there += len(kept(row[of : of+1]))
			}
			for _, group := range groups {
				told = append(told, group[:len(by)])
				there -= group[len(by)].N
			}
			if !sameRows(told, impl.RowsOnce(fronts)) || there != 0 {
				t.Fatalf("%v by %v of %d are %v", rows, by, of, groups)
			}
		}
	}
}

func TestPromise31RowsTwice(t *testing.T) {
	columns := groupColumns()
	for _, rows := range append(bagsOf(groupRows(), 3), manyGroupRows(50)) {
		for i, by := range columnLists(4, 3) {
			of := (i + len(rows)) % 4
			for _, tell := range []int{impl.TellLeast, impl.TellMost} {
				checkGroups(t, columns, joined(rows, rows), by, of, tell, impl.GroupRows(columns, rows, by, of, tell))
			}
		}
	}
}

// bothMany puts the groups of two parts together: those of the first one, and those that the second one has besides.
func bothMany(a bag, b bag) bag {
	both := bag{}
	for _, group := range a {
		both = append(both, slices.Clone(group))
	}
	for _, group := range b {
		last := len(group) - 1
		at := slices.IndexFunc(both, func(other []impl.Value) bool { return sameRow(other[:last], group[:last]) })
		if at < 0 {
			both = append(both, group)
			continue
		}
		both[at][last] = num(both[at][last].N + group[last].N)
	}
	return both
}

func TestPromise31TwoParts(t *testing.T) {
	columns, rows := groupColumns(), manyGroupRows(100)
	for n := range rows {
		for i, by := range columnLists(4, 3) {
			if i%4 != n%4 {
				continue
			}
			front := impl.GroupRows(columns, rows[:n], by, n%3, impl.TellMany)
			back := impl.GroupRows(columns, rows[n:], by, n%3, impl.TellMany)
			checkGroups(t, columns, rows, by, n%3, impl.TellMany, bothMany(front, back))
		}
	}
}

// A sum is told if it is in the range in the end, however far out it was on the way.
func TestPromise31SumsThatLeaveTheRange(t *testing.T) {
	columns := []impl.Column{{Kind: impl.KindText}, {Kind: impl.KindNum, Empty: true}}
	for _, w := range []struct {
		numbers []int
		sum     impl.Value
	}{
		{[]int{9999}, num(9999)},
		{[]int{9999, 1}, none()},
		{[]int{9999, 0}, num(9999)},
		{[]int{9999, 1, -1}, num(9999)},
		{[]int{-9999, -1}, none()},
		{[]int{-9999, -1, 1}, num(-9999)},
		{[]int{5000, 4999}, num(9999)},
		{[]int{5000, 5000}, none()},
		{[]int{-5000, -4999}, num(-9999)},
		{[]int{-5000, -5000}, none()},
		{[]int{9999, 9999, 9999, -9999, -9999}, num(9999)},
		{[]int{0, 0}, num(0)},
		{[]int{9999, -9999}, num(0)},
	} {
		rows := bag{}
		for _, n := range w.numbers {
			rows = append(rows, []impl.Value{text("a"), num(n)}, []impl.Value{text("b"), num(1)}, []impl.Value{text("a"), none()})
		}
		many, ones := len(w.numbers), []impl.Value{text("b"), num(len(w.numbers))}
		checkGroups(t, columns, rows, []int{0}, 1, impl.TellSum, bag{{text("a"), w.sum}, ones})
		checkGroups(t, columns, rows, []int{0}, 1, impl.TellMany, bag{{text("a"), num(many)}, ones})
		checkGroups(t, columns, rows, []int{0}, 1, impl.TellLeast, bag{{text("a"), num(slices.Min(w.numbers))}, {text("b"), num(1)}})
		checkGroups(t, columns, rows, []int{0}, 1, impl.TellMost, bag{{text("a"), num(slices.Max(w.numbers))}, {text("b"), num(1)}})
	}
}

// Without rows there is no group, not even by no columns.
func TestPromise31NoRows(t *testing.T) {
	columns := groupColumns()
	for _, by := range columnLists(4, 3) {
		for of := range columns {
			for _, tell := range tellings() {
				checkNoGroups(t, columns, nil, by, of, tell)
				checkNoGroups(t, columns, bag{}, by, of, tell)
			}
		}
	}
}

// Rows without values have no column of which something could be told.
func TestPromise31NoColumns(t *testing.T) {
	for _, tell := range tellings() {
		for _, rows := range []bag{nil, {{}}, {{}, nil}} {
			checkNotGrouped(t, nil, rows, nil, 0, tell)
			checkNotGrouped(t, []impl.Column{}, rows, []int{0}, 0, tell)
		}
	}
}

func TestPromise31OtherColumns(t *testing.T) {
	columns, rows := groupColumns(), groupRows()
	for _, far := range append(farNumbers(), 4, 5, 6, 255, 256, 257, 1<<32) {
		for _, tell := range tellings() {
			checkNotGrouped(t, columns, rows, nil, far, tell)
			checkNotGrouped(t, columns, rows, []int{0, 3}, far, tell)
			for _, by := range [][]int{{far}, {far, 0}, {0, far}, {1, 2, far}, {far, far, far}} {
				checkNotGrouped(t, columns, rows, by, 3, tell)
			}
		}
	}
	for there := 1; there <= 3; there++ {
		rows := bag{groupRows()[0][:there]}
		for _, tell := range []int{impl.TellMany, impl.TellLeast, impl.TellMost} {
			checkNotGrouped(t, columns[:there], rows, []int{there}, 0, tell)
			checkNotGrouped(t, columns[:there], rows, []int{0}, there, tell)
		}
	}
}

// A list has at most three columns, and not more even if some are the same.
func TestPromise31LongLists(t *testing.T) {
	columns, rows := groupColumns(), groupRows()
	for _, by := range columnLists(4, 4) {
		if len(by) == 4 {
			checkNotGrouped(t, columns, rows, by, 3, 1+by[0])
		}
	}
	for _, many := range []int{4, 5, 8, 255, 256, 257, 259} {
		for _, tell := range tellings() {
			checkNotGrouped(t, columns, rows, make([]int, many), 0, tell)
			checkNotGrouped(t, columns[:1], bag{{num(1)}}, make([]int, many), 0, tell)
		}
	}
}

func TestPromise31OtherTellings(t *testing.T) {
	columns, rows := groupColumns(), groupRows()
	for _, tell := range noTellings() {
		for _, by := range [][]int{nil, {0}, {3, 1}, {2, 2, 2}} {
			for of := range columns {
				checkNotGrouped(t, columns, rows, by, of, tell)
			}
		}
	}
	// The sum is of numbers alone, even where no value is another one.
	for of := 1; of <= 2; of++ {
		checkNotGrouped(t, columns, rows[3:4], nil, of, impl.TellSum)
		checkNotGrouped(t, columns, rows, []int{0}, of, impl.TellSum)
	}
}

func TestPromise31RowsThatDoNotFit(t *testing.T) {
	columns := groupColumns()
	others := append(wrongRows(), bag{{}, {num(4)}, {num(4), text("a"), truth(1)}, {num(4), text("a"), truth(1), none()}, {text("a"), text("a"), truth(1), num(1)}, {num(1), text("a"), truth(1), num(1), num(1)}}...)
	for _, other := range others {
		if impl.RowFits(columns, other) {
			t.Fatalf("%v fits", other)
		}
		for at := range groupRows() {
			rows := groupRows()
			rows[at] = other
			for _, tell := range tellings() {
				checkNoGroups(t, columns, rows, []int{1}, 0, tell)
			}
		}
	}
	for _, given := range wrongColumns() {
		for _, tell := range tellings() {
			checkNotGrouped(t, given, bag{make([]impl.Value, len(given))}, nil, 0, tell)
			checkNotGrouped(t, given, bag{{}}, []int{0}, len(given)-1, tell)
		}
	}
}

func TestPromise166NothingIsKnownOfNothing(t *testing.T) {
	if got := impl.KnownOf(none()); got != (impl.Known{}) || !impl.KnownOk(got) {
		t.Fatalf("of no value is known %v", got)
	}
	checkBoth(t, impl.KnownOf(none()), impl.KnownOf(none()), impl.Known{})
	checkBoth(t, impl.Known{}, impl.Known{}, impl.Known{})
	for _, k := range knowns() {
		checkBoth(t, k, impl.Known{}, k)
		checkBoth(t, k, impl.KnownOf(none()), k)
	}
	for _, v := range sampleValues() {
		checkBoth(t, impl.KnownOf(v), impl.KnownOf(none()), wantKnown([]impl.Value{v}))
	}
}

func TestPromise166WhatIsNoValue(t *testing.T) {
	for _, wrong := range wrongValues() {
		if got := impl.KnownOf(wrong); got != (impl.Known{}) {
			t.Fatalf("of %v is known %v", wrong, got)
		}
	}
}

func TestPromise166NothingIsTold(t *testing.T) {
	if got := impl.KnownTell(impl.Known{}, impl.TellMany); got != num(0) {
		t.Fatalf("there are %v of nothing", got)
	}
	for _, tell := range append(noTellings(), 2, 3, 4) {
		if got := impl.KnownTell(impl.Known{}, tell); got != none() {
			t.Fatalf("%d tells %v of nothing", tell, got)
		}
	}
}

func TestPromise167OneValue(t *testing.T) {
	for _, v := range sampleValues() {
		k := impl.KnownOf(v)
		if !impl.KnownOk(k) || k != wantKnown([]impl.Value{v}) {
			t.Fatalf("of %v is known %v", v, k)
		}
		if v == none() {
			continue
		}
		if impl.KnownTell(k, impl.TellLeast) != v || impl.KnownTell(k, impl.TellMost) != v || impl.KnownTell(k, impl.TellMany) != num(1) {
			t.Fatalf("of %v is told %v", v, k)
		}
	}
}

func TestPromise167AsWritten(t *testing.T) {
	for _, w := range []struct {
		v   impl.Value
		sum int
	}{{num(5), 5}, {num(-9999), -9999}, {num(9999), 9999}, {num(0), 0}, {text(""), 0}, {text("ab"), 0}, {truth(0), 0}, {truth(1), 0}} {
		k := impl.KnownOf(w.v)
		if k != (impl.Known{Many: 1, Sum: w.sum, Least: w.v, Most: w.v}) || !impl.KnownOk(k) {
			t.Fatalf("of %v is known %v", w.v, k)
		}
		told := impl.KnownTell(k, impl.TellSum)
		if w.v.Kind == impl.KindNum && told != w.v || w.v.Kind != impl.KindNum && told != none() {
			t.Fatalf("of %v the sum is told as %v", w.v, told)
		}
	}
}

func TestPromise168WhatIsTold(t *testing.T) {
	for _, k := range knowns() {
		for _, tell := range tellings() {
			if v := impl.KnownTell(k, tell); !impl.ValueOk(v) {
				t.Fatalf("%d tells of %v %v", tell, k, v)
			}
		}
		least, most := impl.KnownTell(k, impl.TellLeast), impl.KnownTell(k, impl.TellMost)
		if least != k.Least || most != k.Most || impl.ValueOrder(least, most) > 0 {
			t.Fatalf("of %v the least is %v, and the greatest %v", k, least, most)
		}
		if many := impl.KnownTell(k, impl.TellMany); many != num(k.Many) {
			t.Fatalf("of %v are told %v", k, many)
		}
		want := none()
		if k.Least.Kind == impl.KindNum && max(k.Sum, -k.Sum) <= 9999 {
			want = num(k.Sum)
		}
		if sum := impl.KnownTell(k, impl.TellSum); sum != want {
			t.Fatalf("of %v the sum is told as %v", k, sum)
		}
	}
}

func TestPromise168OfValues(t *testing.T) {
	for _, values := range valueLists() {
		for many := 1; many <= 100; many++ {
			list, k := []impl.Value{}, impl.Known{}
			for i := range many {
				list = append(list, values[(i*i+many)%len(values)])
				k = impl.KnownBoth(k, impl.KnownOf(list[i]))
			}
			for _, tell := range tellings() {
				if got := impl.KnownTell(k, tell); got != wantTold(list, tell) {
					t.Fatalf("%d tells %v of %v", tell, got, list)
				}
			}
		}
	}
}

func TestPromise168NothingElseIsTold(t *testing.T) {
	for _, tell := range noTellings() {
		for _, k := range knowns() {
			if got := impl.KnownTell(k, tell); got != none() {
				t.Fatalf("%d tells %v of %v", tell, got, k)
			}
		}
	}
	for _, wrong := range wrongKnowns() {
		for _, tell := range append(noTellings(), tellings()...) {
			if got := impl.KnownTell(wrong, tell); got != none() {
				t.Fatalf("%d tells %v of %v", tell, got, wrong)
			}
		}
	}
}

func wantGroupColumns(columns []impl.Column, by []int, of int, tell int) []impl.Column {
	list := []impl.Column{}
	for _, n := range by {
		list = append(list, columns[n])
	}
	if tell == impl.TellMany {
		return append(list, impl.Column{Kind: impl.KindNum})
	}
	return append(list, impl.Column{Kind: columns[of].Kind, Empty: true})
}

func checkGroupColumns(t *testing.T, columns []impl.Column, by []int, of int, tell int, want []impl.Column) {
	t.Helper()
	got := impl.GroupColumns(columns, by, of, tell)
	if !slices.Equal(got, want) || len(got) != len(by)+1 || !impl.ColumnsOk(got) {
		t.Fatalf("%v by %v of %d: %d is told in %v, not %v", columns, by, of, tell, got, want)
	}
}

func TestPromise169AllColumns(t *testing.T) {
	for i, columns := range allColumns() {
		for j, by := range columnLists(4, 4) {
			of, tell := (i+j)%5, 1+(i+j/5)%4
			if wantGrouped(columns, by, of, tell) {
				checkGroupColumns(t, columns, by, of, tell, wantGroupColumns(columns, by, of, tell))
			} else {
				checkNotGrouped(t, columns, nil, by, of, tell)
			}
		}
	}
}

func TestPromise169AsWritten(t *testing.T) {
	columns := []impl.Column{{Kind: impl.KindText}, {Kind: impl.KindNum}, {Kind: impl.KindTruth, Empty: true}}
	words, numbers, truths := columns[0], columns[1], columns[2]
	for _, w := range []struct {
		by       []int
		of, tell int
		want     []impl.Column
	}{
		{nil, 0, impl.TellMany, []impl.Column{numbers}},
		{nil, 2, impl.TellMany, []impl.Column{numbers}},
		{[]int{0}, 1, impl.TellSum, []impl.Column{words, {Kind: impl.KindNum, Empty: true}}},
		{[]int{2, 0}, 0, impl.TellLeast, []impl.Column{truths, words, {Kind: impl.KindText, Empty: true}}},
		{[]int{1, 1, 2}, 2, impl.TellMost, []impl.Column{numbers, numbers, truths, truths}},
		{[]int{2, 1, 0}, 2, impl.TellMany, []impl.Column{truths, numbers, words, numbers}},
	} {
		checkGroupColumns(t, columns, w.by, w.of, w.tell, w.want)
	}
}

func TestPromise169GroupsFit(t *testing.T) {
	columns := groupColumns()
	for i, rows := range append(bagsOf(groupRows(), 3), manyGroupRows(100), slices.Repeat(groupRows()[:1], 100)) {
		for j, by := range columnLists(4, 3) {
			of, tell := (i+j)%4, 1+(i+j/5)%4
			if !wantGrouped(columns, by, of, tell) {
				continue
			}
			told := impl.GroupColumns(columns, by, of, tell)
			groups := impl.GroupRows(columns, rows, by, of, tell)
			if len(told) != len(by)+1 || !impl.RowsOk(told, groups) || len(rows) > 0 && len(groups) == 0 {
				t.Fatalf("%v by %v of %d are %v, and do not fit %v", rows, by, of, groups, told)
			}
		}
	}
}

// Groups and their columns share no memory with what was given, nor with each other, and nothing that was given is written.
func TestGroupsAreNewMemory(t *testing.T) {
	beyond := impl.Column{Kind: 77}
	for _, rows := range append(bagsOf(groupRows(), 2), manyGroupRows(30)) {
		for i, by := range columnLists(4, 3) {
			of, tell := i%4, 1+i/3%4
			given, columns, list := copyRows(rows), append(groupColumns(), beyond), append(slices.Clone(by), 77)
			groups := impl.GroupRows(columns[:4], given, list[:len(by)], of, tell)
			want := wantGroups(rows, by, of, tell)
			for n := range groups {
				overwriteRow(groups[n])
				if n+1 < len(groups) && !sameRow(groups[n+1], want[n+1]) {
					t.Fatalf("groups of %v by %v share memory", rows, by)
				}
			}
			overwrite(groups)
			told := impl.GroupColumns(columns[:4], list[:len(by)], of, tell)
			for n := range told {
				told[n] = beyond
			}
			_ = append(told, beyond)
			if !sameRows(given, rows) || !roomIsLeft(given) || !slices.Equal(columns, append(groupColumns(), beyond)) || !slices.Equal(list, append(slices.Clone(by), 77)) {
				t.Fatalf("%v became %v, or the room behind them did, or columns", rows, given)
			}
		}
	}
}
