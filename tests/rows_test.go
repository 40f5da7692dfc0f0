package tests

import (
	"bytes"
	"math"
	"testing"

	"loop.example/tablehouse/impl"
)

// writtenRow is a row with the bytes that the document gives it, written by hand.
type writtenRow struct {
	row []impl.Value
	b   []byte
}

// writtenRows stand in ascending order.
func writtenRows() []writtenRow {
	return []writtenRow{
		{[]impl.Value{}, []byte{0}},
		{[]impl.Value{none()}, []byte{1, 0}},
		{[]impl.Value{none(), none()}, []byte{2, 0, 0}},
		{[]impl.Value{none(), none(), none(), none()}, []byte{4, 0, 0, 0, 0}},
		{[]impl.Value{none(), num(5)}, []byte{2, 0, 1, 39, 21}},
		{[]impl.Value{num(-9999)}, []byte{1, 1, 0, 1}},
		{[]impl.Value{num(3)}, []byte{1, 1, 39, 19}},
		{[]impl.Value{num(3), none()}, []byte{2, 1, 39, 19, 0}},
		{[]impl.Value{num(3), num(10)}, []byte{2, 1, 39, 19, 1, 39, 26}},
		{[]impl.Value{num(3), text("a")}, []byte{2, 1, 39, 19, 2, 1, 97}},
		{[]impl.Value{num(10)}, []byte{1, 1, 39, 26}},
		{[]impl.Value{text("")}, []byte{1, 2, 0}},
		{[]impl.Value{text(""), text("a")}, []byte{2, 2, 0, 2, 1, 97}},
		{[]impl.Value{text("a"), none()}, []byte{2, 2, 1, 97, 0}},
		{[]impl.Value{text("a"), num(256), text("bc"), truth(1)}, []byte{4, 2, 1, 97, 1, 40, 16, 2, 2, 98, 99, 3, 1}},
		{[]impl.Value{text("ab")}, []byte{1, 2, 2, 97, 98}},
		{[]impl.Value{text("zzzzzz"), text("zzzzzz")}, []byte{2, 2, 6, 122, 122, 122, 122, 122, 122, 2, 6, 122, 122, 122, 122, 122, 122}},
		{[]impl.Value{truth(0), truth(1), truth(0)}, []byte{3, 3, 0, 3, 1, 3, 0}},
		{[]impl.Value{truth(1)}, []byte{1, 3, 1}},
	}
}

// orderedRows are all rows of a few values. They stand in ascending order: a row, and ahead of the next one of its length all those that it begins.
func orderedRows() [][]impl.Value {
	return rowsFrom([]impl.Value{})
}

func rowsFrom(front []impl.Value) [][]impl.Value {
	list := [][]impl.Value{front}
	if len(front) == 4 {
		return list
	}
	for _, v := range []impl.Value{none(), num(-1), num(2), text("a"), text("ab"), truth(0)} {
		longer := append(append([]impl.Value{}, front...), v)
		list = append(list, rowsFrom(longer)...)
	}
	return list
}

// sampleRows have each sample value once, in rows of each length.
func sampleRows() [][]impl.Value {
	list := [][]impl.Value{{}}
	values := sampleValues()
	for many := 1; many <= 4; many++ {
		for i := 0; i+many <= len(values); i += many {
			list = append(list, values[i:i+many])
		}
	}
	return list
}

// wrongRows are rows with one wrong value, at each of their places, and rows of too many values.
func wrongRows() [][]impl.Value {
	list := [][]impl.Value{}
	for _, wrong := range fewWrongValues() {
		for many := 1; many <= 4; many++ {
			for at := 0; at < many; at++ {
				row := []impl.Value{none(), num(3), text("a"), truth(1)}[:many]
				row[at] = wrong
				list = append(list, row)
			}
		}
	}
	for _, many := range []int{5, 6, 8, 255, 256, 257, 260} {
		list = append(list, make([]impl.Value, many))
	}
	return append(list,
		[]impl.Value{num(1), num(2), num(3), num(4), num(5)},
		[]impl.Value{none(), none(), none(), none(), {Kind: 4}},
	)
}

func sameRow(a []impl.Value, b []impl.Value) bool {
	if len(a) != len(b) {
		return false
	}
	for i := range a {
		if a[i] != b[i] {
			return false
		}
	}
	return true
}

func TestPromise7OneOrder(t *testing.T) {
	list := writtenRows()
	for i, a := range list {
		for j, b := range list {
			if got := impl.RowOrder(a.row, b.row); got != placeOrder(i, j) {
				t.Fatalf("order of %v and %v is %d, not %d", a.row, b.row, got, placeOrder(i, j))
			}
		}
	}
}

func TestPromise7AllRowsOfFewValues(t *testing.T) {
	list := orderedRows()
	for i, a := range list {
		for j, b := range list {
			if got := impl.RowOrder(a, b); got != placeOrder(i, j) {
				t.Fatalf("order of %v and %v is %d, not %d", a, b, got, placeOrder(i, j))
			}
		}
	}
}

func TestPromise7OrderOfTheirValues(t *testing.T) {
	list := writtenValues()
	for i, a := range list {
		for j, b := range list {
			for _, front := range [][]impl.Value{{}, {none()}, {num(7), text("q")}, {truth(1), none(), text("")}} {
				there := append(append([]impl.Value{}, front...), a.v)
				other := append(append([]impl.Value{}, front...), b.v)
				if got := impl.RowOrder(there, other); got != placeOrder(i, j) {
					t.Fatalf("order of %v and %v is %d", there, other, got)
				}
			}
		}
	}
}

func TestPromise7BeginningsComeAhead(t *testing.T) {
	for _, row := range append(orderedRows(), sampleRows()...) {
		for n := 0; n <= len(row); n++ {
			want := -1
			if n == len(row) {
				want = 0
			}
			there, back := impl.RowOrder(row[:n], row), impl.RowOrder(row, row[:n])
			if there != want || back != -want {
				t.Fatalf("order of the first %d of %v and all is %d, turned %d", n, row, there, back)
			}
		}
	}
}

func TestPromise7NilIsTheEmptyRow(t *testing.T) {
	if impl.RowOrder(nil, []impl.Value{}) != 0 || impl.RowOrder(nil, nil) != 0 {
		t.Fatal("a row without values is not like another one")
	}
	if impl.RowOrder(nil, []impl.Value{none()}) != -1 || impl.RowOrder([]impl.Value{none()}, nil) != 1 {
		t.Fatal("a row without values does not come ahead of nothing")
	}
}

// A wrong value counts even behind the first two values that are not the same.
func TestPromise7OthersHaveNoOrder(t *testing.T) {
	for _, wrong := range wrongRows() {
		for _, w := range writtenRows() {
			if impl.RowOrder(wrong, w.row) != 0 || impl.RowOrder(w.row, wrong) != 0 {
				t.Fatalf("%v has an order beside %v", wrong, w.row)
			}
		}
		for n := range wrong {
			if impl.RowOrder(wrong, wrong[:n]) != 0 || impl.RowOrder(wrong[:n], wrong) != 0 {
				t.Fatalf("%v has an order beside its first %d", wrong, n)
			}
		}
	}
	wrong := wrongRows()
	for i := 1; i < len(wrong); i++ {
		if impl.RowOrder(wrong[i-1], wrong[i]) != 0 || impl.RowOrder(wrong[i], wrong[i-1]) != 0 {
			t.Fatalf("%v and %v have an order", wrong[i-1], wrong[i])
		}
	}
}

func TestPromise8BytesAsWritten(t *testing.T) {
	for _, w := range writtenRows() {
		if got := impl.RowBytes(w.row); !bytes.Equal(got, w.b) {
			t.Fatalf("bytes of %v are %v, not %v", w.row, got, w.b)
		}
		if row, n := impl.RowFrom(w.b); n != len(w.b) || !sameRow(row, w.row) {
			t.Fatalf("%v are read as %v, %d", w.b, row, n)
		}
	}
	if got := impl.RowBytes(nil); !bytes.Equal(got, []byte{0}) {
		t.Fatalf("bytes of the row without values are %v", got)
	}
}

func TestPromise8BytesReadBack(t *testing.T) {
	behind := [][]byte{{}, {0}, {97}, {4}, {1, 39, 16}, {2, 1, 97}, {1, 1, 39, 16}, {255, 255, 255, 255, 255, 255, 255, 255}, make([]byte, 300)}
	for _, row := range append(orderedRows(), sampleRows()...) {
		b := impl.RowBytes(row)
		for _, more := range behind {
			long := append(append([]byte{}, b...), more...)
			if back, n := impl.RowFrom(long); n != len(b) || !sameRow(back, row) {
				t.Fatalf("%v with %v behind it is read as %v, %d", row, more, back, n)
			}
		}
	}
}

func TestPromise8RowsOneBehindTheOther(t *testing.T) {
	all := []byte{}
	for _, row := range orderedRows() {
		all = append(all, impl.RowBytes(row)...)
	}
	for _, row := range orderedRows() {
		back, n := impl.RowFrom(all)
		if n == 0 || !sameRow(back, row) {
			t.Fatalf("%v is read as %v, %d", row, back, n)
		}
		all = all[n:]
	}
	if len(all) != 0 {
		t.Fatalf("%v are left", all)
	}
}

func TestPromise8NewMemory(t *testing.T) {
	for _, w := range writtenRows() {
		given := append([]impl.Value{}, w.row...)
		first := impl.RowBytes(given)
		for i := range first {
			first[i] = 200
		}
		if !sameRow(given, w.row) || !bytes.Equal(impl.RowBytes(given), w.b) {
			t.Fatalf("bytes of %v are kept between calls, or the row is written", w.row)
		}
	}
}

func TestPromise8RowsHangOnNothing(t *testing.T) {
	for _, w := range writtenRows() {
		given := append([]byte{}, w.b...)
		row, _ := impl.RowFrom(given)
		other, _ := impl.RowFrom(given)
		if !bytes.Equal(given, w.b) {
			t.Fatalf("reading turned %v into %v", w.b, given)
		}
		for i := range given {
			given[i] = 200
		}
		if !sameRow(row, w.row) {
			t.Fatalf("%v hangs on the bytes that it was read from", row)
		}
		for i := range row {
			row[i] = num(77)
		}
		if !sameRow(other, w.row) {
			t.Fatalf("%v hangs on another answer", other)
		}
	}
}

// What asks of rows may not write into the room behind them, either.
func TestRowsAreNotWritten(t *testing.T) {
	for _, w := range writtenRows() {
		room := append(append([]impl.Value{}, w.row...), num(41), num(42))
		columns := make([]impl.Column, len(w.row), len(w.row)+2)
		for i := range columns {
			columns[i] = impl.Column{Kind: impl.KindText, Empty: true}
		}
		row := room[:len(w.row)]
		impl.RowOk(row)
		impl.RowFits(columns, row)
		impl.RowOrder(row, row)
		impl.RowBytes(row)
		if !sameRow(row, w.row) || room[len(row)] != num(41) || room[len(row)+1] != num(42) {
			t.Fatalf("%v became %v", w.row, room)
		}
		for _, c := range columns {
			if c != (impl.Column{Kind: impl.KindText, Empty: true}) {
				t.Fatalf("columns became %v", columns)
			}
		}
	}
}

// allColumns are all lists of at most four columns.
func allColumns() [][]impl.Column {
	return columnsFrom([]impl.Column{})
}

func columnsFrom(front []impl.Column) [][]impl.Column {
	list := [][]impl.Column{front}
	if len(front) == 4 {
		return list
	}
	for kind := 1; kind <= 3; kind++ {
		for _, empty := range []bool{false, true} {
			longer := append(append([]impl.Column{}, front...), impl.Column{Kind: kind, Empty: empty})
			list = append(list, columnsFrom(longer)...)
		}
	}
	return list
}

func wrongKinds() []int {
	return []int{math.MinInt, -256, -3, -2, -1, 0, 4, 5, 6, 255, 256, 257, 258, 259, math.MaxInt}
}

// wrongColumns are columns with one wrong kind, at each of their places, and too many columns.
func wrongColumns() [][]impl.Column {
	list := [][]impl.Column{}
	for _, kind := range wrongKinds() {
		for many := 1; many <= 4; many++ {
			for at := 0; at < many; at++ {
				columns := []impl.Column{{Kind: 1}, {Kind: 2, Empty: true}, {Kind: 3}, {Kind: 1, Empty: true}}[:many]
				columns[at] = impl.Column{Kind: kind, Empty: at%2 == 0}
				list = append(list, columns)
			}
		}
	}
	for _, many := range []int{5, 6, 8, 255, 256, 257, 260} {
		columns := make([]impl.Column, many)
		for i := range columns {
			columns[i] = impl.Column{Kind: 1 + i%3, Empty: true}
		}
		list = append(list, columns)
	}
	return list
}

func TestPromise154ColumnsAsWritten(t *testing.T) {
	if impl.MaxColumns != 4 {
		t.Fatal("the number of columns is another one")
	}
	for _, kind := range []int{1, 2, 3} {
		if !impl.ColumnsOk([]impl.Column{{Kind: kind}}) || !impl.ColumnsOk([]impl.Column{{Kind: kind, Empty: true}}) {
			t.Fatalf("a column of the kind %d is one", kind)
		}
	}
	for _, kind := range wrongKinds() {
		if impl.ColumnsOk([]impl.Column{{Kind: kind}}) || impl.ColumnsOk([]impl.Column{{Kind: kind, Empty: true}}) {
			t.Fatalf("a column of the kind %d is none", kind)
		}
	}
	for _, columns := range wrongColumns() {
		if impl.ColumnsOk(columns) {
			t.Fatalf("%v are no columns", columns)
		}
	}
}

func TestPromise154FewerColumns(t *testing.T) {
	if !impl.ColumnsOk(nil) || !impl.ColumnsOk([]impl.Column{}) {
		t.Fatal("no columns are columns, too")
	}
	for _, columns := range allColumns() {
		for n := 0; n <= len(columns); n++ {
			if !impl.ColumnsOk(columns[:n]) {
				t.Fatalf("the first %d of %v are columns", n, columns)
			}
		}
	}
}

// A beginning can only be right up to the first wrong kind, and up to the greatest number of columns.
func TestPromise154BeginningsOfOthers(t *testing.T) {
	for _, columns := range wrongColumns() {
		held := true
		for n := 0; n <= len(columns); n++ {
			holds := impl.ColumnsOk(columns[:n])
			if holds && !held {
				t.Fatalf("the first %d of %v are columns, but not one less", n, columns)
			}
			held = holds
		}
	}
}

func TestPromise155RowsHaveBytes(t *testing.T) {
	for _, row := range append(orderedRows(), sampleRows()...) {
		if !impl.RowOk(row) || len(impl.RowBytes(row)) == 0 {
			t.Fatalf("%v is a row: %v, and has bytes: %v", row, impl.RowOk(row), impl.RowBytes(row))
		}
	}
	for _, row := range wrongRows() {
		if b := impl.RowBytes(row); impl.RowOk(row) || len(b) != 0 {
			t.Fatalf("%v is a row: %v, and has bytes: %v", row, impl.RowOk(row), b)
		}
	}
	if !impl.RowOk(nil) || !impl.RowOk([]impl.Value{}) || len(impl.RowBytes(nil)) != 1 {
		t.Fatal("a row without values is a row, and has a byte")
	}
}

func TestPromise155EachWrongValue(t *testing.T) {
	for _, wrong := range wrongValues() {
		for at := 0; at < 4; at++ {
			row := []impl.Value{num(1), text("b"), none(), truth(0)}
			row[at] = wrong
			if impl.RowOk(row) || len(impl.RowBytes(row)) != 0 {
				t.Fatalf("%v is no row, and has no bytes", row)
			}
		}
	}
}

// wantFits asks of columns and a row that are ok.
func wantFits(columns []impl.Column, row []impl.Value) bool {
	if len(columns) != len(row) {
		return false
	}
	for i, c := range columns {
		switch row[i].Kind {
		case 0:
			if !c.Empty {
				return false
			}
		default:
			if row[i].Kind != c.Kind {
				return false
			}
		}
	}
	return true
}

func TestPromise156WhatFits(t *testing.T) {
	rows := orderedRows()
	for _, columns := range allColumns() {
		for _, row := range rows {
			fits := impl.RowFits(columns, row)
			if fits != wantFits(columns, row) {
				t.Fatalf("%v fits %v: %v", row, columns, fits)
			}
			if fits && (!impl.RowOk(row) || len(row) != len(columns)) {
				t.Fatalf("%v fits %v, but is no row of as many values", row, columns)
			}
		}
	}
}

func TestPromise156AsWritten(t *testing.T) {
	columns := []impl.Column{{Kind: impl.KindNum}, {Kind: impl.KindText, Empty: true}, {Kind: impl.KindTruth}}
	fits := [][]impl.Value{
		{num(0), text(""), truth(0)},
		{num(-9999), none(), truth(1)},
		{num(9999), text("zzzzzz"), truth(1)},
	}
	others := [][]impl.Value{
		{},
		{num(1)},
		{num(1), text("a")},
		{num(1), text("a"), truth(1), none()},
		{num(1), text("a"), truth(1), num(1)},
		{none(), text("a"), truth(1)},
		{num(1), text("a"), none()},
		{none(), none(), none()},
		{text("a"), num(1), truth(1)},
		{num(1), truth(1), truth(1)},
		{truth(1), text("a"), truth(1)},
		{num(1), text("a"), num(1)},
		{num(10000), text("a"), truth(1)},
		{num(1), text("A"), truth(1)},
		{num(1), text("a"), truth(2)},
	}
	for _, row := range fits {
		if !impl.RowFits(columns, row) {
			t.Fatalf("%v fits", row)
		}
	}
	for _, row := range others {
		if impl.RowFits(columns, row) {
			t.Fatalf("%v does not fit", row)
		}
	}
}

func TestPromise156NoColumns(t *testing.T) {
	if !impl.RowFits(nil, nil) || !impl.RowFits([]impl.Column{}, []impl.Value{}) || !impl.RowFits(nil, []impl.Value{}) {
		t.Fatal("a row without values fits no columns")
	}
	if impl.RowFits(nil, []impl.Value{none()}) || impl.RowFits([]impl.Column{{Kind: 1, Empty: true}}, nil) {
		t.Fatal("a row fits only as many columns as it has values")
	}
}

func TestPromise156RowWithoutAnyValue(t *testing.T) {
	for _, columns := range allColumns() {
		all := true
		for _, c := range columns {
			all = all && c.Empty
		}
		if impl.RowFits(columns, make([]impl.Value, len(columns))) != all {
			t.Fatalf("a row without any value fits %v: %v", columns, !all)
		}
	}
}

func TestPromise156OthersDoNotFit(t *testing.T) {
	for _, columns := range wrongColumns() {
		row := make([]impl.Value, len(columns))
		if impl.RowFits(columns, row) {
			t.Fatalf("a row without any value fits %v", columns)
		}
		for i, c := range columns {
			row[i].Kind = c.Kind
		}
		if impl.RowFits(columns, row) {
			t.Fatalf("%v fits %v", row, columns)
		}
	}
	for _, row := range wrongRows() {
		columns := make([]impl.Column, len(row))
		for i, v := range row {
			columns[i] = impl.Column{Kind: v.Kind, Empty: true}
			if v.Kind < 1 || v.Kind > 3 {
				columns[i].Kind = 1
			}
		}
		if impl.RowFits(columns, row) {
			t.Fatalf("%v fits %v", row, columns)
		}
	}
}

// wantRowTaken tells how many bytes at the front are those of a row, by the document's numbers alone.
func wantRowTaken(b []byte) int {
	if len(b) == 0 || b[0] > 4 {
		return 0
	}
	end := 1
	for many := int(b[0]); many > 0; many-- {
		n := wantTaken(b[end:])
		if n == 0 {
			return 0
		}
		end += n
	}
	return end
}

// checkRowTaken asks that what is read are the bytes of a row, that a byte less are none, and that what is not read begins with no bytes of a row.
func checkRowTaken(t *testing.T, b []byte) {
	t.Helper()
	row, n := impl.RowFrom(b)
	if n != wantRowTaken(b) {
		t.Fatalf("%v: %d bytes are taken, not %d", b, n, wantRowTaken(b))
	}
	if n == 0 {
		if len(row) != 0 {
			t.Fatalf("%v are none, but give %v", b, row)
		}
		return
	}
	if !impl.RowOk(row) || !bytes.Equal(impl.RowBytes(row), b[:n]) {
		t.Fatalf("%v are read as %v, whose bytes are %v", b, row, impl.RowBytes(row))
	}
	if less, m := impl.RowFrom(b[:n-1]); m != 0 || len(less) != 0 {
		t.Fatalf("%v without the last byte are read as %v, %d", b[:n], less, m)
	}
}

func TestPromise157ShortBytes(t *testing.T) {
	checkRowTaken(t, nil)
	signs := []byte{0, 1, 2, 3, 4, 5, 78, 97, 255}
	level := [][]byte{{}}
	for length := 0; length <= 5; length++ {
		longer := [][]byte{}
		for _, b := range level {
			checkRowTaken(t, b)
			for _, c := range signs {
				longer = append(longer, append(append([]byte{}, b...), c))
			}
		}
		level = longer
	}
}

func TestPromise157EachCount(t *testing.T) {
	for many := 0; many < 256; many++ {
		for there := 0; there <= 6; there++ {
			checkRowTaken(t, append([]byte{byte(many)}, make([]byte, there)...))
		}
		checkRowTaken(t, append([]byte{byte(many)}, make([]byte, 300)...))
		checkRowTaken(t, append([]byte{byte(many)}, bytes.Repeat([]byte{3, 1}, 300)...))
	}
}

func TestPromise157TurnedBytes(t *testing.T) {
	for _, w := range writtenRows() {
		for at := range w.b {
			for i := 0; i < 256; i++ {
				b := append(append([]byte{}, w.b...), 97, 0)
				b[at] = byte(i)
				checkRowTaken(t, b)
				checkRowTaken(t, b[:len(w.b)])
			}
		}
	}
}

func TestPromise157ByteLess(t *testing.T) {
	for _, row := range append(orderedRows(), sampleRows()...) {
		b := impl.RowBytes(row)
		for n := 0; n <= len(b); n++ {
			checkRowTaken(t, b[:n])
		}
	}
}
