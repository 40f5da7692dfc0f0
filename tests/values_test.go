package tests

import (
	"bytes"
	"math"
	"regexp"
	"strconv"
	"testing"

	"loop.example/tablehouse/impl"
)

// writtenValue is a value with the text and the bytes that the document gives it, written by hand.
type writtenValue struct {
	v impl.Value
	s string
	b []byte
}

func none() impl.Value {
	return impl.Value{}
}

func num(n int) impl.Value {
	return impl.Value{Kind: impl.KindNum, N: n}
}

func text(s string) impl.Value {
	return impl.Value{Kind: impl.KindText, S: s}
}

func truth(n int) impl.Value {
	return impl.Value{Kind: impl.KindTruth, N: n}
}

// writtenValues stand in ascending order.
func writtenValues() []writtenValue {
	return []writtenValue{
		{none(), "none", []byte{0}},
		{num(-9999), "-9999", []byte{1, 0, 1}},
		{num(-9998), "-9998", []byte{1, 0, 2}},
		{num(-9745), "-9745", []byte{1, 0, 255}},
		{num(-9744), "-9744", []byte{1, 1, 0}},
		{num(-1000), "-1000", []byte{1, 35, 40}},
		{num(-999), "-999", []byte{1, 35, 41}},
		{num(-100), "-100", []byte{1, 38, 172}},
		{num(-10), "-10", []byte{1, 39, 6}},
		{num(-9), "-9", []byte{1, 39, 7}},
		{num(-1), "-1", []byte{1, 39, 15}},
		{num(0), "0", []byte{1, 39, 16}},
		{num(1), "1", []byte{1, 39, 17}},
		{num(9), "9", []byte{1, 39, 25}},
		{num(10), "10", []byte{1, 39, 26}},
		{num(255), "255", []byte{1, 40, 15}},
		{num(256), "256", []byte{1, 40, 16}},
		{num(1000), "1000", []byte{1, 42, 248}},
		{num(9998), "9998", []byte{1, 78, 30}},
		{num(9999), "9999", []byte{1, 78, 31}},
		{text(""), "''", []byte{2, 0}},
		{text("a"), "'a'", []byte{2, 1, 97}},
		{text("aa"), "'aa'", []byte{2, 2, 97, 97}},
		{text("aaaaaa"), "'aaaaaa'", []byte{2, 6, 97, 97, 97, 97, 97, 97}},
		{text("ab"), "'ab'", []byte{2, 2, 97, 98}},
		{text("b"), "'b'", []byte{2, 1, 98}},
		{text("false"), "'false'", []byte{2, 5, 102, 97, 108, 115, 101}},
		{text("none"), "'none'", []byte{2, 4, 110, 111, 110, 101}},
		{text("true"), "'true'", []byte{2, 4, 116, 114, 117, 101}},
		{text("z"), "'z'", []byte{2, 1, 122}},
		{text("zzzzzz"), "'zzzzzz'", []byte{2, 6, 122, 122, 122, 122, 122, 122}},
		{truth(0), "false", []byte{3, 0}},
		{truth(1), "true", []byte{3, 1}},
	}
}

func wrongValues() []impl.Value {
	list := []impl.Value{
		{Kind: impl.KindNone, N: 1},
		{Kind: impl.KindNone, N: -1},
		{Kind: impl.KindNone, S: "a"},
		{Kind: impl.KindNone, S: "none"},
		{Kind: impl.KindNum, N: 10000},
		{Kind: impl.KindNum, N: -10000},
		{Kind: impl.KindNum, N: math.MaxInt},
		{Kind: impl.KindNum, N: math.MinInt},
		{Kind: impl.KindNum, N: 1, S: "a"},
		{Kind: impl.KindNum, S: "0"},
		{Kind: impl.KindText, N: 1},
		{Kind: impl.KindText, N: -1, S: "a"},
		{Kind: impl.KindText, S: "aaaaaaa"},
		{Kind: impl.KindText, S: "a b"},
		{Kind: impl.KindText, S: "'"},
		{Kind: impl.KindText, S: "'a'"},
		{Kind: impl.KindText, S: "é"},
		{Kind: impl.KindTruth, N: 2},
		{Kind: impl.KindTruth, N: -1},
		{Kind: impl.KindTruth, N: math.MaxInt},
		{Kind: impl.KindTruth, N: 1, S: "a"},
		{Kind: impl.KindTruth, S: "false"},
		{Kind: -1},
		{Kind: 4},
		{Kind: 256},
		{Kind: 257, N: 1},
		{Kind: math.MinInt},
		{Kind: math.MaxInt},
	}
	for i := 0; i < 256; i++ {
		if i >= 'a' && i <= 'z' {
			continue
		}
		sign := string([]byte{byte(i)})
		list = append(list, text(sign), text(sign+"bcdef"), text("ab"+sign+"ef"), text("abcde"+sign))
	}
	return list
}

func everyNumber() []impl.Value {
	list := []impl.Value{}
	for n := -9999; n <= 9999; n++ {
		list = append(list, num(n))
	}
	return list
}

// shortTexts are all texts of at most two letters, and some of each further length up to the greatest one.
func shortTexts() []impl.Value {
	list := []impl.Value{text("")}
	for a := 'a'; a <= 'z'; a++ {
		list = append(list, text(string(a)))
		for b := 'a'; b <= 'z'; b++ {
			pair := string(a) + string(b)
			list = append(list, text(pair), text(pair+"q"), text(pair+"xy"), text("mno"+pair), text(pair+"stuv"))
		}
	}
	return list
}

func sampleValues() []impl.Value {
	list := everyNumber()
	list = append(list, shortTexts()...)
	return append(list, none(), truth(0), truth(1))
}

func TestValueOk(t *testing.T) {
	for _, v := range sampleValues() {
		if !impl.ValueOk(v) {
			t.Fatalf("%+v is a value", v)
		}
	}
	for _, w := range writtenValues() {
		if !impl.ValueOk(w.v) {
			t.Fatalf("%+v is a value", w.v)
		}
	}
	for _, v := range wrongValues() {
		if impl.ValueOk(v) {
			t.Fatalf("%+v is no value", v)
		}
	}
}

// placeOrder tells the order of what stands at two places of an ascending list.
func placeOrder(i int, j int) int {
	if i < j {
		return -1
	}
	if i > j {
		return 1
	}
	return 0
}

func TestPromise1OneOrder(t *testing.T) {
	list := writtenValues()
	for i, a := range list {
		for j, b := range list {
			if got := impl.ValueOrder(a.v, b.v); got != placeOrder(i, j) {
				t.Fatalf("order of %s and %s is %d, not %d", a.s, b.s, got, placeOrder(i, j))
			}
		}
	}
}

func TestPromise1Turned(t *testing.T) {
	few := shortTexts()
	for n := -9999; n <= 9999; n += 101 {
		few = append(few, num(n))
	}
	few = append(few, none(), truth(0), truth(1))
	for _, a := range few {
		for _, b := range few {
			there, back := impl.ValueOrder(a, b), impl.ValueOrder(b, a)
			if there != -back || there < -1 || there > 1 || (there == 0) != (a == b) {
				t.Fatalf("order of %+v and %+v is %d, turned %d", a, b, there, back)
			}
		}
	}
}

func TestPromise1NothingFirst(t *testing.T) {
	for _, v := range sampleValues() {
		want := -1
		if v.Kind == impl.KindNone {
			want = 0
		}
		if got := impl.ValueOrder(none(), v); got != want {
			t.Fatalf("order of nothing and %+v is %d", v, got)
		}
	}
}

func TestPromise1NeighboursOfNumbers(t *testing.T) {
	list := everyNumber()
	for i := 1; i < len(list); i++ {
		if impl.ValueOrder(list[i-1], list[i]) != -1 || impl.ValueOrder(list[i], list[i-1]) != 1 {
			t.Fatalf("order of %d and the number ahead of it", list[i].N)
		}
	}
}

func TestPromise1OthersHaveNoOrder(t *testing.T) {
	for _, wrong := range wrongValues() {
		for _, w := range writtenValues() {
			if impl.ValueOrder(wrong, w.v) != 0 || impl.ValueOrder(w.v, wrong) != 0 {
				t.Fatalf("%+v has an order beside %s", wrong, w.s)
			}
		}
	}
	wrong := wrongValues()
	for i := 1; i < len(wrong); i++ {
		if impl.ValueOrder(wrong[i-1], wrong[i]) != 0 || impl.ValueOrder(wrong[i], wrong[i-1]) != 0 {
			t.Fatalf("%+v and %+v have an order", wrong[i-1], wrong[i])
		}
	}
}

func TestPromise2TextsAsWritten(t *testing.T) {
	for _, w := range writtenValues() {
		if got := impl.ValueText(w.v); got != w.s {
			t.Fatalf("text of %+v is %q, not %q", w.v, got, w.s)
		}
		if v, ok := impl.ValueRead(w.s); !ok || v != w.v {
			t.Fatalf("%q is read as %+v, %v", w.s, v, ok)
		}
	}
}

func TestPromise2TextsReadBack(t *testing.T) {
	for _, v := range sampleValues() {
		s := impl.ValueText(v)
		if back, ok := impl.ValueRead(s); !ok || back != v {
			t.Fatalf("%+v has the text %q, read as %+v, %v", v, s, back, ok)
		}
	}
	for n := -9999; n <= 9999; n++ {
		if s := impl.ValueText(num(n)); s != strconv.Itoa(n) {
			t.Fatalf("text of %d is %q", n, s)
		}
	}
}

func TestPromise3BytesAsWritten(t *testing.T) {
	for _, w := range writtenValues() {
		if got := impl.ValueBytes(w.v); !bytes.Equal(got, w.b) {
			t.Fatalf("bytes of %s are %v, not %v", w.s, got, w.b)
		}
		if v, n := impl.ValueFrom(w.b); n != len(w.b) || v != w.v {
			t.Fatalf("%v are read as %+v, %d", w.b, v, n)
		}
	}
}

func TestPromise3BytesReadBack(t *testing.T) {
	behind := [][]byte{{}, {0}, {97}, {1, 39, 16}, {2, 1, 97}, {255, 255, 255, 255, 255, 255, 255, 255}, make([]byte, 300)}
	for _, v := range sampleValues() {
		b := impl.ValueBytes(v)
		for _, more := range behind {
			long := append(append([]byte{}, b...), more...)
			if back, n := impl.ValueFrom(long); n != len(b) || back != v {
				t.Fatalf("%+v with %v behind it is read as %+v, %d", v, more, back, n)
			}
		}
	}
}

func TestPromise3NewMemory(t *testing.T) {
	for _, w := range writtenValues() {
		first := impl.ValueBytes(w.v)
		for i := range first {
			first[i] = 200
		}
		if !bytes.Equal(impl.ValueBytes(w.v), w.b) {
			t.Fatalf("bytes of %s are kept between calls", w.s)
		}
		given := append([]byte{}, w.b...)
		v, _ := impl.ValueFrom(given)
		if !bytes.Equal(given, w.b) {
			t.Fatalf("reading turned %v into %v", w.b, given)
		}
		for i := range given {
			given[i] = 200
		}
		if v != w.v {
			t.Fatalf("%+v hangs on the bytes that it was read from", v)
		}
	}
}

func TestPromise147ValuesHaveTexts(t *testing.T) {
	list := append(sampleValues(), wrongValues()...)
	for _, v := range list {
		ok, s, b := impl.ValueOk(v), impl.ValueText(v), impl.ValueBytes(v)
		if ok != (s != "") || ok != (len(b) > 0) {
			t.Fatalf("%+v: ok is %v, its text %q, its bytes %v", v, ok, s, b)
		}
	}
	for _, v := range wrongValues() {
		if s := impl.ValueText(v); s != "" {
			t.Fatalf("%+v has the text %q", v, s)
		}
		if b := impl.ValueBytes(v); len(b) != 0 {
			t.Fatalf("%+v has the bytes %v", v, b)
		}
	}
}

// checkRead compares ValueRead with a pattern of all texts that values have.
func checkRead(t *testing.T, pattern *regexp.Regexp, s string) {
	t.Helper()
	v, ok := impl.ValueRead(s)
	if ok != pattern.MatchString(s) {
		t.Fatalf("%q is read: %v", s, ok)
	}
	if ok && (!impl.ValueOk(v) || impl.ValueText(v) != s) {
		t.Fatalf("%q is read as %+v, whose text is %q", s, v, impl.ValueText(v))
	}
	if !ok && v != (impl.Value{}) {
		t.Fatalf("%q is no text, but gives %+v", s, v)
	}
}

func textPattern() *regexp.Regexp {
	return regexp.MustCompile(`\A(none|true|false|'[a-z]{0,6}'|0|-?[1-9][0-9]{0,3})\z`)
}

func TestPromise148OneTextEach(t *testing.T) {
	pattern := textPattern()
	signs := []byte("-019'azA ")
	level := []string{""}
	for length := 0; length <= 5; length++ {
		longer := []string{}
		for _, s := range level {
			checkRead(t, pattern, s)
			for _, c := range signs {
				longer = append(longer, s+string([]byte{c}))
			}
		}
		level = longer
	}
}

func TestPromise148TurnedTexts(t *testing.T) {
	pattern := textPattern()
	for _, w := range writtenValues() {
		for at := 0; at <= len(w.s); at++ {
			checkRead(t, pattern, w.s[:at])
			checkRead(t, pattern, w.s[at:])
			for i := 0; i < 256; i++ {
				sign := string([]byte{byte(i)})
				checkRead(t, pattern, w.s[:at]+sign+w.s[at:])
				if at < len(w.s) {
					checkRead(t, pattern, w.s[:at]+sign+w.s[at+1:])
				}
			}
		}
	}
}

func TestPromise148OtherTexts(t *testing.T) {
	list := []string{
		"", "-", "--1", "-0", "00", "01", "-01", "0001", "+1", "1.0", "1e3", "0x1", "1_0", " 1", "1 ",
		"10000", "-10000", "99999", "65537", "4294967297", "18446744073709551617", "-18446744073709551615", "9223372036854775808",
		"1000000000000000000000000000000000000000", "0000000000000000000000000000000000000001",
		"None", "NONE", "nothing", "none ", "nonee", "'none", "True", "TRUE", "FALSE", "truefalse", "t", "null",
		"'", "''a", "a''", "'''", "''''", "'a", "a'", "abc", "\"a\"", "'A'", "'a b'", "'a'b'", "'1'", "'é'", "'abcdefg'", "''\x00", "-'a'", "`a`",
	}
	for _, s := range list {
		if v, ok := impl.ValueRead(s); ok || v != (impl.Value{}) {
			t.Fatalf("%q is read as %+v, %v", s, v, ok)
		}
	}
}

// checkTaken asks that what is read are the bytes of a value, that a byte less are none, and that what is not read begins with no bytes of a value.
func checkTaken(t *testing.T, b []byte) {
	t.Helper()
	v, n := impl.ValueFrom(b)
	if n != wantTaken(b) {
		t.Fatalf("%v: %d bytes are taken, not %d", b, n, wantTaken(b))
	}
	if n == 0 {
		if v != (impl.Value{}) {
			t.Fatalf("%v are none, but give %+v", b, v)
		}
		return
	}
	if !impl.ValueOk(v) || !bytes.Equal(impl.ValueBytes(v), b[:n]) {
		t.Fatalf("%v are read as %+v, whose bytes are %v", b, v, impl.ValueBytes(v))
	}
	if less, m := impl.ValueFrom(b[:n-1]); m != 0 || less != (impl.Value{}) {
		t.Fatalf("%v without the last byte are read as %+v, %d", b[:n], less, m)
	}
}

// wantTaken tells how many bytes at the front are those of a value, by the document's numbers alone.
func wantTaken(b []byte) int {
	if len(b) == 0 {
		return 0
	}
	switch {
	case b[0] == 0:
		return 1
	case b[0] == 1 && len(b) >= 3:
		n := uint(b[1])<<8 | uint(b[2])
		if n >= 1 && n <= 19999 {
			return 3
		}
	case b[0] == 2 && len(b) >= 2 && b[1] <= 6 && len(b) >= 2+int(b[1]):
		if len(bytes.Trim(b[2:2+int(b[1])], "abcdefghijklmnopqrstuvwxyz")) == 0 {
			return 2 + int(b[1])
		}
	case b[0] == 3 && len(b) >= 2 && b[1] <= 1:
		return 2
	}
	return 0
}

func TestPromise149ShortBytes(t *testing.T) {
	checkTaken(t, nil)
	for a := 0; a < 256; a++ {
		checkTaken(t, []byte{byte(a)})
		for b := 0; b < 256; b++ {
			checkTaken(t, []byte{byte(a), byte(b)})
			checkTaken(t, []byte{byte(a), byte(b), 'a'})
		}
	}
	for b := 0; b < 256; b++ {
		for c := 0; c < 256; c++ {
			checkTaken(t, []byte{1, byte(b), byte(c)})
			checkTaken(t, []byte{2, byte(b), byte(c)})
			checkTaken(t, []byte{1, byte(b), byte(c), 7})
			checkTaken(t, []byte{2, 2, byte(b), byte(c)})
			checkTaken(t, []byte{2, 2, byte(b), byte(c), 'z'})
		}
	}
}

func TestPromise149Texts(t *testing.T) {
	letters := []byte("abcdefghijklmnopqrstuvwxyz")
	for many := 0; many < 256; many++ {
		for there := 0; there <= 10; there++ {
			checkTaken(t, append([]byte{2, byte(many)}, letters[:there]...))
		}
		checkTaken(t, append([]byte{2, byte(many)}, bytes.Repeat([]byte{'q'}, 300)...))
	}
	for at := 0; at < 6; at++ {
		for i := 0; i < 256; i++ {
			b := []byte{2, 6, 'a', 'z', 'a', 'z', 'a', 'z', 'a'}
			b[2+at] = byte(i)
			checkTaken(t, b)
		}
	}
}

func TestPromise149ByteLess(t *testing.T) {
	for _, v := range sampleValues() {
		b := impl.ValueBytes(v)
		for n := 0; n <= len(b); n++ {
			checkTaken(t, b[:n])
		}
	}
}
