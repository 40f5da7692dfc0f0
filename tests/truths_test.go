package tests

import (
	"math"
	"testing"

	"loop.example/tablehouse/impl"
)

func truths() []int {
	return []int{impl.No, impl.Yes, impl.Maybe}
}

func noTruths() []int {
	return []int{math.MinInt, -256, -3, -2, -1, 3, 4, 5, 255, 256, 257, 258, math.MaxInt}
}

func truthsAndOthers() []int {
	return append(truths(), noTruths()...)
}

func comparisons() []int {
	return []int{impl.CmpSame, impl.CmpOther, impl.CmpLess, impl.CmpMost}
}

func noComparisons() []int {
	return []int{math.MinInt, -4, -1, 0, 5, 6, 8, 256, 257, 260, math.MaxInt}
}

// fewWrongValues are the front of wrongValues: all ways to be wrong, without each byte that is no letter.
func fewWrongValues() []impl.Value {
	return wrongValues()[:40]
}

func TestTruthsAsWritten(t *testing.T) {
	const no, yes, maybe = 0, 1, 2
	if impl.No != no || impl.Yes != yes || impl.Maybe != maybe {
		t.Fatal("the numbers of truths are others")
	}
	both := [3][3]int{{no, no, no}, {no, yes, maybe}, {no, maybe, maybe}}
	either := [3][3]int{{no, yes, maybe}, {yes, yes, yes}, {maybe, yes, maybe}}
	not := [3]int{yes, no, maybe}
	for a := range not {
		if got := impl.NotOf(a); got != not[a] {
			t.Fatalf("not %d is %d", a, got)
		}
		for b := range not {
			if got := impl.AndOf(a, b); got != both[a][b] {
				t.Fatalf("%d and %d is %d", a, b, got)
			}
			if got := impl.OrOf(a, b); got != either[a][b] {
				t.Fatalf("%d or %d is %d", a, b, got)
			}
		}
	}
}

func TestTruthsOfOthers(t *testing.T) {
	for _, wrong := range noTruths() {
		if got := impl.NotOf(wrong); got != -1 {
			t.Fatalf("not %d is %d", wrong, got)
		}
		for _, b := range truthsAndOthers() {
			if impl.AndOf(wrong, b) != -1 || impl.AndOf(b, wrong) != -1 {
				t.Fatalf("%d and %d is something", wrong, b)
			}
			if impl.OrOf(wrong, b) != -1 || impl.OrOf(b, wrong) != -1 {
				t.Fatalf("%d or %d is something", wrong, b)
			}
		}
	}
}

func TestPromise4AnyOrder(t *testing.T) {
	for _, a := range truthsAndOthers() {
		for _, b := range truthsAndOthers() {
			if impl.AndOf(a, b) != impl.AndOf(b, a) || impl.OrOf(a, b) != impl.OrOf(b, a) {
				t.Fatalf("%d and %d are not the same turned round", a, b)
			}
		}
	}
}

func TestPromise4TurnedByNot(t *testing.T) {
	for _, a := range truthsAndOthers() {
		for _, b := range truthsAndOthers() {
			if impl.AndOf(a, b) != impl.NotOf(impl.OrOf(impl.NotOf(a), impl.NotOf(b))) {
				t.Fatalf("%d and %d is not either of both, turned by not", a, b)
			}
			if impl.OrOf(a, b) != impl.NotOf(impl.AndOf(impl.NotOf(a), impl.NotOf(b))) {
				t.Fatalf("%d or %d is not both of them, turned by not", a, b)
			}
		}
	}
}

func TestPromise4AnyBracketsAndSpread(t *testing.T) {
	for _, a := range truthsAndOthers() {
		for _, b := range truthsAndOthers() {
			for _, c := range truthsAndOthers() {
				if impl.AndOf(impl.AndOf(a, b), c) != impl.AndOf(a, impl.AndOf(b, c)) {
					t.Fatalf("both of %d, %d and %d hang on the brackets", a, b, c)
				}
				if impl.OrOf(impl.OrOf(a, b), c) != impl.OrOf(a, impl.OrOf(b, c)) {
					t.Fatalf("either of %d, %d and %d hangs on the brackets", a, b, c)
				}
				if impl.OrOf(a, impl.AndOf(b, c)) != impl.AndOf(impl.OrOf(a, b), impl.OrOf(a, c)) {
					t.Fatalf("%d or does not spread over %d and %d", a, b, c)
				}
				if impl.AndOf(a, impl.OrOf(b, c)) != impl.OrOf(impl.AndOf(a, b), impl.AndOf(a, c)) {
					t.Fatalf("%d and does not spread over %d or %d", a, b, c)
				}
			}
		}
	}
}

func TestPromise5SurelySoStaysSo(t *testing.T) {
	for _, other := range truths() {
		for _, known := range []int{impl.No, impl.Yes} {
			if both := impl.AndOf(impl.Maybe, other); both != impl.Maybe && both != impl.AndOf(known, other) {
				t.Fatalf("maybe and %d is %d, with %d in its place %d", other, both, known, impl.AndOf(known, other))
			}
			if both := impl.AndOf(other, impl.Maybe); both != impl.Maybe && both != impl.AndOf(other, known) {
				t.Fatalf("%d and maybe is %d, with %d in its place %d", other, both, known, impl.AndOf(other, known))
			}
			if either := impl.OrOf(impl.Maybe, other); either != impl.Maybe && either != impl.OrOf(known, other) {
				t.Fatalf("maybe or %d is %d, with %d in its place %d", other, either, known, impl.OrOf(known, other))
			}
			if either := impl.OrOf(other, impl.Maybe); either != impl.Maybe && either != impl.OrOf(other, known) {
				t.Fatalf("%d or maybe is %d, with %d in its place %d", other, either, known, impl.OrOf(other, known))
			}
		}
	}
}

// What hangs on the unknown truth must be unknown; otherwise answering Maybe to all would keep the promise.
func TestPromise5KnownJustIfSure(t *testing.T) {
	for _, other := range []int{impl.No, impl.Yes} {
		sure := impl.AndOf(impl.No, other) == impl.AndOf(impl.Yes, other)
		if sure != (impl.AndOf(impl.Maybe, other) != impl.Maybe) || sure != (impl.AndOf(other, impl.Maybe) != impl.Maybe) {
			t.Fatalf("maybe and %d is told where it is not known, or the other way round", other)
		}
		sure = impl.OrOf(impl.No, other) == impl.OrOf(impl.Yes, other)
		if sure != (impl.OrOf(impl.Maybe, other) != impl.Maybe) || sure != (impl.OrOf(other, impl.Maybe) != impl.Maybe) {
			t.Fatalf("maybe or %d is told where it is not known, or the other way round", other)
		}
	}
}

func truthOfBool(holds bool) int {
	if holds {
		return 1
	}
	return 0
}

// wantCompare tells a comparison of the values with these places in writtenValues.
func wantCompare(kind int, i int, j int) int {
	list := writtenValues()
	a, b := list[i].v, list[j].v
	if a.Kind == impl.KindNone || b.Kind == impl.KindNone {
		return impl.Maybe
	}
	if a.Kind != b.Kind {
		return -1
	}
	switch kind {
	case impl.CmpSame:
		return truthOfBool(i == j)
	case impl.CmpOther:
		return truthOfBool(i != j)
	case impl.CmpLess:
		return truthOfBool(i < j)
	}
	return truthOfBool(i <= j)
}

func TestPromise6ComparedAsWritten(t *testing.T) {
	list := writtenValues()
	for i, a := range list {
		for j, b := range list {
			for _, kind := range comparisons() {
				want := wantCompare(kind, i, j)
				if got := impl.Compare(kind, a.v, b.v); got != want {
					t.Fatalf("comparison %d of %s and %s is %d, not %d", kind, a.s, b.s, got, want)
				}
			}
		}
	}
}

func TestPromise6NumbersOfComparisons(t *testing.T) {
	if impl.CmpSame != 1 || impl.CmpOther != 2 || impl.CmpLess != 3 || impl.CmpMost != 4 {
		t.Fatal("the numbers of comparisons are others")
	}
	for _, c := range []struct{ kind, a, b, want int }{
		{1, 3, 3, 1}, {1, 3, 5, 0}, {1, 5, 3, 0},
		{2, 3, 3, 0}, {2, 3, 5, 1}, {2, 5, 3, 1},
		{3, 3, 3, 0}, {3, 3, 5, 1}, {3, 5, 3, 0},
		{4, 3, 3, 1}, {4, 3, 5, 1}, {4, 5, 3, 0},
		{3, -9999, 9999, 1}, {4, 9999, -9999, 0}, {3, -1, 0, 1}, {3, -2, -1, 1},
	} {
		if got := impl.Compare(c.kind, num(c.a), num(c.b)); got != c.want {
			t.Fatalf("comparison %d of %d and %d is %d, not %d", c.kind, c.a, c.b, got, c.want)
		}
	}
}

func checkTurned(t *testing.T, a impl.Value, b impl.Value) {
	t.Helper()
	if impl.Compare(impl.CmpSame, a, b) != impl.NotOf(impl.Compare(impl.CmpOther, a, b)) {
		t.Fatalf("%+v and %+v: the same is not not other", a, b)
	}
	if impl.Compare(impl.CmpOther, a, b) != impl.NotOf(impl.Compare(impl.CmpSame, a, b)) {
		t.Fatalf("%+v and %+v: other is not not the same", a, b)
	}
	if impl.Compare(impl.CmpLess, a, b) != impl.NotOf(impl.Compare(impl.CmpMost, b, a)) {
		t.Fatalf("%+v and %+v: less is not not at most, turned round", a, b)
	}
	if impl.Compare(impl.CmpMost, a, b) != impl.NotOf(impl.Compare(impl.CmpLess, b, a)) {
		t.Fatalf("%+v and %+v: at most is not not less, turned round", a, b)
	}
}

func TestPromise6NotOfEachOther(t *testing.T) {
	few := shortTexts()
	for n := -9999; n <= 9999; n += 202 {
		few = append(few, num(n), num(n+1))
	}
	few = append(few, none(), truth(0), truth(1))
	for i, a := range few {
		for j := i % 7; j < len(few); j += 7 {
			checkTurned(t, a, few[j])
		}
		checkTurned(t, a, a)
	}
	for _, wrong := range fewWrongValues() {
		for _, w := range writtenValues() {
			checkTurned(t, wrong, w.v)
		}
	}
}

func TestPromise6NothingIsUnknown(t *testing.T) {
	for _, v := range sampleValues() {
		for _, kind := range comparisons() {
			there, back := impl.Compare(kind, none(), v), impl.Compare(kind, v, none())
			if there != impl.Maybe || back != impl.Maybe {
				t.Fatalf("comparison %d of nothing and %+v is %d, turned round %d", kind, v, there, back)
			}
		}
	}
}

func TestPromise6UnlikeKinds(t *testing.T) {
	pairs := [][2]impl.Value{
		{num(0), truth(0)}, {num(1), truth(1)}, {num(0), text("")}, {text(""), truth(0)},
		{num(3), text("a")}, {text("true"), truth(1)}, {num(-9999), text("zzzzzz")}, {num(9999), truth(0)},
	}
	for _, pair := range pairs {
		for _, kind := range comparisons() {
			there, back := impl.Compare(kind, pair[0], pair[1]), impl.Compare(kind, pair[1], pair[0])
			if there != -1 || back != -1 {
				t.Fatalf("comparison %d of %+v and %+v is %d, turned round %d", kind, pair[0], pair[1], there, back)
			}
		}
	}
}

func TestPromise6OtherComparisons(t *testing.T) {
	for _, kind := range noComparisons() {
		for _, a := range writtenValues() {
			for _, b := range writtenValues() {
				if got := impl.Compare(kind, a.v, b.v); got != -1 {
					t.Fatalf("comparison %d of %s and %s is %d", kind, a.s, b.s, got)
				}
			}
		}
	}
}

// What is no value is turned away ahead of asking whether one is nothing.
func TestPromise6OtherValues(t *testing.T) {
	for _, kind := range comparisons() {
		for _, wrong := range wrongValues() {
			for _, w := range writtenValues() {
				there, back := impl.Compare(kind, wrong, w.v), impl.Compare(kind, w.v, wrong)
				if there != -1 || back != -1 {
					t.Fatalf("comparison %d of %+v and %s is %d, turned round %d", kind, wrong, w.s, there, back)
				}
			}
			if got := impl.Compare(kind, wrong, wrong); got != -1 {
				t.Fatalf("comparison %d of %+v and itself is %d", kind, wrong, got)
			}
		}
	}
}

func TestPromise150ThreeTruths(t *testing.T) {
	for _, a := range truths() {
		if !impl.TruthOk(a) || impl.AndOf(a, a) != a || impl.OrOf(a, a) != a {
			t.Fatalf("%d is a truth, and both and either of it and itself", a)
		}
	}
	for n := -300; n <= 300; n++ {
		if impl.TruthOk(n) != (n >= 0 && n <= 2) {
			t.Fatalf("whether %d is a truth is told wrongly", n)
		}
	}
	for _, wrong := range noTruths() {
		if impl.TruthOk(wrong) || impl.AndOf(wrong, wrong) != -1 || impl.OrOf(wrong, wrong) != -1 {
			t.Fatalf("%d is no truth", wrong)
		}
	}
}

func TestPromise151NotTwice(t *testing.T) {
	if impl.NotOf(impl.No) != impl.Yes || impl.NotOf(impl.Yes) != impl.No {
		t.Fatal("not does not turn yes and no")
	}
	for _, a := range truths() {
		if got := impl.NotOf(impl.NotOf(a)); got != a {
			t.Fatalf("%d turned twice is %d", a, got)
		}
	}
	for _, wrong := range noTruths() {
		if got := impl.NotOf(impl.NotOf(wrong)); got != -1 {
			t.Fatalf("%d turned twice is %d", wrong, got)
		}
	}
}

func TestPromise152TruthsAsWritten(t *testing.T) {
	if impl.TruthOf(none()) != 2 || impl.TruthOf(truth(0)) != 0 || impl.TruthOf(truth(1)) != 1 {
		t.Fatal("truths of nothing, false and true")
	}
}

func TestPromise152TruthsAreValues(t *testing.T) {
	for _, v := range append(sampleValues(), wrongValues()...) {
		got := impl.TruthOf(v)
		if got != -1 && impl.ValueOf(got) != v {
			t.Fatalf("%+v has the truth %d, whose value is %+v", v, got, impl.ValueOf(got))
		}
		told := impl.ValueOk(v) && (v.Kind == impl.KindNone || v.Kind == impl.KindTruth)
		if told != (got != -1) {
			t.Fatalf("%+v has the truth %d", v, got)
		}
	}
}

func TestPromise153ValuesOfTruths(t *testing.T) {
	if impl.ValueOf(0) != truth(0) || impl.ValueOf(1) != truth(1) || impl.ValueOf(2) != none() {
		t.Fatal("values of no, yes and maybe")
	}
	for _, a := range truths() {
		v := impl.ValueOf(a)
		if !impl.ValueOk(v) || impl.TruthOf(v) != a {
			t.Fatalf("%d has the value %+v, whose truth is %d", a, v, impl.TruthOf(v))
		}
	}
	for _, wrong := range noTruths() {
		if v := impl.ValueOf(wrong); v != (impl.Value{}) {
			t.Fatalf("%d has the value %+v", wrong, v)
		}
	}
}
