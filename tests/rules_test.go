package tests

import (
	"math"
	"slices"
	"testing"

	"loop.example/tablehouse/impl"
)

func rules() []int {
	return []int{impl.RuleTests, impl.RuleJoin, impl.RuleTake, impl.RuleOnce, impl.RuleBoth, impl.RuleTakes, impl.RuleOnces}
}

// isTwo asks whether a column is 2.
func isTwo(column int) expr {
	return expr{col(column), val(num(2)), compared(impl.CmpSame)}
}

// partsLong is an expression of so many parts, at least one, that asks for no column.
func partsLong(many int) expr {
	return behind(always(), slices.Repeat(expr{not()}, many-1))
}

// tests are some expressions as one: the first, and behind each further one PartAnd.
func tests(first expr, further ...expr) expr {
	e := slices.Clone(first)
	for _, other := range further {
		e = behind(e, other, expr{both()})
	}
	return e
}

// chains are plans of five or six steps, in which each step is of the one ahead of it.
func chains() []plan {
	list, level := []plan{}, []plan{{fromTable(0)}}
	for steps := 2; steps <= 6; steps++ {
		next := []plan{}
		for _, p := range level {
			a := len(p) - 1
			for _, s := range []impl.Step{where(a, isTwo(0)...), take(a, 1, 0), take(a, 0), once(a), oneBehind(a, a), join(a, 0, isTwo(0)...)} {
				if wantPlan(house(), longer(p, s)) {
					next = append(next, longer(p, s))
				}
			}
		}
		level = next
		if steps >= 5 {
			list = append(list, level...)
		}
	}
	return list
}

// roundTables are tables with their rows turned round.
func roundTables(tables []impl.Table) []impl.Table {
	list := slices.Clone(tables)
	for i := range list {
		list[i].Rows = turnedRound(list[i].Rows)
	}
	return list
}

// wantSteps are the document's rules once more: the steps that stand in the place of a step, none if the rule is not one for it.
func wantSteps(p plan, at int, rule int) plan {
	s, of := p[at], p[p[at].A]
	if s.Kind == impl.StepWhere {
		switch {
		case rule == 1 && of.Kind == impl.StepWhere:
			return plan{where(of.A, tests(of.E, s.E)...)}
		case rule == 2 && of.Kind == impl.StepJoin:
			return plan{join(of.A, of.B, tests(of.E, s.E)...)}
		case rule == 3 && of.Kind == impl.StepTake:
			moved := slices.Clone(s.E)
			for i := range moved {
				if moved[i].Kind == impl.PartColumn {
					moved[i] = col(of.List[moved[i].N])
				}
			}
			return plan{where(of.A, moved...), take(at, of.List...)}
		case rule == 4 && of.Kind == impl.StepOnce:
			return plan{where(of.A, s.E...), once(at)}
		case rule == 5 && of.Kind == impl.StepBoth:
			return plan{where(of.A, s.E...), where(of.B, s.E...), oneBehind(at, at+1)}
		}
	}
	if rule == 6 && s.Kind == impl.StepTake && of.Kind == impl.StepTake {
		list := []int{}
		for _, n := range s.List {
			list = append(list, of.List[n])
		}
		return plan{take(of.A, list...)}
	}
	if rule == 7 && s.Kind == impl.StepOnce && of.Kind == impl.StepOnce {
		return plan{once(of.A)}
	}
	return nil
}

// wantTurned is asked of a plan on tables, and of one of its steps.
func wantTurned(tables []impl.Table, p plan, at int, rule int) (plan, bool) {
	steps := wantSteps(p, at, rule)
	if len(steps) == 0 {
		return p, false
	}
	turned := slices.Concat(p[:at], steps)
	for _, s := range p[at+1:] {
		if s.A >= at {
			s.A += len(steps) - 1
		}
		if s.B >= at {
			s.B += len(steps) - 1
		}
		turned = append(turned, named(s))
	}
	if !wantPlan(tables, turned) {
		return p, false
	}
	return turned, true
}

// hangs are the steps on which a step hangs, and itself.
func hangs(p plan, at int) []int {
	list := []int{at}
	if p[at].Kind != impl.StepTable {
		list = slices.Concat(list, hangs(p, p[at].A))
	}
	if p[at].Kind == impl.StepJoin || p[at].Kind == impl.StepBoth {
		list = slices.Concat(list, hangs(p, p[at].B))
	}
	slices.Sort(list)
	return slices.Compact(list)
}

func wantTidy(p plan) plan {
	left, tidy := hangs(p, len(p)-1), plan{}
	for _, n := range left {
		s := p[n]
		s.A, s.B = max(slices.Index(left, s.A), 0), max(slices.Index(left, s.B), 0)
		tidy = append(tidy, named(s))
	}
	return tidy
}

// wantBest returns how many turns there were, too.
func wantBest(tables []impl.Table, p plan) (plan, int) {
	best := wantTidy(p)
	for turns := 0; turns < 12; turns++ {
		turned, ok := plan{}, false
		for i := 0; !ok && i < 7*len(best); i++ {
			turned, ok = wantTurned(tables, best, i%len(best), 1+i/len(best))
		}
		if !ok {
			return best, turns
		}
		best = wantTidy(turned)
	}
	return best, 12
}

// checkYieldsTheSame asks that both are plans, with the same rows in the same order, on tables and on them with their rows turned round.
func checkYieldsTheSame(t *testing.T, tables []impl.Table, p plan, other plan) {
	t.Helper()
	for _, given := range [][]impl.Table{tables, roundTables(tables)} {
		checkRows(t, given, other, impl.PlanRows(given, p))
	}
	kinds := func(x impl.Column, y impl.Column) bool { return x.Kind == y.Kind }
	if !slices.EqualFunc(impl.PlanColumns(tables, p), impl.PlanColumns(tables, other), kinds) {
		t.Fatalf("%v and %v have other columns", p, other)
	}
}

// checkTurnedPlan asks for just this plan, and for the plan itself and false if it is not turned.
func checkTurnedPlan(t *testing.T, tables []impl.Table, p plan, at int, rule int, want plan, ok bool) {
	t.Helper()
	turned, did := impl.PlanTurned(tables, p, at, rule)
	if did != ok || !sameSteps(turned, want) {
		t.Fatalf("by the rule %d at %d %v becomes %v, %v, not %v, %v", rule, at, p, turned, did, want, ok)
	}
	if ok {
		checkYieldsTheSame(t, tables, p, turned)
	}
}

func checkNotTurned(t *testing.T, tables []impl.Table, p plan, at int, rule int) {
	t.Helper()
	turned, ok := impl.PlanTurned(tables, p, at, rule)
	if ok || len(turned) != 0 {
		t.Fatalf("by the rule %d at %d %v becomes %v, %v", rule, at, p, turned, ok)
	}
}

func TestPromise21PlansThatAreTurned(t *testing.T) {
	tables := house()
	times, tooLong := make([]int, 8), 0
	for _, p := range append(plans(), chains()...) {
		for at := range p {
			for _, rule := range rules() {
				want, ok := wantTurned(tables, p, at, rule)
				checkTurnedPlan(t, tables, p, at, rule, want, ok)
				if ok {
					times[rule]++
				} else if len(wantSteps(p, at, rule)) > 0 {
					tooLong++
				}
			}
		}
	}
	if slices.Min(times[1:]) < 20 || tooLong < 50 {
		t.Fatalf("the rules turned %v plans, and %d became too long", times[1:], tooLong)
	}
}

func TestPromise21NumbersOfRules(t *testing.T) {
	if !slices.Equal(rules(), []int{1, 2, 3, 4, 5, 6, 7}) {
		t.Fatalf("the rules are %v", rules())
	}
}

func TestPromise21EachRule(t *testing.T) {
	tables := house()
	x, y := isTwo(0), expr{col(1), gone()}
	xy := expr{col(0), val(num(2)), compared(impl.CmpSame), col(1), gone(), both()}
	for _, w := range []struct {
		rule int
		p    plan
		at   int
		want plan
	}{
		{impl.RuleTests, plan{fromTable(0), where(0, x...), where(1, y...)}, 2, plan{fromTable(0), where(0, x...), where(0, xy...)}},
		{impl.RuleTests, plan{fromTable(1), fromTable(0), where(1, x...), fromTable(2), where(2, y...)}, 4, plan{fromTable(1), fromTable(0), where(1, x...), fromTable(2), where(1, xy...)}},
		{impl.RuleJoin, plan{fromTable(1), fromTable(0), join(1, 0, x...), where(2, y...)}, 3, plan{fromTable(1), fromTable(0), join(1, 0, x...), join(1, 0, xy...)}},
		{impl.RuleTake, plan{fromTable(0), take(0, 1, 0), where(1, isTwo(1)...)}, 2, plan{fromTable(0), take(0, 1, 0), where(0, x...), take(2, 1, 0)}},
		{impl.RuleTake, plan{fromTable(0), take(0), where(1, always()...)}, 2, plan{fromTable(0), take(0), where(0, always()...), take(2)}},
		{impl.RuleTake, plan{fromTable(0), take(0, 0, 0, 1, 0), where(1, col(3), col(1), compared(impl.CmpSame))}, 2, plan{fromTable(0), take(0, 0, 0, 1, 0), where(0, col(0), col(0), compared(impl.CmpSame)), take(2, 0, 0, 1, 0)}},
		{impl.RuleOnce, plan{fromTable(0), once(0), where(1, x...)}, 2, plan{fromTable(0), once(0), where(0, x...), once(2)}},
		{impl.RuleBoth, plan{fromTable(1), fromTable(1), oneBehind(1, 0), where(2, x...)}, 3, plan{fromTable(1), fromTable(1), oneBehind(1, 0), where(1, x...), where(0, x...), oneBehind(3, 4)}},
		{impl.RuleBoth, plan{fromTable(0), oneBehind(0, 0), where(1, x...)}, 2, plan{fromTable(0), oneBehind(0, 0), where(0, x...), where(0, x...), oneBehind(2, 3)}},
		{impl.RuleTakes, plan{fromTable(0), take(0, 1, 0, 0), take(1, 2, 0)}, 2, plan{fromTable(0), take(0, 1, 0, 0), take(0, 0, 1)}},
		{impl.RuleTakes, plan{fromTable(0), take(0, 1), take(1, 0, 0, 0, 0)}, 2, plan{fromTable(0), take(0, 1), take(0, 1, 1, 1, 1)}},
		{impl.RuleTakes, plan{fromTable(0), take(0), take(1)}, 2, plan{fromTable(0), take(0), take(0)}},
		{impl.RuleOnces, plan{fromTable(0), once(0), once(1)}, 2, plan{fromTable(0), once(0), once(0)}},
	} {
		checkTurnedPlan(t, tables, w.p, w.at, w.rule, w.want, true)
		for _, rule := range rules() {
			if rule != w.rule {
				checkTurnedPlan(t, tables, w.p, w.at, rule, w.p, false)
			}
		}
	}
}

// Steps behind the new ones name the last one of them for the step that is gone, and all others by their new numbers.
func TestPromise21StepsThatNamedIt(t *testing.T) {
	tables := house()
	x := isTwo(0)
	p := plan{fromTable(1), once(0), where(1, x...), oneBehind(2, 1), join(3, 2, always()...)}
	want := plan{fromTable(1), once(0), where(0, x...), once(2), oneBehind(3, 1), join(4, 3, always()...)}
	checkTurnedPlan(t, tables, p, 2, impl.RuleOnce, want, true)
	p = plan{fromTable(1), oneBehind(0, 0), where(1, x...), join(0, 2, always()...)}
	want = plan{fromTable(1), oneBehind(0, 0), where(0, x...), where(0, x...), oneBehind(2, 3), join(0, 4, always()...)}
	checkTurnedPlan(t, tables, p, 2, impl.RuleBoth, want, true)
	p = plan{fromTable(1), take(0, 0, 0), where(1, x...), take(2, 1), fromTable(2)}
	want = plan{fromTable(1), take(0, 0, 0), where(0, x...), take(2, 0, 0), take(3, 1), fromTable(2)}
	checkTurnedPlan(t, tables, p, 2, impl.RuleTake, want, true)
	p = plan{fromTable(1), where(0, x...), where(1, x...), where(2, x...), oneBehind(2, 3), oneBehind(4, 1)}
	want = plan{fromTable(1), where(0, x...), where(0, tests(x, x)...), where(2, x...), oneBehind(2, 3), oneBehind(4, 1)}
	checkTurnedPlan(t, tables, p, 2, impl.RuleTests, want, true)
}

// What nobody knows ahead of a test, or behind it, does not hold as one test either.
func TestPromise21WhatNobodyKnows(t *testing.T) {
	tables := []impl.Table{{Columns: []impl.Column{{Kind: 3, Empty: true}, {Kind: 3, Empty: true}}}}
	for _, a := range []impl.Value{truth(0), truth(1), none()} {
		for _, b := range []impl.Value{truth(0), truth(1)} {
			tables[0].Rows = append(tables[0].Rows, []impl.Value{a, b})
		}
	}
	for i := 0; i < 2; i++ {
		kept := bag{{truth(1), truth(1)}}
		checkTurnedPlan(t, tables, plan{fromTable(0), where(0, col(0)), where(1, col(1))}, 2, impl.RuleTests, plan{fromTable(0), where(0, col(0)), where(0, col(0), col(1), both())}, true)
		checkRows(t, tables, plan{fromTable(0), where(0, col(0), col(1), both())}, kept)
		for j := range tables[0].Rows {
			row := tables[0].Rows[j]
			tables[0].Rows[j] = []impl.Value{row[1], row[0]}
		}
	}
}

// Twelve parts are not too many, thirteen are.
func TestPromise21ExpressionsThatBecomeTooLong(t *testing.T) {
	tables := house()
	for that := 1; that <= 12; that++ {
		for this := 1; this <= 12; this++ {
			e := behind(partsLong(that), partsLong(this), expr{both()})
			p := plan{fromTable(1), where(0, partsLong(that)...), where(1, partsLong(this)...), fromTable(1)}
			joined := plan{fromTable(1), join(0, 0, partsLong(that)...), where(1, partsLong(this)...), fromTable(1)}
			ok := that+this <= 11
			want, wantJoined := p, joined
			if ok {
				want = plan{p[0], p[1], where(0, e...), p[3]}
				wantJoined = plan{p[0], joined[1], join(0, 0, e...), p[3]}
			}
			checkTurnedPlan(t, tables, p, 2, impl.RuleTests, want, ok)
			checkTurnedPlan(t, tables, joined, 2, impl.RuleJoin, wantJoined, ok)
		}
	}
	// A test of twelve parts may go below what it is of.
	long := partsLong(12)
	for _, w := range []struct {
		rule int
		of   impl.Step
		want plan
	}{
		{impl.RuleTake, take(0), plan{where(0, long...), take(2)}},
		{impl.RuleOnce, once(0), plan{where(0, long...), once(2)}},
		{impl.RuleBoth, oneBehind(0, 0), plan{where(0, long...), where(0, long...), oneBehind(2, 3)}},
	} {
		p := plan{fromTable(1), w.of, where(1, long...)}
		checkTurnedPlan(t, tables, p, 2, w.rule, slices.Concat(p[:2], w.want), true)
	}
}

// Six steps are not too many, seven are; how many would be left if it were tidy does not count.
func TestPromise21PlansThatBecomeTooLong(t *testing.T) {
	tables := house()
	x := isTwo(0)
	for _, w := range []struct {
		rule int
		of   impl.Step
		more int
	}{
		{impl.RuleTests, where(0, x...), 0},
		{impl.RuleJoin, join(0, 0, x...), 0},
		{impl.RuleTake, take(0, 0), 1},
		{impl.RuleOnce, once(0), 1},
		{impl.RuleBoth, oneBehind(0, 0), 2},
	} {
		for many := 3; many <= 6; many++ {
			p := plan{fromTable(1), w.of, where(1, x...)}
			for len(p) < many {
				p = longer(p, fromTable(len(p)%3))
			}
			want, ok := wantTurned(tables, p, 2, w.rule)
			if ok != (many+w.more <= 6) {
				t.Fatalf("%d steps and %d more are a plan: %v", many, w.more, ok)
			}
			checkTurnedPlan(t, tables, p, 2, w.rule, want, ok)
		}
	}
	for _, p := range []plan{
		{fromTable(1), fromTable(0), fromTable(1), fromTable(0), take(2, 0), take(4, 0)},
		{fromTable(1), fromTable(0), fromTable(1), fromTable(0), once(2), once(4)},
	} {
		rule := impl.RuleTakes
		want := longer(p[:5], take(2, 0))
		if p[5].Kind == impl.StepOnce {
			rule, want = impl.RuleOnces, longer(p[:5], once(2))
		}
		checkTurnedPlan(t, tables, p, 5, rule, want, true)
	}
}

// There is nothing for a step that is none, a rule that is none, and a plan that is none.
func TestPromise21OtherArguments(t *testing.T) {
	tables := house()
	p := plan{fromTable(0), once(0), where(1, isTwo(0)...)}
	checkTurnedPlan(t, tables, p, 2, impl.RuleOnce, plan{p[0], p[1], where(0, isTwo(0)...), once(2)}, true)
	for _, n := range []int{math.MinInt, -256, -254, -2, -1, 3, 4, 6, 7, 255, 256, 258, math.MaxInt} {
		for _, rule := range rules() {
			checkNotTurned(t, tables, p, n, rule)
			checkNotTurned(t, tables, nil, n, rule)
		}
	}
	for _, rule := range []int{math.MinInt, -256, -252, -1, 0, 8, 9, 255, 256, 257, 260, math.MaxInt} {
		for at := -1; at <= 3; at++ {
			checkNotTurned(t, tables, p, at, rule)
		}
	}
	for _, rule := range rules() {
		for at := -1; at <= 7; at++ {
			checkNotTurned(t, tables, nil, at, rule)
			checkNotTurned(t, tables, plan{}, at, rule)
			checkNotTurned(t, tables, longer(p, fromTable(3)), at, rule)
			checkNotTurned(t, tables, slices.Concat(p, slices.Repeat(plan{once(1)}, 4)), at, rule)
			checkNotTurned(t, nil, p, at, rule)
			checkNotTurned(t, slices.Concat(tables, tables), p, at, rule)
		}
	}
	for _, others := range noTables() {
		checkNotTurned(t, others, plan{fromTable(0), once(0), once(1)}, 2, impl.RuleOnces)
	}
}

func TestPromise21WhatIsNoPlan(t *testing.T) {
	tables, others := house(), 0
	for _, p := range plansAndOthers() {
		if wantPlan(tables, p) {
			continue
		}
		others++
		for _, rule := range rules() {
			checkNotTurned(t, tables, p, len(p)-1, rule)
		}
		if len(impl.PlanTidy(tables, p)) != 0 || len(impl.PlanBest(tables, p)) != 0 {
			t.Fatalf("%v, no plan, is made tidy, or better", p)
		}
	}
	if others < 1000 {
		t.Fatalf("%d are no plans", others)
	}
}

// checkBest asks for just this plan.
func checkBest(t *testing.T, tables []impl.Table, p plan, want plan) {
	t.Helper()
	best := impl.PlanBest(tables, p)
	if !sameSteps(best, want) {
		t.Fatalf("the best of %v is %v, not %v", p, best, want)
	}
	checkYieldsTheSame(t, tables, p, best)
}

func TestPromise22TheBestPlan(t *testing.T) {
	tables := house()
	times := make([]int, 13)
	for _, p := range append(plans(), chains()...) {
		want, turns := wantBest(tables, p)
		checkBest(t, tables, p, want)
		times[turns]++
		for at := range want {
			for _, rule := range rules() {
				if _, ok := wantTurned(tables, want, at, rule); ok && turns < 12 {
					t.Fatalf("%v, the best of %v, can be turned by %d", want, p, rule)
				}
			}
		}
	}
	if slices.Min(times[:6]) < 5 {
		t.Fatalf("so often there were so many turns: %v", times)
	}
}

func TestPromise22AsWritten(t *testing.T) {
	tables := house()
	x, y, z := isTwo(0), expr{col(1), gone()}, partsLong(4)
	for _, w := range []struct {
		p    plan
		want plan
	}{
		{plan{fromTable(2)}, plan{fromTable(2)}},
		{plan{fromTable(0), fromTable(1), once(0), fromTable(2)}, plan{fromTable(2)}},
		{plan{fromTable(0), where(0, x...), where(1, y...)}, plan{fromTable(0), where(0, tests(x, y)...)}},
		// The first test is joined with the one behind it first.
		{plan{fromTable(0), where(0, x...), where(1, y...), where(2, x...)}, plan{fromTable(0), where(0, tests(x, y, x)...)}},
		// Two that are too long together stay two, and the next ones become one.
		{plan{fromTable(0), where(0, partsLong(8)...), where(1, z...), where(2, z...)}, plan{fromTable(0), where(0, partsLong(8)...), where(1, tests(z, z)...)}},
		{plan{fromTable(0), where(0, z...), where(1, z...), where(2, z...)}, plan{fromTable(0), where(0, tests(z, z)...), where(1, z...)}},
		{plan{fromTable(0), fromTable(1), join(0, 1, x...), where(2, y...), where(3, x...)}, plan{fromTable(0), fromTable(1), join(0, 1, behind(x, y, x, expr{both(), both()})...)}},
		{plan{fromTable(0), fromTable(1), join(0, 1, partsLong(9)...), where(2, x...)}, plan{fromTable(0), fromTable(1), join(0, 1, partsLong(9)...), where(2, x...)}},
		{plan{fromTable(0), take(0, 1, 0), take(1, 1), take(2, 0, 0), once(3), once(4)}, plan{fromTable(0), take(0, 0, 0), once(1)}},
		{plan{fromTable(0), once(0), once(1), once(2), once(3), where(4, x...)}, plan{fromTable(0), where(0, x...), once(1)}},
		{plan{fromTable(1), oneBehind(0, 0), once(1), where(2, x...)}, plan{fromTable(1), where(0, x...), where(0, x...), oneBehind(1, 2), once(3)}},
		// A test stays above two steps where a plan would have too many.
		{plan{fromTable(1), once(0), take(1, 0), oneBehind(2, 0), where(3, x...)}, plan{fromTable(1), once(0), take(1, 0), oneBehind(2, 0), where(3, x...)}},
		// What is asked for twice is not turned for one who asks alone.
		{plan{fromTable(1), once(0), where(1, x...), oneBehind(1, 2)}, plan{fromTable(1), once(0), where(0, x...), once(2), oneBehind(1, 3)}},
	} {
		checkBest(t, tables, w.p, w.want)
	}
}

// A rule comes ahead of the next one at each step; of one rule the first step is turned first.
func TestPromise22TheFirstRule(t *testing.T) {
	tables := house()
	x := isTwo(0)
	// With the last two tests as one the plan has room enough.
	p := plan{fromTable(1), oneBehind(0, 0), where(1, x...), once(2), where(3, x...), where(4, x...)}
	e := behind(x, tests(x, x), expr{both()})
	want := plan{fromTable(1), where(0, e...), where(0, e...), oneBehind(1, 2), once(3)}
	checkBest(t, tables, p, want)
	// Two takings would become one, but the test goes below the last one first.
	p = plan{fromTable(1), take(0, 0, 0), take(1, 1), where(2, x...), once(3)}
	want = plan{fromTable(1), where(0, x...), take(1, 0), once(2)}
	checkBest(t, tables, p, want)
}

func TestPromise22WhatIsNoPlan(t *testing.T) {
	p := plan{fromTable(0), once(0), once(1)}
	for _, tables := range append(noTables(), nil, []impl.Table{}) {
		if len(impl.PlanBest(tables, p)) != 0 {
			t.Fatalf("there is a best plan on %v", tables)
		}
	}
	for _, p := range []plan{nil, {}, {fromTable(3)}, {once(0)}, {fromTable(0), once(1)}, {fromTable(3), fromTable(0)}, slices.Repeat(plan{fromTable(0)}, 7)} {
		if len(impl.PlanBest(house(), p)) != 0 {
			t.Fatalf("there is a best one of %v", p)
		}
	}
}

func checkTidy(t *testing.T, tables []impl.Table, p plan, want plan) {
	t.Helper()
	tidy := impl.PlanTidy(tables, p)
	if !sameSteps(tidy, want) {
		t.Fatalf("%v is %v when it is tidy, not %v", p, tidy, want)
	}
	checkYieldsTheSame(t, tables, p, tidy)
	if len(tidy) > len(p) || !sameSteps(impl.PlanTidy(tables, tidy), tidy) {
		t.Fatalf("%v, which is tidy, is longer than %v, or becomes %v", tidy, p, impl.PlanTidy(tables, tidy))
	}
	if !slices.Equal(impl.PlanTables(tables, p), impl.PlanTables(tables, tidy)) {
		t.Fatalf("%v and %v ask for other tables", p, tidy)
	}
	if !slices.Equal(impl.PlanColumns(tables, p), impl.PlanColumns(tables, tidy)) {
		t.Fatalf("%v and %v have other columns", p, tidy)
	}
}

func TestPromise163TidyPlans(t *testing.T) {
	tables := house()
	left := make([]int, 7)
	for _, p := range append(plans(), chains()...) {
		checkTidy(t, tables, p, wantTidy(p))
		left[len(p)-len(wantTidy(p))]++
	}
	if slices.Min(left[:6]) < 5 {
		t.Fatalf("so often so many steps were left out: %v", left)
	}
}

func TestPromise163AsWritten(t *testing.T) {
	tables := house()
	yes := always()
	for _, w := range []struct {
		p    plan
		want plan
	}{
		{plan{fromTable(2)}, plan{fromTable(2)}},
		{plan{fromTable(1), fromTable(1)}, plan{fromTable(1)}},
		{plan{fromTable(0), where(0, yes...), fromTable(1), once(2)}, plan{fromTable(1), once(0)}},
		{plan{fromTable(0), fromTable(1), once(0)}, plan{fromTable(0), once(0)}},
		{plan{fromTable(0), fromTable(1), fromTable(2), join(2, 1, yes...)}, plan{fromTable(1), fromTable(2), join(1, 0, yes...)}},
		{plan{fromTable(2), fromTable(1), fromTable(0), once(1), oneBehind(1, 3)}, plan{fromTable(1), once(0), oneBehind(0, 1)}},
		{plan{fromTable(2), fromTable(0), once(0), take(1, 1), take(1, 0), take(3, 0, 0)}, plan{fromTable(0), take(0, 1), take(1, 0, 0)}},
		// Steps that are the same are not one step.
		{plan{fromTable(1), fromTable(1), once(0), once(1), oneBehind(2, 3)}, plan{fromTable(1), fromTable(1), once(0), once(1), oneBehind(2, 3)}},
		{slices.Repeat(plan{fromTable(2)}, 6), plan{fromTable(2)}},
		// A table names no step, and a step that is left out may name one that stays.
		{plan{fromTable(0), fromTable(1), take(1, 0, 0), once(2), join(1, 1, yes...), where(1, yes...)}, plan{fromTable(1), where(0, yes...)}},
	} {
		checkTidy(t, tables, w.p, w.want)
	}
}

func TestPromise163WhatIsNoPlan(t *testing.T) {
	p := plan{fromTable(0), once(0)}
	for _, tables := range append(noTables(), nil, []impl.Table{}) {
		if len(impl.PlanTidy(tables, p)) != 0 {
			t.Fatalf("there is a tidy plan on %v", tables)
		}
	}
	// A step that is none makes no plan, though nothing hangs on it.
	for _, p := range []plan{nil, {}, {fromTable(3)}, {once(0)}, {fromTable(0), once(1)}, {fromTable(3), fromTable(0)}, {fromTable(0), once(2), fromTable(0)}, slices.Repeat(plan{fromTable(0)}, 7)} {
		if len(impl.PlanTidy(house(), p)) != 0 {
			t.Fatalf("%v can be made tidy", p)
		}
	}
}

// overwriteSteps writes over steps, their lists, and the room behind all of these.
func overwriteSteps(p plan) {
	for i := range p {
		for j := range p[i].E {
			p[i].E[j] = val(num(77))
		}
		for j := range p[i].List {
			p[i].List[j] = 77
		}
		_, _ = append(p[i].E, val(num(78))), append(p[i].List, 78)
		p[i] = fromTable(79)
	}
	_ = append(p, fromTable(80))
}

// copySteps shares nothing with steps.
func copySteps(p plan) plan {
	list := slices.Clone(p)
	for i := range list {
		list[i].E, list[i].List = slices.Clone(list[i].E), slices.Clone(list[i].List)
	}
	return list
}

// checkStepsShareNothing writes over one step of an answer after the other, and looks at all others.
func checkStepsShareNothing(t *testing.T, p plan) {
	t.Helper()
	for i := range p {
		others := copySteps(p)
		overwriteSteps(p[i : i+1 : i+1])
		for j := range p {
			if j != i && !sameSteps(p[j:j+1], others[j:j+1]) {
				t.Fatalf("the steps %d and %d of %v share memory", i, j, others)
			}
		}
		p[i] = others[i]
	}
}

// turnedPlans are all answers of the chapter to a plan.
func turnedPlans(tables []impl.Table, p plan) []plan {
	list := []plan{impl.PlanTidy(tables, p), impl.PlanBest(tables, p)}
	for at := range p {
		for _, rule := range rules() {
			turned, _ := impl.PlanTurned(tables, p, at, rule)
			list = append(list, turned)
		}
	}
	return list
}

// A plan that is turned shares no memory with the plan, nor do its steps with each other, and neither tables nor the plan are written.
func TestTurnedPlansAreNewMemory(t *testing.T) {
	tables := house()
	list := []plan{}
	for _, of := range []impl.Step{where(0, isTwo(0)...), join(0, 0, isTwo(0)...), take(0, 0), once(0), oneBehind(0, 0)} {
		list = append(list, plan{fromTable(1), of, where(1, isTwo(0)...)}, plan{fromTable(1), of, take(1, 0)}, plan{fromTable(1), of, once(1)})
	}
	for i, p := range append(chains(), plans()...) {
		if i%9 == 0 {
			list = append(list, p)
		}
	}
	for _, p := range list {
		given, steps := roomyTables(tables), roomyPlan(p)
		for _, turned := range turnedPlans(given, steps) {
			checkStepsShareNothing(t, turned)
			overwriteSteps(turned)
		}
		checkNotWritten(t, given, tables, steps, p)
	}
}
