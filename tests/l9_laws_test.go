package tests

import (
	"fmt"
	"math/rand"
	"slices"
	"testing"

	"loop.example/g01082/impl"
)

func applied(r impl.Rule, agent impl.Bigraph, m impl.Match) (impl.Bigraph, bool) {
	return impl.ApplyRule(house(), r, agent, m)
}

// isStep reports whether a Trace of one step is played.
func isStep(t *testing.T, r impl.Rule, agent impl.Bigraph, m impl.Match) bool {
	t.Helper()
	_, played, ok := impl.PlayTrace(house(), []impl.Rule{r}, agent, impl.Trace{Rules: []int{0}, Matches: []impl.Match{m}})
	if !ok {
		t.Fatalf("PlayTrace of %v from %v fails", r, agent)
	}
	return played == 1
}

// stepOfWhole checks that a Rule leads from a whole to the whole around that to which it leads from
// a part, and that this is a step where the Match is active. It reports whether this is so, as the
// Rule can be applied to the part, and the whole does not get too large.
func stepOfWhole(t *testing.T, r impl.Rule, part impl.Bigraph, m impl.Match, whole impl.Bigraph, shifted impl.Match, around func(impl.Bigraph) (impl.Bigraph, bool)) bool {
	t.Helper()
	result, ok := applied(r, part, m)
	if !ok {
		return false
	}
	want, possible := around(result)
	got, ok := applied(r, whole, shifted)
	wantResult(t, got, ok, want, possible, "ApplyRule(%v, %v, %v), which is a step of the part %v,", r, whole, shifted, part)
	active := isActiveMatch(t, r.Redex, whole, shifted)
	if possible && isStep(t, r, whole, shifted) != active {
		t.Fatalf("%v of %v in %v is active: %v, and a step: %v", shifted, r, whole, active, !active)
	}
	steps, ok := impl.StepsOf(house(), []impl.Rule{r}, whole)
	isSame := func(step impl.Step) bool { return isSameStep(step, impl.Step{Match: shifted, Result: want}) }
	if ok && active != slices.ContainsFunc(steps, isSame) {
		t.Fatalf("StepsOf(%v, %v) = %v; the step at %v leads to %v", r, whole, steps, shifted, want)
	}
	return possible
}

func TestStepsBesideOtherAgentsAreStepsOfWholes(t *testing.T) {
	t.Parallel()
	r, counts := rand.New(rand.NewSource(190)), map[string]int{}
	for range 2500 {
		redex, agent, m := filledAgent(r, 6)
		rule := randomRule(r, redex)
		other := agentSamples(r.Int63(), 1, 3)[0]
		whole, ok := parallel(other, agent)
		if !ok {
			continue
		}
		// The other agent comes first, so that the nodes and edges of the part keep their order.
		shifted := shiftedMatch(m, len(other.Nodes), func(root int) int { return -1 - other.Roots - root })
		beside := func(b impl.Bigraph) (impl.Bigraph, bool) { return parallel(other, b) }
		stepped := stepOfWhole(t, rule, agent, m, whole, shifted, beside)
		active := isActiveMatch(t, redex, agent, m)
		if is := isActiveMatch(t, redex, whole, shifted); is != active {
			t.Fatalf("%v of %v is active in %v: %v; in the whole: %v", m, redex, agent, active, is)
		}
		counts[fmt.Sprint(stepped, " ", active, " ", haveCommon(other.Outer, agent.Outer))]++
		wantStepInFront(t, rule, agent, m, other)
	}
	wantAtLeast(t, counts, 50, "true true false", "true true true", "true false false", "true false true")
}

// wantStepInFront checks a step of the first one of two agents, up to the numbers of nodes and edges.
func wantStepInFront(t *testing.T, r impl.Rule, agent impl.Bigraph, m impl.Match, other impl.Bigraph) {
	t.Helper()
	whole, ok := parallel(agent, other)
	result, fine := applied(r, agent, m)
	want, possible := parallel(result, other)
	if !ok || !fine || !possible {
		return
	}
	got, ok := applied(r, whole, m)
	same, _ := impl.AreIsomorphic(house(), got, want)
	if !ok || !same {
		t.Fatalf("ApplyRule(%v, %v, %v) = %v, %v; want %v", r, whole, m, got, ok, want)
	}
}

func TestStepsInActivePartsAreStepsOfWholes(t *testing.T) {
	t.Parallel()
	r, counts := rand.New(rand.NewSource(191)), map[string]int{}
	for range 4000 {
		redex, agent, m := filledAgent(r, 6)
		rule := randomRule(r, redex)
		context := contextFor(r, agent)
		whole, ok := composition(context, agent)
		if !ok {
			continue
		}
		shifted := shiftedMatch(m, len(context.Nodes), func(root int) int { return context.Sites[root] })
		around := func(b impl.Bigraph) (impl.Bigraph, bool) { return composition(context, b) }
		stepped := stepOfWhole(t, rule, agent, m, whole, shifted, around)
		open, active := wantActiveInWhole(t, redex, agent, m, context, whole, shifted)
		counts[fmt.Sprint(stepped, " ", open, " ", active)]++
	}
	wantAtLeast(t, counts, 20, "true true true", "true true false", "true false true", "true false false")
}

func TestStepsInActiveNodesAreStepsOfWholes(t *testing.T) {
	grow, drop := ruleOf(t, growDot), ruleOf(t, dropRoom)
	agent := read(t, "1; room@-1; dot@0; dot@-1; sites; 0; outer; inner")
	for _, e := range []struct {
		context string
		is      bool
	}{
		{"1; room@-1; sites 0; 0; outer; inner", true},
		{"1; key@-1 0; room@0; sites 1; 1; outer; inner", true},
		{"1; door@-1 0 0; sites -1; 1; outer; inner", true},
		{"1; door@-1 0 0; sites 0; 1; outer; inner", false},
		{"1; box@-1 0; room@0; sites 1; 1; outer; inner", false},
		{"1; room@-1; box@0 0; sites 1; 1; outer; inner", false},
		{"2; room@-2; box@-1 0; room@0; sites 2; 1; outer; inner", true},
	} {
		context := read(t, e.context)
		whole, ok := composition(context, agent)
		steps, fine := impl.StepsOf(house(), []impl.Rule{grow, drop}, whole)
		if want := map[bool]int{true: 3}[e.is]; !ok || !fine || len(steps) < want {
			t.Fatalf("there are %d steps in %v", len(steps), whole)
		}
		inside, _ := impl.StepsOf(house(), []impl.Rule{grow, drop}, agent)
		for _, step := range inside {
			want, _ := composition(context, step.Result)
			shifted := shiftedMatch(step.Match, len(context.Nodes), func(root int) int { return context.Sites[root] })
			isSame := func(s impl.Step) bool {
				return isSameStep(s, impl.Step{Rule: step.Rule, Match: shifted, Result: want})
			}
			if slices.ContainsFunc(steps, isSame) != e.is {
				t.Errorf("the step %v in %s is a step of the whole: %v", step, e.context, !e.is)
			}
		}
	}
}

func TestInverseRulesLeadBack(t *testing.T) {
	t.Parallel()
	r, counts := rand.New(rand.NewSource(192)), map[string]int{}
	for range 8000 {
		redex, agent, m := filledAgent(r, 8)
		rule := randomRule(r, redex)
		inverse, ok := impl.InverseRule(house(), rule)
		if !ok {
			counts["none"]++
			continue
		}
		twice, fine := impl.InverseRule(house(), inverse)
		wantRule(t, twice, fine, rule, true, "InverseRule(%v)", inverse)
		result, ok := applied(rule, agent, m)
		if !ok {
			continue
		}
		rest, _, parameter := partsOf(agent, m)
		back := impl.Match{Nodes: numbersFrom(len(rest), len(rule.Reactum.Nodes))}
		for _, place := range m.Roots {
			if place >= 0 {
				place = slices.Index(rest, place)
			}
			back.Roots = append(back.Roots, place)
		}
		first, ok := applied(inverse, result, back)
		if !ok || isActiveMatch(t, inverse.Redex, result, back) != isActiveMatch(t, redex, agent, m) {
			t.Fatalf("%v of %v leads back from %v to %v, %v; it comes from %v", back, inverse, result, first, ok, agent)
		}
		wantFirstAgent(t, rule, agent, m, first)
		counts[fmt.Sprint("back ", len(parameter) > 0, " ", len(rule.Copies) > 1)]++
	}
	wantAtLeast(t, counts, 50, "none", "back true false", "back false false", "back true true")
}

// wantFirstAgent checks that a Rule and its inverse have led back to an agent, whose nodes and
// edges have other numbers: the rest, the images, and what was at the sites, in order.
func wantFirstAgent(t *testing.T, r impl.Rule, agent impl.Bigraph, m impl.Match, got impl.Bigraph) {
	t.Helper()
	rest, _, parameter := partsOf(agent, m)
	nodes, edges, images := slices.Concat(rest, m.Nodes), []int{}, matchLinksAs(r.Redex, agent, m)[:r.Redex.Edges]
	for _, site := range r.Redex.Sites {
		for _, k := range parameter {
			if imageOver(agent, m, k) == m.Nodes[site] {
				nodes = append(nodes, k)
			}
		}
	}
	for edge := range agent.Edges {
		if !slices.Contains(images, edge) {
			edges = append(edges, edge)
		}
	}
	// All numbers of the first agent, in the order in which they are now.
	moved, ok := impl.RenumberNodes(house(), got, nodes, append(edges, images...))
	wantResult(t, moved, ok, agent, true, "where %v and its inverse lead at %v, with the first numbers,", r, m)
}

func TestRulesThatChangeNothing(t *testing.T) {
	t.Parallel()
	r, counts := rand.New(rand.NewSource(193)), map[string]int{}
	for range 1500 {
		redex, agent, m := filledAgent(r, 8)
		rule := impl.Rule{Redex: redex, Reactum: redex, Copies: numbersFrom(0, len(redex.Sites))}
		inverse, ok := impl.InverseRule(house(), rule)
		wantRule(t, inverse, ok, rule, true, "InverseRule of a Rule that changes nothing")
		got, ok := applied(rule, agent, m)
		context, framed := impl.MatchContext(house(), redex, agent, m)
		parameter, _ := impl.MatchParameter(house(), redex, agent, m)
		want, possible := impl.RecomposeMatch(house(), redex, context, parameter)
		instance, fine := impl.InstanceOf(house(), rule, parameter)
		if ok != possible || ok != fine || ok != framed {
			t.Fatalf("ApplyRule(%v, %v, %v) = %v, %v", rule, agent, m, got, ok)
		}
		if ok {
			wantFirstAgent(t, rule, agent, m, got)
			same, _ := impl.AreIsomorphic(house(), got, want)
			other, _ := impl.AreIsomorphic(house(), instance, parameter)
			if !same || !other {
				t.Fatalf("%v leads to %v, and its instance of %v is %v", rule, got, parameter, instance)
			}
			counts["same"]++
		}
	}
	wantAtLeast(t, counts, 1000, "same")
}

func TestRulesThatKeepSortingsKeepAgentsSorted(t *testing.T) {
	t.Parallel()
	r, counts := rand.New(rand.NewSource(194)), map[string]int{}
	for range 12000 {
		redex, agent, m := filledAgent(r, 7)
		rule := randomRule(r, redex)
		result, ok := applied(rule, agent, m)
		if !ok {
			continue
		}
		s := randomSorting(r)
		least := leastOf(t, s, agent)
		for _, some := range []impl.Sorting{least, nearSorting(r, least, 2), joinOf(t, least, s), leastOf(t, s, agent, rule.Reactum)} {
			keeps, ok := impl.KeepsSorting(house(), some, rule)
			if !ok {
				t.Fatalf("KeepsSorting(%v, %v) fails", some, rule)
			}
			before, after := isSorted(t, some, agent), isSorted(t, some, result)
			if keeps && before && !after {
				t.Fatalf("%v keeps %v, but leads from %v at %v to %v, which is not sorted", rule, some, agent, m, result)
			}
			counts[fmt.Sprint(keeps, " ", before, " ", after)]++
			if keeps && before && !isSame(rule.Redex, rule.Reactum) {
				counts["changed"]++
			}
		}
	}
	wantAtLeast(t, counts, 300, "true true true", "false true true", "false true false", "changed")
	wantAtLeast(t, counts, 5, "true false false")
}

func TestStepsOfListsAreThoseOfTheirRules(t *testing.T) {
	t.Parallel()
	r, counts := rand.New(rand.NewSource(195)), map[string]int{}
	for _, agent := range agentSamples(196, 600, 6) {
		rules := rulesFor(r, agent, 1+r.Intn(6), 3)
		all, fine := []impl.Step{}, true
		for i, rule := range rules {
			steps, ok := impl.StepsOf(house(), []impl.Rule{rule}, agent)
			fine = fine && ok
			for _, step := range steps {
				all = append(all, impl.Step{Rule: i, Match: step.Match, Result: step.Result})
			}
		}
		steps, ok := impl.StepsOf(house(), rules, agent)
		wantAllSteps(t, steps, ok, all, fine, "StepsOf(%v, %v)", rules, agent)
		list := []impl.GuardedRule{}
		for _, rule := range rules {
			list = append(list, impl.GuardedRule{Rule: rule, Priority: 3})
		}
		guarded, ok := impl.GuardedSteps(house(), list, agent)
		wantAllSteps(t, guarded, ok, all, fine, "GuardedSteps without Guards (%v, %v)", rules, agent)
		trace, last, ok := impl.RunFirst(house(), rules, agent, 1)
		if ok != fine || len(trace.Rules) != min(1, len(steps)) || len(steps) > 0 && !isSame(last, steps[0].Result) {
			t.Fatalf("RunFirst(%v, %v, 1) = %v, %v, %v", rules, agent, trace, last, ok)
		}
		for _, step := range steps {
			active, applies := isActiveMatch(t, rules[step.Rule].Redex, agent, step.Match), isStep(t, rules[step.Rule], agent, step.Match)
			got, ok := applied(rules[step.Rule], agent, step.Match)
			wantResult(t, got, ok && active && applies, step.Result, true, "the step %v of %v from %v", step, rules, agent)
		}
		counts[fmt.Sprint(fine, " ", min(2, len(steps)))]++
	}
	wantAtLeast(t, counts, 30, "true 0", "true 1", "true 2")
	wantAtLeast(t, counts, 10, "false 0")
}

func TestGuardsSplitSteps(t *testing.T) {
	t.Parallel()
	r, counts := rand.New(rand.NewSource(197)), map[string]int{}
	for range 1200 {
		redex, agent, _ := filledAgent(r, 6)
		rule, g := randomRule(r, redex), randomGuard(r, agent)
		all, ok := impl.StepsOf(house(), []impl.Rule{rule}, agent)
		if !ok {
			continue
		}
		both := []impl.Step{}
		for _, not := range []bool{false, true} {
			g.Not = not
			steps, ok := impl.GuardedSteps(house(), []impl.GuardedRule{{Rule: rule, Guards: []impl.Guard{g}}}, agent)
			twice, fine := impl.GuardedSteps(house(), []impl.GuardedRule{{Rule: rule, Guards: []impl.Guard{g, g}, Priority: 4}}, agent)
			wantAllSteps(t, twice, fine, steps, ok, "GuardedSteps with the Guard %v twice", g)
			for _, step := range steps {
				holds, fine := impl.GuardHolds(house(), g, rule, agent, step.Match)
				wantReport(t, holds, fine, true, "GuardHolds(%v, %v, %v, %v)", g, rule, agent, step.Match)
			}
			both = append(both, steps...)
			counts[fmt.Sprint(not, " ", len(steps) > 0)]++
		}
		slices.SortFunc(both, func(s, u impl.Step) int { return slices.Compare(s.Match.Nodes, u.Match.Nodes) })
		wantAllSteps(t, both, true, all, true, "the steps of %v from %v with the Guard %v and without it", rule, agent, g)
	}
	wantAtLeast(t, counts, 100, "false true", "false false", "true true", "true false")
}

func TestGuardsOfPartsAreGuardsOfAgents(t *testing.T) {
	t.Parallel()
	r, counts := rand.New(rand.NewSource(198)), map[string]int{}
	for range 2000 {
		redex, agent, m := filledAgent(r, 7)
		rule, g := randomRule(r, redex), randomGuard(r, agent)
		g.Not = false
		holds := map[int]bool{}
		for where := 1; where <= 3; where++ {
			g.Where = where
			is, ok := impl.GuardHolds(house(), g, rule, agent, m)
			if !ok {
				t.Fatalf("GuardHolds(%v, %v, %v, %v) fails", g, rule, agent, m)
			}
			holds[where] = is
		}
		_, found := impl.FirstMatch(house(), g.Pattern, agent)
		if holds[impl.InAgent] != found || !found && (holds[impl.InRest] || holds[impl.InParameter]) {
			t.Fatalf("%v has a Match in %v: %v, and as a Guard at %v: %v", g.Pattern, agent, found, m, holds)
		}
		counts[fmt.Sprint(holds)]++
	}
	wantAtLeast(t, counts, 20, "map[1:true 2:true 3:false]", "map[1:true 2:false 3:true]", "map[1:true 2:false 3:false]", "map[1:false 2:false 3:false]", "map[1:true 2:true 3:true]")
}

func TestTracesProveWhatTheyReach(t *testing.T) {
	t.Parallel()
	r, counts := rand.New(rand.NewSource(199)), map[string]int{}
	for _, agent := range agentSamples(200, 1000, 5) {
		rules := rulesFor(r, agent, 2, 3)
		trace, last, ok := impl.RunFirst(house(), rules, agent, 4)
		if !ok {
			continue
		}
		proves, ok := impl.ProvesReach(house(), rules, agent, trace, shuffled(r, last))
		wantReport(t, proves, ok, true, "ProvesReach(%v, %v, %v, %v)", rules, agent, trace, last)
		for n := range len(trace.Rules) + 1 {
			prefix := impl.Trace{Rules: trace.Rules[:n], Matches: trace.Matches[:n]}
			first, end, ok := impl.RunFirst(house(), rules, agent, n)
			got, played, fine := impl.PlayTrace(house(), rules, agent, prefix)
			wantResult(t, got, fine && played == n, end, ok, "PlayTrace(%v, %v, %v)", rules, agent, prefix)
			if !isSameTrace(first, prefix) {
				t.Fatalf("RunFirst(%v, %v, %d) = %v; want %v", rules, agent, n, first, prefix)
			}
			// The remaining steps lead from there to the end.
			rest := impl.Trace{Rules: trace.Rules[n:], Matches: trace.Matches[n:]}
			got, played, fine = impl.PlayTrace(house(), rules, end, rest)
			wantResult(t, got, fine && played == len(rest.Rules), last, true, "PlayTrace(%v, %v, %v)", rules, end, rest)
		}
		same, _ := impl.AreIsomorphic(house(), agent, last)
		proves, ok = impl.ProvesReach(house(), rules, agent, trace, agent)
		wantReport(t, proves, ok, same, "ProvesReach(%v, %v, %v) of the first agent", rules, agent, trace)
		stuck, ok := impl.IsStuck(house(), rules, last)
		if len(trace.Rules) < 4 && (!ok || !stuck) {
			t.Fatalf("RunFirst(%v, %v, 4) stops behind %d steps at %v", rules, agent, len(trace.Rules), last)
		}
		counts[fmt.Sprint(min(2, len(trace.Rules)), " ", same)]++
	}
	wantAtLeast(t, counts, 20, "0 true", "1 false", "2 false")
	wantAtLeast(t, counts, 5, "2 true")
}

func TestIsomorphicAgentsHaveIsomorphicSteps(t *testing.T) {
	t.Parallel()
	r, counts := rand.New(rand.NewSource(201)), map[string]int{}
	for _, agent := range agentSamples(202, 500, 5) {
		rules := rulesFor(r, agent, 1+r.Intn(3), 3)
		one, ok := impl.StepsOf(house(), rules, agent)
		two, fine := impl.StepsOf(house(), rules, shuffled(r, agent))
		if ok != fine || len(one) != len(two) {
			t.Fatalf("StepsOf(%v, %v) = %v, %v; with other numbers: %v, %v", rules, agent, one, ok, two, fine)
		}
		forms := func(steps []impl.Step) []string {
			list := []string{}
			for _, step := range steps {
				list = append(list, fmt.Sprint(step.Rule, " ", canonicalText(t, step.Result)))
			}
			slices.Sort(list)
			return list
		}
		if !slices.Equal(forms(one), forms(two)) {
			t.Fatalf("the steps of %v from %v lead to %v; with other numbers: %v", rules, agent, forms(one), forms(two))
		}
		counts[fmt.Sprint(min(2, len(one)))]++
	}
	wantAtLeast(t, counts, 30, "0", "1", "2")
}

func TestRulesWithOtherNumbersLeadTheSameWay(t *testing.T) {
	t.Parallel()
	r, counts := rand.New(rand.NewSource(203)), map[string]int{}
	for range 1500 {
		redex, agent, m := filledAgent(r, 6)
		rule := randomRule(r, redex)
		result, ok := applied(rule, agent, m)
		to, edges := randomNumbers(r, redex)
		other := impl.Rule{Redex: renumbered(redex, to, edges), Reactum: shuffled(r, rule.Reactum), Copies: rule.Copies}
		moved := impl.Match{Nodes: make([]int, len(to)), Roots: m.Roots}
		for k, number := range to {
			moved.Nodes[number] = m.Nodes[k]
		}
		got, fine := applied(other, agent, moved)
		if ok != fine {
			t.Fatalf("ApplyRule(%v, %v, %v) = %v, %v; with other numbers %v, %v", rule, agent, m, result, ok, got, fine)
		}
		if ok {
			same, _ := impl.AreIsomorphic(house(), result, got)
			if !same {
				t.Fatalf("%v leads from %v at %v to %v; with other numbers to %v", rule, agent, m, result, got)
			}
			counts["same"]++
		}
	}
	wantAtLeast(t, counts, 1000, "same")
}
