package tests

import (
	"fmt"
	"math/rand"
	"slices"
	"testing"

	"loop.example/g01082/impl"
)

// labelledLaws are Labelled systems of all sizes: random ones, ones with copies of states, and those
// of explored Systems.
func labelledLaws(t *testing.T, seed int64, count int) []impl.Labelled {
	t.Helper()
	r := rand.New(rand.NewSource(seed))
	list := append(labelledSamples(seed+1, count, 12), labelledSamples(seed+2, count/5, 40)...)
	for _, s := range exploredSamples(t, seed+3, count/3) {
		pattern, _ := redexIn(r, s.agent, 2)
		patterns, actions := []impl.Bigraph{pattern}, plainActions()
		if r.Intn(2) == 0 {
			actions = []int{r.Intn(2), r.Intn(3), 0, 0, 0, 0}
		}
		l, ok := impl.LabelSystem(house(), s.x, patterns, actions)
		if !ok {
			t.Fatalf("LabelSystem(%v, %v, %v) fails", s.x, patterns, actions)
		}
		list = append(list, l)
	}
	return list
}

func leastBisimilar(t *testing.T, l impl.Labelled) []int {
	t.Helper()
	least, ok := impl.BisimilarOf(l)
	if !ok || len(least) != len(l.Shows) {
		t.Fatalf("BisimilarOf(%v) = %v, %v", l, least, ok)
	}
	for state, other := range least {
		if other > state || least[other] != other {
			t.Fatalf("BisimilarOf(%v) = %v", l, least)
		}
	}
	return least
}

func satisfying(t *testing.T, l impl.Labelled, f []int) []int {
	t.Helper()
	states, ok := impl.Satisfying(l, f)
	if !ok || !climbs(states, 0, len(l.Shows)-1) {
		t.Fatalf("Satisfying(%v, %v) = %v, %v", l, f, states, ok)
	}
	return states
}

// shortFormulas are all formulas of at most so many numbers with two marks and two actions.
func shortFormulas(size int) [][]int {
	list := [][]int{{0}, {1, 0}, {1, 1}}
	if size > 1 {
		for _, f := range shortFormulas(size - 1) {
			list = append(list, append([]int{2}, f...))
			if len(f)+2 <= size {
				list = append(list, append([]int{4, 0}, f...), append([]int{4, 1}, f...))
			}
			for _, g := range shortFormulas(size - 1) {
				if len(f)+len(g)+1 <= size {
					list = append(list, slices.Concat([]int{3}, f, g))
				}
			}
		}
	}
	slices.SortFunc(list, slices.Compare)
	return slices.CompactFunc(list, slices.Equal)
}

func TestBisimilarStatesSatisfyTheSameFormulas(t *testing.T) {
	t.Parallel()
	r, counts, short := rand.New(rand.NewSource(290)), map[string]int{}, shortFormulas(5)
	for i, l := range labelledLaws(t, 291, 400) {
		least := leastBisimilar(t, l)
		formulas := [][]int{}
		for range 20 {
			formulas = append(formulas, randomFormula(r, 1+r.Intn(40)), pick(r, short))
		}
		if i%40 == 0 {
			formulas = append(formulas, short...)
		}
		for _, f := range formulas {
			states := satisfying(t, l, f)
			for state, other := range least {
				if slices.Contains(states, state) != slices.Contains(states, other) {
					t.Fatalf("%d and %d of %v are bisimilar, and just %v satisfy %v", state, other, l, states, f)
				}
				counts[fmt.Sprint("other ", state != other)]++
			}
			counts[fmt.Sprint("some ", len(states) > 0 && len(states) < len(l.Shows))]++
		}
	}
	wantAtLeast(t, counts, 1000, "other true", "other false", "some true", "some false")
}

func TestTellApartTellsStatesApart(t *testing.T) {
	t.Parallel()
	counts := map[string]int{}
	for _, l := range labelledLaws(t, 300, 400) {
		least := leastBisimilar(t, l)
		for s := range l.Shows {
			for u := range l.Shows {
				f, ok := impl.TellApart(l, s, u)
				if least[s] == least[u] {
					wantFailures(t, [][]any{{f, ok}}, "TellApart(%v, %d, %d)", l, s, u)
					counts["bisimilar"]++
					continue
				}
				if !ok {
					// There is no bound but that of formulas.
					if len(tellsOf(l)[[2]int{s, u}]) > 0 {
						t.Fatalf("TellApart(%v, %d, %d) fails", l, s, u)
					}
					counts["too long"]++
					continue
				}
				states := satisfying(t, l, f)
				if !impl.IsFormula(f) || !slices.Contains(states, s) || slices.Contains(states, u) {
					t.Fatalf("TellApart(%v, %d, %d) = %v, which %v satisfy", l, s, u, f, states)
				}
				counts["told"]++
			}
		}
	}
	wantAtLeast(t, counts, 500, "bisimilar", "told")
}

func TestStatesAreBisimilarToTheirQuotients(t *testing.T) {
	t.Parallel()
	counts := map[string]int{}
	for _, l := range labelledLaws(t, 310, 600) {
		small, ok := impl.QuotientOf(l)
		if !ok || !impl.IsLabelled(small) {
			t.Fatalf("QuotientOf(%v) = %v, %v", l, small, ok)
		}
		least, firsts := leastBisimilar(t, l), []int{}
		for state, other := range least {
			if state == other {
				firsts = append(firsts, state)
			}
		}
		// No two of its states are bisimilar, so that its quotient is itself.
		wantInts(t, leastBisimilar(t, small), true, numbersFrom(0, len(firsts)), true, "BisimilarOf(%v)", small)
		again, ok := impl.QuotientOf(small)
		wantLabelled(t, again, ok, small, true, "QuotientOf(%v)", small)
		counts[fmt.Sprint("smaller ", len(firsts) < len(l.Shows))]++
		if len(l.Shows)+len(firsts) > 40 {
			continue
		}
		both, ok := impl.UnionOf(l, small)
		if !ok {
			t.Fatalf("UnionOf(%v, %v) fails", l, small)
		}
		all, pairs := leastBisimilar(t, both), [][2]int{}
		for state, other := range least {
			quotient := len(l.Shows) + slices.Index(firsts, other)
			if all[quotient] != other || all[state] != other {
				t.Fatalf("BisimilarOf(%v) = %v; %d is not bisimilar to %d", both, all, state, quotient)
			}
			pairs = append(pairs, [2]int{state, quotient})
		}
		is, ok := impl.IsBisimulation(both, pairs)
		wantReport(t, is, ok, true, "IsBisimulation(%v, %v)", both, pairs)
		counts["both"]++
	}
	wantAtLeast(t, counts, 100, "smaller true", "smaller false", "both")
}

func TestBisimilarStatesAreWeaklyBisimilarAndSimulated(t *testing.T) {
	t.Parallel()
	counts := map[string]int{}
	for _, l := range labelledLaws(t, 320, 400) {
		least := leastBisimilar(t, l)
		weak, ok := impl.WeaklyBisimilarOf(l)
		full, fine := impl.SaturateLabels(l)
		if !ok || !fine {
			t.Fatalf("WeaklyBisimilarOf(%v) or SaturateLabels fails", l)
		}
		wantInts(t, weak, true, leastBisimilar(t, full), true, "WeaklyBisimilarOf(%v)", l)
		again, ok := impl.SaturateLabels(full)
		wantLabelled(t, again, ok, full, true, "SaturateLabels(%v)", full)
		for s := range l.Shows {
			for u := range l.Shows {
				there, ok := impl.IsSimulated(l, s, u)
				back, fine := impl.IsSimulated(l, u, s)
				if !ok || !fine || least[s] == least[u] && (weak[s] != weak[u] || !there || !back) {
					t.Fatalf("%d and %d of %v are bisimilar: %v; weakly: %v; simulated: %v, %v", s, u, l, least[s] == least[u], weak[s] == weak[u], there, back)
				}
				counts[fmt.Sprint("strong ", least[s] == least[u], ", weak ", weak[s] == weak[u])]++
				counts[fmt.Sprint("strong ", least[s] == least[u], ", simulated ", there && back)]++
			}
		}
	}
	wantAtLeast(t, counts, 100, "strong true, weak true", "strong false, weak true", "strong false, weak false", "strong true, simulated true", "strong false, simulated true", "strong false, simulated false")
}

// Each bisimulation relates bisimilar states alone, and the relation of all bisimilar states is one.
func TestBisimulationsRelateBisimilarStates(t *testing.T) {
	t.Parallel()
	r, counts := rand.New(rand.NewSource(330)), map[string]int{}
	for _, l := range labelledSamples(331, 1500, 4) {
		n, least, whole := len(l.Shows), leastBisimilar(t, l), [][2]int{}
		for s := range n {
			for u := range n {
				if least[s] == least[u] {
					whole = append(whole, [2]int{s, u})
				}
			}
		}
		is, ok := impl.IsBisimulation(l, whole)
		wantReport(t, is, ok, true, "IsBisimulation(%v, %v)", l, whole)
		for range 10 {
			pairs := [][2]int{}
			for range 1 + r.Intn(5) {
				pairs = append(pairs, [2]int{r.Intn(n), r.Intn(n)})
			}
			is, ok := impl.IsBisimulation(l, pairs)
			if !ok || is && slices.ContainsFunc(pairs, func(pair [2]int) bool { return least[pair[0]] != least[pair[1]] }) {
				t.Fatalf("IsBisimulation(%v, %v) = %v, %v; bisimilar are %v", l, pairs, is, ok, least)
			}
			// The inverse relation is one exactly if the relation is.
			inverse := [][2]int{}
			for _, pair := range pairs {
				inverse = append(inverse, [2]int{pair[1], pair[0]})
			}
			other, ok := impl.IsBisimulation(l, inverse)
			wantReport(t, other, ok, is, "IsBisimulation(%v, %v), the inverse of another relation,", l, inverse)
			counts[fmt.Sprint("random ", is)]++
		}
	}
	wantAtLeast(t, counts, 500, "random true", "random false")
}

func TestSimulationsAreClosed(t *testing.T) {
	t.Parallel()
	counts := map[string]int{}
	for _, l := range labelledSamples(332, 400, 7) {
		n, is := len(l.Shows), [7][7]bool{}
		for s := range n {
			for u := range n {
				is[s][u], _ = impl.IsSimulated(l, s, u)
			}
		}
		for s := range n {
			if !is[s][s] {
				t.Fatalf("IsSimulated(%v, %d, %d) = false", l, s, s)
			}
			for u := range n {
				for v := range n {
					if is[s][u] && is[u][v] && !is[s][v] {
						t.Fatalf("%d is simulated by %d, and that by %d in %v, but not %d by %d", s, u, v, l, s, v)
					}
				}
				counts[fmt.Sprint(is[s][u], " ", is[u][s])]++
			}
		}
	}
	wantAtLeast(t, counts, 100, "true true", "true false", "false true", "false false")
}

// Copies of a state are bisimilar to it, and other numbers of states change nothing else.
func TestCopiesAreBisimilar(t *testing.T) {
	t.Parallel()
	r := rand.New(rand.NewSource(333))
	for _, l := range labelledSamples(334, 500, 8) {
		n := len(l.Shows)
		least := leastBisimilar(t, l)
		big, of := blownUp(r, l, n+r.Intn(20))
		found := leastBisimilar(t, big)
		for s := range found {
			for u := range found {
				if (found[s] == found[u]) != (least[of[s]] == least[of[u]]) {
					t.Fatalf("BisimilarOf(%v) = %v; %d and %d are copies of %d and %d of %v", big, found, s, u, of[s], of[u], l)
				}
			}
		}
	}
}

// alikeInAll reports whether two agents are alike in all of some contexts, where AlikeIn does not
// fail.
func alikeInAll(t *testing.T, rules []impl.Rule, patterns []impl.Bigraph, contexts []impl.Bigraph, a impl.Bigraph, b impl.Bigraph, counts map[string]int) {
	t.Helper()
	alike, ok := impl.AlikeIn(house(), rules, patterns, contexts, a, b, 20)
	if !ok {
		counts["failed"]++
		return
	}
	if len(alike) != len(contexts) || slices.Contains(alike, false) {
		t.Fatalf("AlikeIn(%v, %v, %v, %v, %v) = %v", rules, patterns, contexts, a, b, alike)
	}
	counts["alike"]++
}

func TestIsomorphicAgentsAreAlike(t *testing.T) {
	t.Parallel()
	r, counts := rand.New(rand.NewSource(335)), map[string]int{}
	for _, s := range exploredSamples(t, 336, 300) {
		patterns := []impl.Bigraph{}
		for _, b := range s.x.States[:min(3, len(s.x.States))] {
			if len(b.Nodes) == 0 {
				continue
			}
			pattern, _ := redexIn(r, b, 2)
			patterns = append(patterns, pattern)
		}
		form, _ := impl.CanonicalOf(house(), s.agent)
		whole := []impl.Bigraph{identityAs(s.agent.Roots, s.agent.Outer)}
		alikeInAll(t, s.rules, patterns, whole, s.agent, form, counts)
		alikeInAll(t, s.rules, patterns, contextsFor(r, s.agent, 1+r.Intn(4)), s.agent, shuffled(r, s.agent), counts)
	}
	wantAtLeast(t, counts, 50, "alike", "failed")
}

// Agents are alike in a context exactly if the wholes are alike in the identity.
func TestAlikeInContextsAsWholes(t *testing.T) {
	t.Parallel()
	r, counts := rand.New(rand.NewSource(337)), map[string]int{}
	for _, a := range agentSamples(338, 600, 3) {
		b := a
		if len(a.Nodes) > 1 {
			b = cloneOf(a)
			b.Nodes = b.Nodes[:len(b.Nodes)-1]
		}
		context := contextsFor(r, a, 1)[0]
		rules := rulesOf(t, pick(r, []string{dropDot, openRoom, dropKey}), pick(r, []string{sameDot, dotRoom, closeKeys}))
		alike, ok := impl.AlikeIn(house(), rules, nil, []impl.Bigraph{context}, a, b, 20)
		first, _ := composition(context, a)
		second, _ := composition(context, b)
		wholes, fine := impl.AlikeIn(house(), rules, nil, []impl.Bigraph{identityAs(context.Roots, context.Outer)}, first, second, 20)
		if ok {
			wantBools(t, wholes, fine, alike, true, "AlikeIn of %v and %v in the identity", first, second)
			counts[fmt.Sprint(alike)]++
		}
		if other, again := impl.AlikeIn(house(), rules, nil, []impl.Bigraph{context}, b, a, 20); again != ok || !slices.Equal(other, alike) {
			t.Fatalf("AlikeIn of %v and %v = %v, %v, and %v, %v the other way round", a, b, alike, ok, other, again)
		}
	}
	wantAtLeast(t, counts, 50, "[true]", "[false]")
}

// The steps of a context after an agent have the Steps of the System that is explored from there.
func TestContextStepsAreStepsOfSystems(t *testing.T) {
	t.Parallel()
	r, counts := rand.New(rand.NewSource(339)), map[string]int{}
	for _, s := range exploredSamples(t, 340, 300) {
		context := contextsFor(r, s.agent, 1)[0]
		whole, ok := composition(context, s.agent)
		if !ok {
			continue
		}
		x, ok := impl.ExploreSystem(house(), s.rules, whole, 40)
		if !ok {
			continue
		}
		steps, ok := impl.ContextSteps(house(), s.rules, []impl.Bigraph{context, context}, s.agent)
		if !ok {
			t.Fatalf("ContextSteps(%v, %v, %v) fails", s.rules, context, s.agent)
		}
		got := [][3]int{}
		for _, step := range steps {
			got = append(got, [3]int{step.Context, step.Rule, stateOf(t, x, step.Result)})
			if !impl.IsCanonical(house(), step.Result) {
				t.Fatalf("ContextSteps(%v, %v, %v) leads to %v", s.rules, context, s.agent, step.Result)
			}
		}
		want := [][3]int{}
		for i := range 2 {
			for _, step := range x.Steps {
				if step[0] == 0 {
					want = append(want, [3]int{i, step[1], step[2]})
				}
			}
		}
		// Each one is there once.
		count := len(got)
		wantWay(t, inOrder(got), true, want, true, "ContextSteps(%v, %v, %v)", s.rules, context, s.agent)
		if count != len(want) {
			t.Fatalf("ContextSteps(%v, %v, %v) = %v", s.rules, context, s.agent, steps)
		}
		counts[fmt.Sprint(min(3, len(want)/2))]++
	}
	wantAtLeast(t, counts, 10, "1", "2", "3")
}
