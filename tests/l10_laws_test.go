package tests

import (
	"fmt"
	"math/rand"
	"slices"
	"testing"

	"loop.example/g01082/impl"
)

// exploredSample is a System with the Rules and the agent from which it was explored.
type exploredSample struct {
	rules []impl.Rule
	agent impl.Bigraph
	x     impl.System
}

// exploredSamples explores many agents, of all sizes, and keeps those with more than one state.
func exploredSamples(t *testing.T, seed int64, count int) []exploredSample {
	t.Helper()
	r, list := rand.New(rand.NewSource(seed)), []exploredSample{}
	texts := []string{growDot, sameDot, dropRoom, openRoom, copyRoom, dropKey, copyKey, closeKeys, dropDot, dotRoom, roomDot, freeDots}
	for len(list) < count {
		agent := agentOf(r, 8)
		if len(agent.Nodes) == 0 {
			continue
		}
		rules := rulesFor(r, agent, 1+r.Intn(3), 3)
		if r.Intn(2) == 0 {
			rules = rulesOf(t, pick(r, texts), pick(r, texts), pick(r, texts))
		}
		if x, ok := impl.ExploreSystem(house(), rules, agent, 40); ok && len(x.States) > 1 {
			list = append(list, exploredSample{rules, agent, x})
		}
	}
	return list
}

func stateOf(t *testing.T, x impl.System, agent impl.Bigraph) int {
	t.Helper()
	state, ok := impl.StateOf(house(), x, agent)
	if !ok {
		t.Fatalf("StateOf(%v, %v) fails", x, agent)
	}
	return state
}

func reachedBy(t *testing.T, x impl.System, from int) []int {
	t.Helper()
	states, ok := impl.ReachedFrom(x, from)
	if !ok || !slices.Contains(states, from) {
		t.Fatalf("ReachedFrom(%v, %d) = %v, %v", x, from, states, ok)
	}
	return states
}

func TestExploredSystemsAreWhole(t *testing.T) {
	t.Parallel()
	r, counts := rand.New(rand.NewSource(220)), map[string]int{}
	for _, s := range exploredSamples(t, 221, 400) {
		n := len(s.x.States)
		whole, ok := impl.IsWhole(house(), s.rules, s.x)
		wantReport(t, whole, ok, true, "IsWhole(%v, %v)", s.rules, s.x)
		wantInts(t, reachedBy(t, s.x, 0), true, numbersFrom(0, n), true, "ReachedFrom the first state of %v", s.x)
		for state, b := range s.x.States {
			if !impl.IsCanonical(house(), b) || stateOf(t, s.x, shuffled(r, b)) != state {
				t.Fatalf("the state %d of %v is not canonical, or not found", state, s.x)
			}
		}
		if stateOf(t, s.x, s.agent) != 0 {
			t.Fatalf("the first state of %v is not %v", s.x, s.agent)
		}
		// The System is the same for isomorphic agents, and just as many states are needed.
		other := shuffled(r, s.agent)
		for _, most := range []int{n, min(40, n+1), 40} {
			x, ok := impl.ExploreSystem(house(), s.rules, other, most)
			wantSystem(t, x, ok, s.x, true, "ExploreSystem(%v, %v, %d)", s.rules, other, most)
		}
		x, ok := impl.ExploreSystem(house(), s.rules, other, n-1)
		wantSystem(t, x, ok, s.x, false, "ExploreSystem(%v, %v, %d)", s.rules, other, n-1)
		// Without one of its Steps it is not whole.
		less := cloneOfSystem(s.x)
		at := r.Intn(len(less.Steps))
		less.Steps = slices.Delete(less.Steps, at, at+1)
		whole, ok = impl.IsWhole(house(), s.rules, less)
		wantReport(t, whole, ok, false, "IsWhole(%v, %v)", s.rules, less)
		counts[fmt.Sprint("states ", n > 5)]++
		counts[fmt.Sprint("other numbers ", !isSame(other, s.agent))]++
	}
	wantAtLeast(t, counts, 50, "states true", "states false", "other numbers true")
}

// The states that a state reaches are those of the System that is explored from it.
func TestSystemsOfStatesAreParts(t *testing.T) {
	t.Parallel()
	r := rand.New(rand.NewSource(222))
	for _, s := range exploredSamples(t, 223, 250) {
		from := r.Intn(len(s.x.States))
		part, ok := impl.ExploreSystem(house(), s.rules, s.x.States[from], 40)
		if !ok {
			t.Fatalf("ExploreSystem(%v, %v) fails", s.rules, s.x.States[from])
		}
		to := []int{}
		for _, b := range part.States {
			to = append(to, stateOf(t, s.x, b))
		}
		reached := reachedBy(t, s.x, from)
		wantInts(t, slices.Sorted(slices.Values(to)), true, reached, true, "the states of %v, which are in %v,", part, s.x)
		steps := [][3]int{}
		for _, step := range part.Steps {
			steps = append(steps, [3]int{to[step[0]], step[1], to[step[2]]})
		}
		want := slices.DeleteFunc(slices.Clone(s.x.Steps), func(step [3]int) bool { return !slices.Contains(reached, step[0]) })
		wantWay(t, inOrder(steps), true, want, true, "the Steps of %v, which are in %v,", part, s.x)
	}
}

func TestRunsStayInSystems(t *testing.T) {
	t.Parallel()
	counts := map[string]int{}
	for _, s := range exploredSamples(t, 224, 300) {
		trace, last, ok := impl.RunFirst(house(), s.rules, s.agent, 20)
		if !ok {
			t.Fatalf("RunFirst(%v, %v) fails", s.rules, s.agent)
		}
		// The states to which the run comes make a way, whose word are the Rules of the Trace.
		way, state, agent := [][3]int{}, 0, s.agent
		for n, rule := range trace.Rules {
			agent, _, _ = impl.PlayTrace(house(), s.rules, agent, impl.Trace{Rules: []int{rule}, Matches: trace.Matches[n : n+1]})
			to := stateOf(t, s.x, agent)
			way, state = append(way, [3]int{state, rule, to}), to
		}
		wantResult(t, last, ok, agent, true, "RunFirst(%v, %v)", s.rules, s.agent)
		is, ok := impl.IsWay(s.x, 0, way)
		wantReport(t, is, ok, true, "IsWay(%v, 0, %v)", s.x, way)
		word, ok := impl.RuleWord(s.x, way)
		wantInts(t, word, ok, trace.Rules, true, "RuleWord(%v, %v)", s.x, way)
		ends, _ := impl.EndStates(s.x)
		stuck, _ := impl.IsStuck(house(), s.rules, last)
		if slices.Contains(ends, state) != stuck || !stuck && len(trace.Rules) < 20 {
			t.Fatalf("RunFirst(%v, %v) stops behind %d steps in the state %d of %v", s.rules, s.agent, len(trace.Rules), state, s.x)
		}
		counts[fmt.Sprint("stuck ", stuck)]++
	}
	wantAtLeast(t, counts, 50, "stuck true", "stuck false")
}

// Each way in an explored System is played by some Trace, up to isomorphism.
func TestWaysInSystemsAreTraces(t *testing.T) {
	t.Parallel()
	r, counts := rand.New(rand.NewSource(225)), map[string]int{}
	for _, s := range exploredSamples(t, 226, 200) {
		goal := r.Intn(len(s.x.States))
		way, ok := impl.ShortestWay(s.x, 0, []int{goal})
		if !ok || len(way) > 20 {
			t.Fatalf("ShortestWay(%v, 0, %d) = %v, %v", s.x, goal, way, ok)
		}
		trace, agent := impl.Trace{}, s.agent
		for _, step := range way {
			steps, _ := impl.StepsOf(house(), s.rules, agent)
			next := slices.IndexFunc(steps, func(u impl.Step) bool { return u.Rule == step[1] && stateOf(t, s.x, u.Result) == step[2] })
			if next < 0 {
				t.Fatalf("the Step %v of %v is no step of %v", step, s.x, agent)
			}
			trace.Rules, trace.Matches = append(trace.Rules, step[1]), append(trace.Matches, steps[next].Match)
			agent = steps[next].Result
		}
		proves, ok := impl.ProvesReach(house(), s.rules, s.agent, trace, s.x.States[goal])
		wantReport(t, proves, ok, true, "ProvesReach(%v, %v, %v) of the state %d of %v", s.rules, s.agent, trace, goal, s.x)
		counts[fmt.Sprint(min(3, len(way)))]++
	}
	wantAtLeast(t, counts, 10, "0", "1", "2", "3")
}

// lawSystems are Systems of all sizes, with Steps alone.
func lawSystems(seed int64, count int) []impl.System {
	r, list := rand.New(rand.NewSource(seed)), []impl.System{twoLoops(), manyWays(), stepsOnly(40)}
	for range count {
		n := 1 + r.Intn(40)
		list = append(list, randomSystem(r, n, 2*n, 6), randomSystem(r, n, n*n, 2))
	}
	return list
}

func TestShortestWaysAreShortest(t *testing.T) {
	t.Parallel()
	r, counts := rand.New(rand.NewSource(227)), map[string]int{}
	for _, x := range lawSystems(228, 500) {
		n := len(x.States)
		from, goals := r.Intn(n), []int{r.Intn(n)}
		if r.Intn(3) == 0 {
			goals = randomStates(r, n)
		}
		reached := reachedBy(t, x, from)
		way, ok := impl.ShortestWay(x, from, goals)
		if ok != haveState(goals, reached) {
			t.Fatalf("ShortestWay(%v, %d, %v) = %v, %v; the states %v are reached", x, from, goals, way, ok, reached)
		}
		if !ok {
			counts["none"]++
			continue
		}
		is, ok := impl.IsWay(x, from, way)
		end, _ := endOf(x, from, way)
		if !ok || !is || !slices.Contains(goals, end) || len(way) >= n {
			t.Fatalf("ShortestWay(%v, %d, %v) = %v", x, from, goals, way)
		}
		// No state that fewer Steps reach is a goal, and no lesser Step leads on as quickly.
		near := []int{from}
		for k, step := range way {
			if haveState(near, goals) {
				t.Fatalf("ShortestWay(%v, %d, %v) = %v; a goal is nearer", x, from, goals, way)
			}
			for _, s := range x.Steps {
				rest, ok := impl.ShortestWay(x, s[2], goals)
				if s[0] == step[0] && compareAs(s, step) < 0 && ok && len(rest) < len(way)-k {
					t.Fatalf("ShortestWay(%v, %d, %v) = %v; %v comes first", x, from, goals, way, s)
				}
			}
			further := slices.Clone(near)
			for _, s := range x.Steps {
				if slices.Contains(near, s[0]) {
					further = append(further, s[2])
				}
			}
			near = further
		}
		counts[fmt.Sprint(min(3, len(way)))]++
	}
	wantAtLeast(t, counts, 20, "none", "0", "1", "2", "3")
}

func haveState(list []int, others []int) bool {
	return slices.ContainsFunc(list, func(state int) bool { return slices.Contains(others, state) })
}

func TestReachedStatesAreClosed(t *testing.T) {
	t.Parallel()
	r, counts := rand.New(rand.NewSource(229)), map[string]int{}
	for _, x := range lawSystems(230, 250) {
		from := r.Intn(len(x.States))
		reached := reachedBy(t, x, from)
		closed, ok := impl.IsClosedSet(x, reached)
		wantReport(t, closed, ok, true, "IsClosedSet(%v, %v)", x, reached)
		always, ok := impl.AlwaysHas(x, from, reached)
		wantReport(t, always, ok, true, "AlwaysHas(%v, %d, %v)", x, from, reached)
		loops, _ := impl.LoopsOf(x)
		ends, _ := impl.EndStates(x)
		for k, state := range reached {
			// A set that lacks one of them has not all, and is closed only if it lacks the first state.
			less := slices.Delete(slices.Clone(reached), k, k+1)
			always, ok := impl.AlwaysHas(x, from, less)
			wantReport(t, always, ok, false, "AlwaysHas(%v, %d, %v)", x, from, less)
			closed, ok := impl.IsClosedSet(x, less)
			if !ok || closed && state != from {
				t.Fatalf("IsClosedSet(%v, %v) = %v, %v", x, less, closed, ok)
			}
			// Two states are in one loop exactly if they reach the same states.
			same := slices.Equal(reachedBy(t, x, state), reached)
			if (loops[state] == loops[from]) != same || loops[state] > state || loops[loops[state]] != loops[state] {
				t.Fatalf("LoopsOf(%v) = %v; %d and %d reach the same: %v", x, loops, state, from, same)
			}
			if slices.Contains(ends, state) && len(reachedBy(t, x, state)) != 1 {
				t.Fatalf("EndStates(%v) = %v, but %d reaches others", x, ends, state)
			}
			counts[fmt.Sprint("same ", same)]++
		}
	}
	wantAtLeast(t, counts, 100, "same true", "same false")
}

func TestRanksAreTheLeastRanking(t *testing.T) {
	t.Parallel()
	r, counts := rand.New(rand.NewSource(231)), map[string]int{}
	for _, x := range lawSystems(232, 300) {
		n := len(x.States)
		goals, _ := impl.EndStates(x)
		if r.Intn(2) == 0 {
			goals = randomStates(r, n)
		}
		ranks := wantRanking(t, x, goals)
		for range 5 {
			// Greater numbers, and none for some states, as far as a ranking allows it.
			other := slices.Clone(ranks)
			for state := range other {
				if r.Intn(6) == 0 || slices.Contains(goals, state) {
					other[state] += r.Intn(4)
				}
			}
			wantNotLess(t, x, goals, ranks, other, counts)
			for state := range other {
				other[state] = 3*other[state] + r.Intn(2)
			}
			wantNotLess(t, x, goals, ranks, other, counts)
		}
	}
	wantAtLeast(t, counts, 100, "true", "false")
}

func TestRanksAreTheLeastOfAllSmallRankings(t *testing.T) {
	t.Parallel()
	counts := map[string]int{}
	for _, x := range slices.Concat(allSystems(2, 1), allSystems(3, 1)) {
		n := len(x.States)
		for _, goals := range partsOfList(numbersFrom(0, n)) {
			ranks := wantRanking(t, x, goals)
			for _, other := range listsOfNumbers(-1, 3, 3) {
				if len(other) == n {
					wantNotLess(t, x, goals, ranks, other, counts)
				}
			}
		}
	}
	wantAtLeast(t, counts, 10000, "true", "false")
}

// wantRanking checks that RanksOf is a ranking, and returns it.
func wantRanking(t *testing.T, x impl.System, goals []int) []int {
	t.Helper()
	ranks, ok := impl.RanksOf(x, goals)
	is, fine := impl.IsRanking(x, goals, ranks)
	wantReport(t, is, ok && fine, true, "IsRanking(%v, %v, %v), which RanksOf returns,", x, goals, ranks)
	return ranks
}

// wantNotLess checks that no ranking has a number of at least 0 for a state that is no goal where
// RanksOf has none, or a greater one.
func wantNotLess(t *testing.T, x impl.System, goals []int, ranks []int, other []int, counts map[string]int) {
	t.Helper()
	is, ok := impl.IsRanking(x, goals, other)
	if !ok {
		t.Fatalf("IsRanking(%v, %v, %v) fails", x, goals, other)
	}
	for state, number := range other {
		if is && number >= 0 && !slices.Contains(goals, state) && (ranks[state] < 0 || ranks[state] > number) {
			t.Fatalf("RanksOf(%v, %v) = %v, but %v is a ranking", x, goals, ranks, other)
		}
	}
	counts[fmt.Sprint(is)]++
}

// Each way from a state with a number comes to a goal with at most so many Steps, and one of them
// needs as many.
func TestRankingsProveThatGoalsAreReached(t *testing.T) {
	t.Parallel()
	r, counts := rand.New(rand.NewSource(233)), map[string]int{}
	for range 800 {
		x := randomSystem(r, 1+r.Intn(8), 12, 2)
		goals := randomStates(r, len(x.States))
		if r.Intn(2) == 0 {
			goals = endsAs(x)
		}
		for state, rank := range wantRanking(t, x, goals) {
			longest := longestBeforeGoals(x, state, goals)
			if rank >= 0 && longest != rank || rank < 0 && longest >= 0 {
				t.Fatalf("RanksOf(%v, %v) has %d for %d, and the longest way before a goal has %d Steps", x, goals, rank, state, longest)
			}
			counts[fmt.Sprint(min(3, rank))]++
		}
	}
	wantAtLeast(t, counts, 20, "-1", "0", "1", "2", "3")
}

// longestBeforeGoals is the greatest number of Steps that ways need to come to a goal, or -1 if one
// ends before, or goes on for more Steps than there are states.
func longestBeforeGoals(x impl.System, from int, goals []int) int {
	open := []int{from}
	for length := range len(x.States) + 1 {
		next := []int{}
		for _, state := range open {
			if slices.Contains(goals, state) {
				continue
			}
			if slices.Contains(endsAs(x), state) {
				return -1
			}
			for _, s := range x.Steps {
				if s[0] == state && !slices.Contains(next, s[2]) {
					next = append(next, s[2])
				}
			}
		}
		if len(next) == 0 {
			return length
		}
		open = next
	}
	return -1
}

func TestCountsAreSumsOverSteps(t *testing.T) {
	t.Parallel()
	r, counts := rand.New(rand.NewSource(234)), map[string]int{}
	for _, x := range lawSystems(235, 250) {
		from, length := r.Intn(len(x.States)), r.Intn(60)
		sum, fits := 0, true
		for _, s := range x.Steps {
			if s[0] == from {
				count, ok := impl.CountWays(x, s[2], length)
				sum, fits = sum+count, fits && ok
			}
		}
		count, ok := impl.CountWays(x, from, length+1)
		if ok != (fits && sum <= impl.MaxRuns) || ok && count != sum {
			t.Fatalf("CountWays(%v, %d, %d) = %d, %v; the sum is %d, %v", x, from, length+1, count, ok, sum, fits)
		}
		counts[fmt.Sprint(ok, " ", min(2, count))]++
	}
	wantAtLeast(t, counts, 50, "true 0", "true 2", "false 0")
}

// A pattern is found in a state exactly if it has a first Match in each agent that is isomorphic to
// it, and Redexes are found where their Rules have Steps.
func TestPatternsOfExploredStates(t *testing.T) {
	t.Parallel()
	r, counts := rand.New(rand.NewSource(236)), map[string]int{}
	for _, s := range exploredSamples(t, 237, 200) {
		for n, rule := range s.rules {
			states, ok := impl.PatternStates(house(), s.x, rule.Redex)
			if !ok {
				t.Fatalf("PatternStates(%v, %v) fails", s.x, rule.Redex)
			}
			for state, b := range s.x.States {
				_, found := impl.FirstMatch(house(), rule.Redex, shuffled(r, b))
				steps := slices.ContainsFunc(s.x.Steps, func(u [3]int) bool { return u[0] == state && u[1] == n })
				if is := slices.Contains(states, state); is != found || steps && !is {
					t.Fatalf("PatternStates(%v, %v) = %v; it has a Match in %d: %v", s.x, rule.Redex, states, state, found)
				}
				counts[fmt.Sprint(found, " ", steps)]++
			}
		}
	}
	wantAtLeast(t, counts, 20, "true true", "true false", "false false")
}
