package tests

import (
	"fmt"
	"math"
	"math/rand"
	"slices"
	"testing"

	"loop.example/g01082/impl"
)

// More Rules over house.
const (
	dropDot  = "1; dot@-1; sites; 0; outer; inner -> 1; sites; 0; outer; inner |"
	dotRoom  = "1; dot@-1; sites; 0; outer; inner -> 1; room@-1; sites; 0; outer; inner |"
	roomDot  = "1; room@-1; sites; 0; outer; inner -> 1; dot@-1; sites; 0; outer; inner |"
	freeDots = "1; room@-1; dot@0; sites 0; 0; outer; inner -> 1; room@-1; dot@-1; sites 0; 0; outer; inner | 0"
)

func wantSystem(t *testing.T, got impl.System, ok bool, want impl.System, possible bool, call string, args ...any) {
	t.Helper()
	if !possible {
		want = impl.System{}
	}
	if ok != possible || !isSameSystem(got, want) {
		t.Fatalf("%.900s = %v, %v; want %v, %v", fmt.Sprintf(call, args...), got, ok, want, possible)
	}
}

func wantWay(t *testing.T, got [][3]int, ok bool, want [][3]int, possible bool, call string, args ...any) {
	t.Helper()
	if !possible {
		want = nil
	}
	if ok != possible || !slices.Equal(got, want) {
		t.Fatalf("%.900s = %v, %v; want %v, %v", fmt.Sprintf(call, args...), got, ok, want, possible)
	}
}

// callsOfSystem calls each function of the chapter that takes a System and no number of a state.
func callsOfSystem(x impl.System, way [][3]int) [][]any {
	ends, one := impl.EndStates(x)
	loops, two := impl.LoopsOf(x)
	word, three := impl.RuleWord(x, way)
	return [][]any{{ends, one}, {loops, two}, {word, three}}
}

// callsFromState calls each function of the chapter that takes a System and a state.
func callsFromState(x impl.System, from int, goals []int, way [][3]int, length int) [][]any {
	is, one := impl.IsWay(x, from, way)
	shortest, two := impl.ShortestWay(x, from, goals)
	reached, three := impl.ReachedFrom(x, from)
	always, four := impl.AlwaysHas(x, from, goals)
	count, five := impl.CountWays(x, from, length)
	return [][]any{{is, one}, {shortest, two}, {reached, three}, {always, four}, {count, five}}
}

// callsWithStates calls each function of the chapter that takes a System and a list of states; from
// is a state.
func callsWithStates(x impl.System, from int, states []int, ranks []int) [][]any {
	shortest, one := impl.ShortestWay(x, from, states)
	closed, two := impl.IsClosedSet(x, states)
	always, three := impl.AlwaysHas(x, from, states)
	found, four := impl.RanksOf(x, states)
	is, five := impl.IsRanking(x, states, ranks)
	return [][]any{{shortest, one}, {closed, two}, {always, three}, {found, four}, {is, five}}
}

// callsOfStates calls each function of the chapter that takes a System and looks at its States.
func callsOfStates(sig []impl.Control, rules []impl.Rule, x impl.System, agent impl.Bigraph, pattern impl.Bigraph) [][]any {
	whole, one := impl.IsWhole(sig, rules, x)
	state, two := impl.StateOf(sig, x, agent)
	states, three := impl.PatternStates(sig, x, pattern)
	return [][]any{{whole, one}, {state, two}, {states, three}}
}

// allCalls calls each function of the chapter that takes a System.
func allCalls(x impl.System, rules []impl.Rule, agent impl.Bigraph, from int, goals []int, ranks []int, way [][3]int, length int) [][]any {
	return slices.Concat(callsOfSystem(x, way), callsFromState(x, from, goals, way, length), callsWithStates(x, from, goals, ranks),
		callsOfStates(house(), rules, x, agent, agent))
}

// checkSystem checks all that is said of a System that is valid, whatever its States are, and not
// of one of its states.
func checkSystem(t *testing.T, x impl.System) {
	t.Helper()
	ends, ok := impl.EndStates(x)
	wantInts(t, ends, ok, endsAs(x), true, "EndStates(%v)", x)
	loops, ok := impl.LoopsOf(x)
	wantInts(t, loops, ok, loopsAs(x), true, "LoopsOf(%v)", x)
	for from := range x.States {
		reached, ok := impl.ReachedFrom(x, from)
		wantInts(t, reached, ok, reachedAs(x, from), true, "ReachedFrom(%v, %d)", x, from)
	}
}

// checkGoals checks all that is said of a list of states, which need not be goals; it returns the
// ranks.
func checkGoals(t *testing.T, x impl.System, goals []int) []int {
	t.Helper()
	possible := climbs(goals, 0, len(x.States)-1)
	if !possible {
		wantFailures(t, callsWithStates(x, 0, goals, make([]int, len(x.States))), "%v with the goals %.100v", x, goals)
		return nil
	}
	closed, ok := impl.IsClosedSet(x, goals)
	wantReport(t, closed, ok, isClosedAs(x, goals), "IsClosedSet(%v, %v)", x, goals)
	ranks, ok := impl.RanksOf(x, goals)
	wantInts(t, ranks, ok, ranksAs(x, goals), true, "RanksOf(%v, %v)", x, goals)
	for from := range x.States {
		want, possible := shortestAs(x, from, goals)
		way, ok := impl.ShortestWay(x, from, goals)
		wantWay(t, way, ok, want, possible, "ShortestWay(%v, %d, %v)", x, from, goals)
		always, ok := impl.AlwaysHas(x, from, goals)
		wantReport(t, always, ok, alwaysAs(x, from, goals), "AlwaysHas(%v, %d, %v)", x, from, goals)
	}
	return ranks
}

func checkRanking(t *testing.T, x impl.System, goals []int, ranks []int) bool {
	t.Helper()
	is, ok := impl.IsRanking(x, goals, ranks)
	wantReport(t, is, ok, isRankingAs(x, goals, ranks), "IsRanking(%v, %v, %.100v)", x, goals, ranks)
	return is
}

// checkWay checks what is said of a list of Steps, and reports whether it is a way from a state.
func checkWay(t *testing.T, x impl.System, from int, way [][3]int) bool {
	t.Helper()
	_, want := endOf(x, from, way)
	is, ok := impl.IsWay(x, from, way)
	wantReport(t, is, ok, want, "IsWay(%v, %d, %v)", x, from, way)
	possible := len(way) == 0
	if !possible {
		_, possible = endOf(x, way[0][0], way)
	}
	word, ok := impl.RuleWord(x, way)
	wantInts(t, word, ok, wordAs(way), possible, "RuleWord(%v, %v)", x, way)
	return is
}

func checkCount(t *testing.T, x impl.System, from int, length int) (int, bool) {
	t.Helper()
	want, possible := 0, length >= 0 && length <= 60
	if possible {
		want, possible = countAs(x, from, length)
	}
	got, ok := impl.CountWays(x, from, length)
	if got != want || ok != possible {
		t.Fatalf("CountWays(%.600s, %d, %d) = %d, %v; want %d, %v", fmt.Sprint(x), from, length, got, ok, want, possible)
	}
	return got, ok
}

func TestSystemsThatAreValidAndNot(t *testing.T) {
	dot, rules := read(t, oneDot), rulesOf(t, sameDot)
	far := [][3]int{{0, 0, 1}, {1, 0, 2}}
	for _, e := range []struct {
		told   string
		states int
		steps  [][3]int
		is     bool
	}{
		{"no states", 0, nil, false},
		{"no states, but a Step", 0, [][3]int{{0, 0, 0}}, false},
		{"one state", 1, nil, true},
		{"one state and a Step", 1, [][3]int{{0, 0, 0}}, true},
		{"MaxStates states", 40, far, true},
		{"MaxStates states and Steps of the last one", 40, [][3]int{{0, 5, 39}, {39, 0, 0}, {39, 5, 39}}, true},
		{"one more than MaxStates", 41, far, false},
		{"one more than MaxStates, and no Steps", 41, nil, false},
		{"a hundred thousand states", 100000, far, false},
		{"a Step from a number below 0", 3, [][3]int{{-1, 0, 1}, {0, 0, 1}}, false},
		{"a Step from the first number that is no state", 3, [][3]int{{0, 0, 1}, {3, 0, 1}}, false},
		{"a Step from the least number", 3, [][3]int{{math.MinInt, 0, 1}}, false},
		{"a Step from the greatest number", 3, [][3]int{{0, 0, 0}, {math.MaxInt, 0, 1}}, false},
		{"a Step to a number below 0", 3, [][3]int{{0, 0, -1}, {0, 0, 1}}, false},
		{"a Step to the first number that is no state", 3, [][3]int{{0, 0, 1}, {0, 0, 3}}, false},
		{"a Step to the least number", 3, [][3]int{{0, 0, math.MinInt}}, false},
		{"a Step to the greatest number", 3, [][3]int{{0, 0, math.MaxInt}}, false},
		{"a Step by a number below 0", 3, [][3]int{{0, -1, 1}, {0, 0, 1}}, false},
		{"a Step by the first number that is none of a Rule", 3, [][3]int{{0, 0, 1}, {0, 6, 1}}, false},
		{"a Step by the last number of a Rule", 3, [][3]int{{0, 0, 1}, {0, 5, 1}}, true},
		{"a Step by the least number", 3, [][3]int{{0, math.MinInt, 1}}, false},
		{"a Step by the greatest number", 3, [][3]int{{0, math.MaxInt, 1}}, false},
		{"a Step twice", 3, [][3]int{{0, 0, 1}, {0, 0, 1}}, false},
		{"a Step twice behind another one", 3, [][3]int{{0, 0, 1}, {1, 2, 2}, {1, 2, 2}}, false},
		{"Steps whose first numbers descend", 3, [][3]int{{1, 0, 1}, {0, 1, 2}}, false},
		{"Steps whose second numbers descend", 3, [][3]int{{0, 1, 1}, {0, 0, 2}}, false},
		{"Steps whose third numbers descend", 3, [][3]int{{0, 0, 1}, {0, 0, 0}}, false},
		{"Steps whose last numbers descend where the first ones ascend", 3, [][3]int{{0, 5, 2}, {1, 4, 1}, {2, 0, 0}}, true},
		{"Steps whose third numbers descend where the second ones ascend", 3, [][3]int{{0, 0, 2}, {0, 1, 1}, {0, 5, 0}}, true},
	} {
		x := stepsOnly(e.states, e.steps...)
		if is := isSystemAs(x); is != e.is {
			t.Fatalf("a System with %s is valid: %v", e.told, is)
		}
		if e.is {
			checkSystem(t, x)
			checkCount(t, x, 0, 2)
			checkGoals(t, x, []int{0})
			checkRanking(t, x, []int{0}, make([]int, e.states))
			checkWay(t, x, 0, x.Steps)
		}
		// All States are valid here, so that only the System can be not valid.
		x.States = slices.Repeat([]impl.Bigraph{dot}, e.states)
		for _, results := range allCalls(x, rules, dot, 0, []int{0}, make([]int, e.states), nil, 0) {
			if results[len(results)-1] != e.is {
				t.Errorf("a System with %s: %v", e.told, results)
			}
		}
		if !e.is {
			wantFailures(t, allCalls(x, rules, dot, 0, []int{0}, make([]int, e.states), e.steps, 1), "a System with %s", e.told)
			wantFailures(t, allCalls(x, rules, dot, 0, nil, nil, nil, 60), "a System with %s", e.told)
		}
	}
}

func TestAllSmallSystems(t *testing.T) {
	t.Parallel()
	for _, x := range slices.Concat(allSystems(1, 3), allSystems(2, 1), allSystems(2, 2), allSystems(3, 1)) {
		checkSystem(t, x)
		n := len(x.States)
		for _, goals := range partsOfList(numbersFrom(0, n)) {
			checkGoals(t, x, goals)
		}
		for from := range n {
			for length := range 5 {
				checkCount(t, x, from, length)
			}
			for _, way := range slices.Concat(waysAs(x, from, 0), waysAs(x, from, 1), waysAs(x, from, 2)) {
				if !checkWay(t, x, from, way) {
					t.Fatalf("%v is no way from %d in %v", way, from, x)
				}
				checkWay(t, x, (from+1)%n, way)
			}
		}
	}
}

func TestAllSmallRankings(t *testing.T) {
	t.Parallel()
	counts := map[string]int{}
	for _, x := range slices.Concat(allSystems(1, 1), allSystems(2, 1), allSystems(3, 1)) {
		n := len(x.States)
		for _, goals := range partsOfList(numbersFrom(0, n)) {
			for _, ranks := range listsOfNumbers(-2, 3, 3) {
				if len(ranks) == n {
					counts[fmt.Sprint(checkRanking(t, x, goals, ranks))]++
				}
			}
		}
	}
	wantAtLeast(t, counts, 10000, "true", "false")
}

func TestSystemsOfSamples(t *testing.T) {
	t.Parallel()
	r, counts := rand.New(rand.NewSource(210)), map[string]int{}
	for range 2500 {
		x := randomSystem(r, 1+r.Intn(7), 10, 1+r.Intn(6))
		checkSystem(t, x)
		n := len(x.States)
		goals := randomStates(r, n)
		if r.Intn(2) == 0 {
			goals = endsAs(x)
		}
		ranks := checkGoals(t, x, goals)
		counts[fmt.Sprint("rank ", min(3, slices.Max(ranks)))]++
		for range 4 {
			other := slices.Clone(ranks)
			other[r.Intn(n)] += pick(r, []int{-2, -1, 0, 1, 2})
			if r.Intn(3) == 0 {
				for k := range other {
					other[k] = 2*other[k] + r.Intn(2)
				}
			}
			counts[fmt.Sprint("ranking ", checkRanking(t, x, goals, other))]++
		}
		from, length := r.Intn(n), r.Intn(5)
		checkCount(t, x, from, r.Intn(61))
		all := waysAs(x, from, length)
		if count, _ := checkCount(t, x, from, length); count != len(all) {
			t.Fatalf("there are %d ways of %d Steps from %d in %v, and %d are counted", len(all), length, from, x, count)
		}
		counts[fmt.Sprint("ways ", min(2, len(all)))]++
		if len(all) == 0 || length == 0 {
			continue
		}
		way := pick(r, all)
		checkWay(t, x, from, way)
		other := slices.Clone(way)
		other[r.Intn(length)][r.Intn(3)] = r.Intn(n+2) - 1
		counts[fmt.Sprint("way ", checkWay(t, x, from, other))]++
	}
	wantAtLeast(t, counts, 20, "rank 3")
	wantAtLeast(t, counts, 100, "rank -1", "rank 0", "rank 1", "rank 2", "ranking true", "ranking false", "ways 0", "ways 1", "ways 2", "way true", "way false")
}

func TestLargeSystems(t *testing.T) {
	t.Parallel()
	r, counts := rand.New(rand.NewSource(211)), map[string]int{}
	for range 250 {
		n := 20 + r.Intn(21)
		x := randomSystem(r, n, 3*n, 6)
		checkSystem(t, x)
		for range 3 {
			from, length := r.Intn(n), r.Intn(61)
			_, ok := checkCount(t, x, from, length)
			counts[fmt.Sprint("count ", ok)]++
			way := [][3]int{}
			for state := from; len(way) < 100; {
				next := waysAs(x, state, 1)
				if len(next) == 0 {
					break
				}
				way = append(way, pick(r, next)[0])
				state = way[len(way)-1][2]
			}
			if !checkWay(t, x, from, way) {
				t.Fatalf("%v is no way from %d in %v", way, from, x)
			}
			counts[fmt.Sprint("long ", len(way) > 60)]++
		}
	}
	wantAtLeast(t, counts, 20, "count true", "count false", "long true", "long false")
}

// twoLoops has the state 0, the loops 1 2 3 and 5 6, which are apart, the state 4 with a loop of its
// own, and the end states 7 and 8, where no Step leads to 8.
func twoLoops() impl.System {
	return stepsOnly(9, [][3]int{{0, 0, 1}, {0, 0, 5}, {1, 2, 2}, {2, 0, 3}, {3, 0, 1}, {3, 1, 4}, {4, 0, 4}, {5, 0, 6}, {6, 1, 5}, {6, 3, 7}}...)
}

func TestWays(t *testing.T) {
	x := twoLoops()
	for _, e := range []struct {
		told string
		from int
		way  [][3]int
		is   bool
		word []int
	}{
		{"no Steps", 0, nil, true, []int{}},
		{"no Steps from an end state", 8, nil, true, []int{}},
		{"one Step", 1, [][3]int{{1, 2, 2}}, true, []int{2}},
		{"a Step back to its state, twice", 4, [][3]int{{4, 0, 4}, {4, 0, 4}}, true, []int{0, 0}},
		{"a loop and more", 2, [][3]int{{2, 0, 3}, {3, 0, 1}, {1, 2, 2}, {2, 0, 3}, {3, 1, 4}}, true, []int{0, 0, 2, 0, 1}},
		{"a way up to the end", 0, [][3]int{{0, 0, 5}, {5, 0, 6}, {6, 3, 7}}, true, []int{0, 0, 3}},
		{"a first Step from another state", 0, [][3]int{{1, 2, 2}, {2, 0, 3}}, false, []int{2, 0}},
		{"a first Step that leads to the state", 1, [][3]int{{0, 0, 1}, {1, 2, 2}}, false, []int{0, 2}},
		{"a gap", 0, [][3]int{{0, 0, 1}, {2, 0, 3}}, false, nil},
		{"a gap behind the second Step", 0, [][3]int{{0, 0, 1}, {1, 2, 2}, {3, 0, 1}}, false, nil},
		{"Steps in the order of the System", 1, [][3]int{{1, 2, 2}, {2, 0, 3}, {3, 0, 1}, {3, 1, 4}}, false, nil},
		{"a Step by another Rule", 1, [][3]int{{1, 0, 2}}, false, nil},
		{"a Step to another state", 1, [][3]int{{1, 2, 3}}, false, nil},
		{"a last Step that is none", 0, [][3]int{{0, 0, 1}, {1, 2, 1}}, false, nil},
		{"a first Step that is none", 0, [][3]int{{0, 1, 1}, {1, 2, 2}}, false, nil},
		{"a Step behind an end state", 6, [][3]int{{6, 3, 7}, {7, 0, 7}}, false, nil},
		{"a Step back", 4, [][3]int{{4, 1, 3}}, false, nil},
		{"a Step from a number that is no state", 0, [][3]int{{9, 0, 9}}, false, nil},
		{"a Step from a number below 0", 0, [][3]int{{-1, 0, -1}}, false, nil},
		{"extreme numbers", 0, [][3]int{{math.MinInt, math.MaxInt, math.MinInt}}, false, nil},
		{"a Step to a number that is no state", 0, [][3]int{{0, 0, 9}}, false, nil},
	} {
		if is := checkWay(t, x, e.from, e.way); is != e.is {
			t.Errorf("the list with %s is a way: %v", e.told, is)
		}
		word, ok := impl.RuleWord(x, e.way)
		if !slices.Equal(word, e.word) || ok != (e.word != nil) {
			t.Errorf("RuleWord of the list with %s = %v, %v; want %v", e.told, word, ok, e.word)
		}
	}
	long := slices.Repeat([][3]int{{5, 0, 6}, {6, 1, 5}}, 300000)
	is, ok := impl.IsWay(x, 5, long)
	wantReport(t, is, ok, true, "IsWay of 600000 Steps")
	word, ok := impl.RuleWord(x, long)
	if !ok || len(word) != len(long) || !slices.Equal(word[len(word)-3:], []int{1, 0, 1}) {
		t.Errorf("RuleWord of 600000 Steps = %.100v, %v", word, ok)
	}
	word, ok = impl.RuleWord(x, append(long, [3]int{6, 3, 7}))
	wantInts(t, word, ok, nil, false, "RuleWord of 600000 Steps, and one that begins elsewhere")
}

func TestNumbersThatAreNoStates(t *testing.T) {
	for _, x := range []impl.System{stepsOnly(1), stepsOnly(1, [3]int{0, 0, 0}), stepsOnly(3, [3]int{0, 0, 1}, [3]int{1, 0, 2}), twoLoops(), stepsOnly(40)} {
		n := len(x.States)
		for _, state := range append(extremes(), n-1, n, n+1, 39, 40, 41) {
			results := callsFromState(x, state, numbersFrom(0, n), nil, 0)
			if state >= 0 && state < n {
				for i, want := range [][]any{{true, true}, {[][3]int{}, true}, {reachedAs(x, state), true}, {true, true}, {1, true}} {
					if fmt.Sprint(results[i]) != fmt.Sprint(want) {
						t.Errorf("call %d for the state %d of %v = %v; want %v", i, state, x, results[i], want)
					}
				}
				continue
			}
			wantFailures(t, results, "%v and the state %d", x, state)
			wantFailures(t, callsFromState(x, state, nil, x.Steps, 60), "%v and the state %d", x, state)
		}
	}
}

func TestListsOfStates(t *testing.T) {
	x := twoLoops()
	for _, e := range []struct {
		told  string
		list  []int
		is    bool
		ranks []int
	}{
		{"none", nil, true, []int{-1, -1, -1, -1, -1, -1, -1, -1, -1}},
		{"an empty one", []int{}, true, []int{-1, -1, -1, -1, -1, -1, -1, -1, -1}},
		{"all states", numbersFrom(0, 9), true, []int{0, 0, 0, 0, 0, 0, 0, 0, 0}},
		{"the first state", []int{0}, true, []int{0, -1, -1, -1, -1, -1, -1, -1, -1}},
		{"the last state", []int{8}, true, []int{-1, -1, -1, -1, -1, -1, -1, -1, 0}},
		{"states of both loops", []int{3, 6}, true, []int{3, 2, 1, 0, -1, 1, 0, -1, -1}},
		{"a state of one loop", []int{3}, true, []int{-1, 2, 1, 0, -1, -1, -1, -1, -1}},
		{"a state with a Step to itself, and one of its loop", []int{1, 4}, true, []int{-1, 0, 2, 1, 0, -1, -1, -1, -1}},
		{"the ends", []int{7, 8}, true, []int{-1, -1, -1, -1, -1, -1, -1, 0, 0}},
		{"a number below 0", []int{-1, 0}, false, nil},
		{"a number below 0 alone", []int{-1}, false, nil},
		{"the first number that is no state", []int{0, 9}, false, nil},
		{"the first number that is no state alone", []int{9}, false, nil},
		{"a state twice", []int{2, 2}, false, nil},
		{"a state twice at the end", []int{0, 1, 8, 8}, false, nil},
		{"states that descend", []int{3, 2}, false, nil},
		{"states that descend at the end", []int{0, 4, 3}, false, nil},
		{"the least number", []int{math.MinInt}, false, nil},
		{"the greatest number", []int{0, math.MaxInt}, false, nil},
		{"many numbers", make([]int, 1000000), false, nil},
		{"many numbers that ascend", numbersFrom(0, 1000000), false, nil},
	} {
		checkGoals(t, x, e.list)
		ranks, ok := impl.RanksOf(x, e.list)
		if ok != e.is || !slices.Equal(ranks, e.ranks) {
			t.Errorf("RanksOf with %s = %v, %v; want %v", e.told, ranks, ok, e.ranks)
		}
	}
}

func TestClosedSets(t *testing.T) {
	for _, e := range []struct {
		list []int
		is   bool
	}{
		{nil, true}, {numbersFrom(0, 9), true}, {[]int{8}, true}, {[]int{7}, true}, {[]int{4}, true}, {[]int{1, 2, 3, 4}, true}, {[]int{5, 6, 7}, true}, {[]int{4, 5, 6, 7, 8}, true},
		{[]int{0}, false}, {[]int{1, 2, 3}, false}, {[]int{5, 6}, false}, {[]int{5}, false}, {[]int{6, 7}, false}, {numbersFrom(0, 7), false}, {[]int{1, 2, 3, 4, 5, 6}, false},
		{[]int{0, 1, 2, 3, 4}, false}, {[]int{0, 5, 6, 7}, false}, {[]int{4, 6, 8}, false}, {[]int{3, 4}, false},
	} {
		is, ok := impl.IsClosedSet(twoLoops(), e.list)
		wantReport(t, is, ok, e.is, "IsClosedSet(%v)", e.list)
	}
}

func TestShortestWays(t *testing.T) {
	// Three ways from 0 to 7 have 3 Steps; the first one has neither the least Rules nor the least
	// last Step.
	several := stepsOnly(9, [][3]int{{0, 0, 1}, {0, 2, 5}, {0, 3, 2}, {0, 3, 3}, {1, 0, 2}, {2, 5, 6}, {3, 0, 4}, {3, 1, 4}, {4, 0, 7}, {6, 0, 8}, {6, 5, 7}}...)
	for _, e := range []struct {
		told  string
		x     impl.System
		from  int
		goals []int
		want  string
	}{
		{"a goal itself", twoLoops(), 3, []int{1, 3}, "[]"},
		{"a goal itself, with a Step to itself", twoLoops(), 4, []int{4}, "[]"},
		{"an end state that is a goal", twoLoops(), 8, []int{8}, "[]"},
		{"one Step", twoLoops(), 1, []int{2, 3}, "[[1 2 2]]"},
		{"a whole loop but for one Step", twoLoops(), 2, []int{1}, "[[2 0 3] [3 0 1]]"},
		{"the nearer one of two goals", twoLoops(), 0, []int{4, 7}, "[[0 0 5] [5 0 6] [6 3 7]]"},
		{"two goals that are as near", twoLoops(), 0, []int{2, 6}, "[[0 0 1] [1 2 2]]"},
		{"the greater one of two goals first", stepsOnly(3, [3]int{0, 0, 2}, [3]int{0, 1, 1}), 0, []int{1, 2}, "[[0 0 2]]"},
		{"Steps by several Rules", stepsOnly(2, [3]int{0, 2, 1}, [3]int{0, 4, 1}, [3]int{1, 0, 0}), 0, []int{1}, "[[0 2 1]]"},
		{"several ways of one length", several, 0, []int{7}, "[[0 3 2] [2 5 6] [6 5 7]]"},
		{"several ways of one length to two goals", several, 0, []int{4, 6}, "[[0 3 2] [2 5 6]]"},
		{"a longer way that comes first", several, 0, []int{2}, "[[0 3 2]]"},
		{"a way from a later state", several, 3, []int{7, 8}, "[[3 0 4] [4 0 7]]"},
		{"no way out of a loop", twoLoops(), 4, []int{0, 1, 2, 3, 5, 6, 7, 8}, ""},
		{"no way back", twoLoops(), 1, []int{0}, ""},
		{"a goal to which no Step leads", twoLoops(), 0, []int{8}, ""},
		{"an end state", twoLoops(), 7, []int{6, 8}, ""},
		{"no goals", twoLoops(), 0, nil, ""},
		{"no Steps", stepsOnly(2), 0, []int{1}, ""},
	} {
		checkGoals(t, e.x, e.goals)
		way, ok := impl.ShortestWay(e.x, e.from, e.goals)
		if ok != (e.want != "") || ok && fmt.Sprint(way) != e.want {
			t.Errorf("ShortestWay with %s = %v, %v; want %s", e.told, way, ok, e.want)
		}
	}
	// The longest shortest way, beside Steps that lead back to the beginning.
	chain := [][3]int{}
	for state := range 40 {
		chain = append(chain, [3]int{state, 1, 0}, [3]int{state, 2, min(39, state+1)})
	}
	x := stepsOnly(40, chain...)
	way, ok := impl.ShortestWay(x, 0, []int{39})
	if !ok || len(way) != 39 || way[38] != [3]int{38, 2, 39} || !checkWay(t, x, 0, way) {
		t.Errorf("ShortestWay through all states = %v, %v", way, ok)
	}
}

func TestLoops(t *testing.T) {
	for _, e := range []struct {
		told  string
		x     impl.System
		loops []int
		ends  []int
	}{
		{"one state", stepsOnly(1), []int{0}, []int{0}},
		{"one state with a Step to itself", stepsOnly(1, [3]int{0, 3, 0}), []int{0}, nil},
		{"no Steps", stepsOnly(3), []int{0, 1, 2}, []int{0, 1, 2}},
		{"no loops", stepsOnly(3, [3]int{0, 0, 1}, [3]int{0, 0, 2}, [3]int{1, 0, 2}), []int{0, 1, 2}, []int{2}},
		{"a loop of two", stepsOnly(3, [3]int{1, 0, 2}, [3]int{2, 0, 1}), []int{0, 1, 1}, []int{0}},
		{"a loop of all", stepsOnly(4, [3]int{0, 0, 3}, [3]int{1, 0, 0}, [3]int{2, 0, 1}, [3]int{3, 0, 2}), []int{0, 0, 0, 0}, nil},
		{"loops apart", twoLoops(), []int{0, 1, 1, 1, 4, 5, 5, 7, 8}, []int{7, 8}},
		{"loops apart whose states alternate", stepsOnly(4, [3]int{0, 0, 2}, [3]int{1, 0, 3}, [3]int{2, 0, 0}, [3]int{3, 0, 1}), []int{0, 1, 0, 1}, nil},
		{"loops that are joined in one direction", stepsOnly(4, [3]int{0, 0, 2}, [3]int{1, 0, 3}, [3]int{2, 0, 0}, [3]int{2, 0, 1}, [3]int{3, 0, 1}), []int{0, 1, 0, 1}, nil},
		{"loops that are joined in both directions", stepsOnly(4, [3]int{0, 0, 2}, [3]int{1, 0, 3}, [3]int{2, 0, 0}, [3]int{2, 0, 1}, [3]int{3, 0, 0}, [3]int{3, 0, 1}), []int{0, 0, 0, 0}, nil},
		{"two loops with a common state", stepsOnly(5, [3]int{0, 0, 1}, [3]int{1, 0, 2}, [3]int{2, 0, 1}, [3]int{2, 0, 3}, [3]int{3, 0, 4}, [3]int{4, 0, 2}), []int{0, 1, 1, 1, 1}, nil},
	} {
		checkSystem(t, e.x)
		loops, ok := impl.LoopsOf(e.x)
		ends, fine := impl.EndStates(e.x)
		if !ok || !fine || !slices.Equal(loops, e.loops) || !slices.Equal(ends, e.ends) {
			t.Errorf("LoopsOf and EndStates of %s = %v, %v; want %v, %v", e.told, loops, ends, e.loops, e.ends)
		}
	}
}

func TestRankings(t *testing.T) {
	// The states 0 and 1 lead to 2, 1 also to 3; 2 leads to 3, 4 to itself and to 3, and 5 is an end.
	x := stepsOnly(6, [][3]int{{0, 0, 2}, {1, 0, 2}, {1, 0, 3}, {2, 1, 3}, {3, 0, 0}, {4, 0, 3}, {4, 0, 4}}...)
	for _, e := range []struct {
		told  string
		goals []int
		ranks []int
		is    bool
	}{
		{"that of RanksOf", []int{3}, []int{2, 2, 1, 0, -1, -1}, true},
		{"greater numbers", []int{3}, []int{9, 7, 6, 0, -1, -1}, true},
		{"the greatest numbers", []int{3}, []int{math.MaxInt, math.MaxInt, math.MaxInt - 1, math.MaxInt - 2, -1, -1}, true},
		{"a goal with a greater number", []int{3}, []int{6, 6, 5, 4, -1, -1}, true},
		{"a goal without a number", []int{3}, []int{-1, -1, -1, -1, -1, -1}, true},
		{"a goal without a number behind states with numbers", []int{3}, []int{2, 2, 1, -1, -1, -1}, false},
		{"a number less", []int{3}, []int{-1, 2, 1, 0, -1, -1}, true},
		{"a number that is needed less", []int{3}, []int{2, 2, -1, 0, -1, -1}, false},
		{"a number that is not greater", []int{3}, []int{1, 2, 1, 0, -1, -1}, false},
		{"a number that is not greater than one of two", []int{3}, []int{2, 1, 1, 0, -1, -1}, false},
		{"0 for a state that is no goal", []int{3}, []int{2, 2, 0, 0, -1, -1}, false},
		{"a number for a state with a Step to itself", []int{3}, []int{2, 2, 1, 0, 1, -1}, false},
		{"a great number for a state with a Step to itself", []int{3}, []int{2, 2, 1, 0, 99, -1}, false},
		{"0 for a state without Steps", []int{3}, []int{2, 2, 1, 0, -1, 0}, false},
		{"a number for a state without Steps", []int{3}, []int{2, 2, 1, 0, -1, 3}, false},
		{"a goal without Steps", []int{3, 5}, []int{2, 2, 1, 0, -1, 0}, true},
		{"a goal without Steps and any number", []int{3, 5}, []int{2, 2, 1, 0, -1, 77}, true},
		{"a number below -1", []int{3}, []int{-2, 2, 1, 0, -1, -1}, false},
		{"a number below -1 for a goal", []int{3}, []int{-1, -1, -1, -2, -1, -1}, false},
		{"a number below -1 for the last state", []int{3}, []int{2, 2, 1, 0, -1, -2}, false},
		{"the least number", []int{3}, []int{math.MinInt, 2, 1, 0, -1, -1}, false},
		{"the least number for a goal", []int{3}, []int{-1, -1, -1, math.MinInt, -1, -1}, false},
		{"the least number for a state without Steps", []int{3}, []int{2, 2, 1, 0, -1, math.MinInt}, false},
		{"no numbers", []int{3}, []int{-1, -1, -1, -1, -1, -1}, true},
		{"a list that is too short", []int{3}, []int{2, 2, 1, 0, -1}, false},
		{"a list that is too long", []int{3}, []int{2, 2, 1, 0, -1, -1, -1}, false},
		{"an empty list", []int{3}, nil, false},
		{"a vast list", []int{3}, make([]int, 1000000), false},
		{"no goals, and no numbers", nil, []int{-1, -1, -1, -1, -1, -1}, true},
		{"no goals, but numbers", nil, []int{2, 2, 1, 0, -1, -1}, false},
		{"no goals, but a number for the end", nil, []int{-1, -1, -1, -1, -1, 0}, false},
		{"all goals", numbersFrom(0, 6), []int{5, 0, -1, 7, 0, 0}, true},
		{"a goal in a loop", []int{0, 4}, []int{0, 3, 2, 1, 0, -1}, true},
	} {
		if is := checkRanking(t, x, e.goals, e.ranks); is != e.is {
			t.Errorf("the list with %s is a ranking: %v", e.told, is)
		}
	}
	for _, e := range []struct {
		goals []int
		want  []int
	}{
		{[]int{3}, []int{2, 2, 1, 0, -1, -1}}, {[]int{2}, []int{1, 3, 0, 2, -1, -1}}, {[]int{0}, []int{0, 3, 2, 1, -1, -1}},
		{[]int{1}, []int{-1, 0, -1, -1, -1, -1}}, {[]int{4}, []int{-1, -1, -1, -1, 0, -1}}, {[]int{5}, []int{-1, -1, -1, -1, -1, 0}}, {[]int{2, 4}, []int{1, 3, 0, 2, 0, -1}},
	} {
		ranks, ok := impl.RanksOf(x, e.goals)
		wantInts(t, ranks, ok, e.want, true, "RanksOf(%v)", e.goals)
		for state := range ranks {
			for _, change := range []int{-1, 1} {
				other := slices.Clone(ranks)
				other[state] += change
				checkRanking(t, x, e.goals, other)
			}
		}
	}
	// The greatest numbers that there are: the states are ranked from the last one back.
	chain := [][3]int{}
	for state := range 39 {
		chain = append(chain, [3]int{state, 0, state + 1})
	}
	ranks, ok := impl.RanksOf(stepsOnly(40, chain...), []int{39})
	back := numbersFrom(0, 40)
	slices.Reverse(back)
	wantInts(t, ranks, ok, back, true, "RanksOf a chain")
	for k := range chain {
		chain[k] = [3]int{k + 1, 0, k}
	}
	ranks, ok = impl.RanksOf(stepsOnly(40, chain...), []int{0})
	wantInts(t, ranks, ok, numbersFrom(0, 40), true, "RanksOf a chain back")
}

// manyWays has 10 ** 9 ways of 18 Steps from the state 0: from each of the first 9 states, 5 Steps
// lead to the next one, and from each of the following 9 states, 2 Steps.
func manyWays() impl.System {
	steps := [][3]int{}
	for state := range 18 {
		for rule := range map[bool]int{true: 5, false: 2}[state < 9] {
			steps = append(steps, [3]int{state, rule, state + 1})
		}
	}
	return stepsOnly(21, steps...)
}

func TestCountsOfWays(t *testing.T) {
	loop, many, end := stepsOnly(1, [3]int{0, 2, 0}), manyWays(), [3]int{18, 3, 20}
	// The state 19 has a single way of each length, and so has 20.
	more := stepsOnly(21, inOrder(append(slices.Clone(many.Steps), [3]int{0, 0, 19}, [3]int{19, 0, 19}))...)
	further := stepsOnly(21, inOrder(append(slices.Clone(many.Steps), end, [3]int{20, 0, 20}))...)
	twice := stepsOnly(21, inOrder(append(slices.Clone(many.Steps), end, [3]int{18, 4, 20}))...)
	double, four, six := [][3]int{{0, 0, 0}, {0, 1, 0}}, [][3]int{{0, 0, 0}, {0, 1, 0}, {0, 2, 0}, {0, 3, 0}}, [][3]int{}
	for from := range 40 {
		for rule := range 6 {
			for to := range 40 {
				six = append(six, [3]int{from, rule, to})
			}
		}
	}
	for _, e := range []struct {
		told   string
		x      impl.System
		from   int
		length int
		want   int
	}{
		{"no Steps", twoLoops(), 0, 0, 1},
		{"no Steps from an end state", twoLoops(), 7, 0, 1},
		{"one Step from an end state", twoLoops(), 7, 1, 0},
		{"60 Steps from an end state", twoLoops(), 8, 60, 0},
		{"one Step", twoLoops(), 0, 1, 2},
		{"five Steps", twoLoops(), 0, 5, 4},
		{"60 Steps in a loop", loop, 0, 60, 1},
		{"61 Steps in a loop", loop, 0, 61, -1},
		{"fewer than 0 Steps", loop, 0, -1, -1},
		{"the greatest number of Steps", loop, 0, math.MaxInt, -1},
		{"the least number of Steps", loop, 0, math.MinInt, -1},
		{"61 Steps, of which there are none", stepsOnly(1), 0, 61, -1},
		{"60 Steps, of which there are none", stepsOnly(1), 0, 60, 0},
		{"2 ** 29 ways", stepsOnly(1, double...), 0, 29, 1 << 29},
		{"2 ** 30 ways", stepsOnly(1, double...), 0, 30, -1},
		{"2 ** 60 ways", stepsOnly(1, double...), 0, 60, -1},
		{"2 ** 64 ways", stepsOnly(1, four...), 0, 32, -1},
		{"2 ** 62 ways", stepsOnly(1, four...), 0, 31, -1},
		{"2 ** 120 ways", stepsOnly(1, four...), 0, 60, -1},
		{"MaxRuns ways", many, 0, 18, 1000000000},
		{"a fifth of them", many, 1, 17, 200000000},
		{"one more", more, 0, 18, -1},
		{"one more where there are fewer", more, 0, 17, 500000001},
		{"MaxRuns ways that go no further", many, 0, 19, 0},
		{"MaxRuns ways, and one Step more", further, 0, 19, 1000000000},
		{"MaxRuns ways up to the last Step", further, 0, 60, 1000000000},
		{"twice MaxRuns ways", twice, 0, 19, -1},
		{"twice MaxRuns ways that go no further", twice, 0, 20, 0},
		{"240 ways", stepsOnly(40, six...), 39, 1, 240},
		{"240 ** 3 ways", stepsOnly(40, six...), 20, 3, 240 * 240 * 240},
		{"240 ** 4 ways", stepsOnly(40, six...), 20, 4, -1},
		{"240 ** 60 ways", stepsOnly(40, six...), 0, 60, -1},
		{"few ways beside many", stepsOnly(2, [3]int{0, 0, 0}, [3]int{1, 0, 1}, [3]int{1, 1, 1}), 0, 60, 1},
		{"many ways that cannot be reached in time", stepsOnly(3, [3]int{0, 0, 1}, [3]int{1, 0, 2}, [3]int{2, 0, 2}, [3]int{2, 1, 2}), 0, 31, 1 << 29},
	} {
		got, ok := checkCount(t, e.x, e.from, e.length)
		if got != max(0, e.want) || ok != (e.want >= 0) {
			t.Errorf("CountWays of %s = %d, %v; want %d", e.told, got, ok, e.want)
		}
	}
	for length := -3; length <= 64; length++ {
		checkCount(t, loop, 0, length)
		checkCount(t, twoLoops(), 0, length)
		checkCount(t, more, 0, length)
	}
}

// checkExplored checks ExploreSystem, and what is said of its result.
func checkExplored(t *testing.T, rules []impl.Rule, agent impl.Bigraph, most int) (impl.System, bool) {
	t.Helper()
	want, possible := impl.System{}, most >= 1 && most <= 40
	if possible {
		want, possible = exploredAs(rules, agent, most)
	}
	x, ok := impl.ExploreSystem(house(), rules, agent, most)
	wantSystem(t, x, ok, want, possible, "ExploreSystem(%v, %v, %d)", rules, agent, most)
	if ok {
		checkWhole(t, rules, x)
		checkState(t, x, agent)
	}
	return x, ok
}

// checkWhole checks IsWhole for valid Rules and a valid System, and returns the conditions that
// do not hold.
func checkWhole(t *testing.T, rules []impl.Rule, x impl.System) ([]int, bool) {
	t.Helper()
	broken, possible := brokenIn(rules, x)
	is, ok := impl.IsWhole(house(), rules, x)
	if is != (possible && len(broken) == 0) || ok != possible {
		t.Fatalf("IsWhole(%v, %v) = %v, %v; want %v: %v", rules, x, is, ok, possible, broken)
	}
	return broken, ok
}

// checkState checks StateOf for a valid agent.
func checkState(t *testing.T, x impl.System, agent impl.Bigraph) int {
	t.Helper()
	want := indexAs(x.States, formAs(agent))
	state, ok := impl.StateOf(house(), x, agent)
	if state != max(0, want) || ok != (want >= 0) {
		t.Fatalf("StateOf(%v, %v) = %d, %v; want %d", x, agent, state, ok, want)
	}
	return want
}

// dotsUnder is an agent over house with some dots under each of its roots.
func dotsUnder(dots ...int) impl.Bigraph {
	b := impl.Bigraph{Roots: len(dots)}
	for root, n := range dots {
		b.Nodes = append(b.Nodes, slices.Repeat([]impl.Node{{Control: 4, Parent: -1 - root}}, n)...)
	}
	return b
}

func TestExploredExamples(t *testing.T) {
	empty, closed := "1; sites; 0; outer; inner", "sites; 1; outer; inner"
	for _, e := range []struct {
		told   string
		rules  []string
		agent  string
		states []string
		steps  string
	}{
		{"no steps", []string{growDot}, emptyRoom, []string{emptyRoom}, "[]"},
		{"no nodes", []string{growDot, openRoom}, "2; sites; 1; outer x; inner", []string{"2; sites; 1; outer x; inner"}, "[]"},
		{"no roots", []string{growDot}, nothing, []string{nothing}, "[]"},
		{"a step back to itself", []string{sameDot}, oneDot, []string{oneDot}, "[[0 0 0]]"},
		{"steps of MaxRules Rules back to itself", slices.Repeat([]string{sameDot}, 6), oneDot, []string{oneDot}, "[[0 0 0] [0 1 0] [0 2 0] [0 3 0] [0 4 0] [0 5 0]]"},
		{"a step back to an isomorphic agent", []string{"1; key@-1 0; key@-1 1; sites; 0; outer x y; inner -> 1; key@-1 1; key@-1 0; sites; 0; outer x y; inner |"}, "1; key@-1 1; key@-1 0; sites; 2; outer; inner", []string{"1; key@-1 0; key@-1 1; sites; 2; outer; inner"}, "[[0 0 0]]"},
		{"two Rules that lead to the same", []string{dropDot, dropDot}, oneDot, []string{oneDot, empty}, "[[0 0 1] [0 1 1]]"},
		{"a Rule without steps", []string{openRoom, dropDot}, oneDot, []string{oneDot, empty}, "[[0 1 1]]"},
		{"two Matches that lead to the same", []string{dropDot}, twoDots, []string{twoDots, oneDot, empty}, "[[0 0 1] [1 0 2]]"},
		{"two Matches that lead to different roots", []string{dropDot}, "2; dot@-2; dot@-1; sites; 0; outer; inner", []string{"2; dot@-1; dot@-2; sites; 0; outer; inner", "2; dot@-2; sites; 0; outer; inner", "2; dot@-1; sites; 0; outer; inner", "2; sites; 0; outer; inner"}, "[[0 0 1] [0 0 2] [1 0 3] [2 0 3]]"},
		{"a loop", []string{dotRoom, roomDot}, oneDot, []string{oneDot, emptyRoom}, "[[0 0 1] [1 1 0]]"},
		{"two loops", []string{dotRoom, roomDot}, twoDots, []string{twoDots, "1; room@-1; dot@-1; sites; 0; outer; inner", "1; room@-1; room@-1; sites; 0; outer; inner"}, "[[0 0 1] [1 0 2] [1 1 0] [2 1 1]]"},
		{"an agent with other numbers", []string{roomDot}, "1; dot@-1; room@-1; sites; 0; outer; inner", []string{"1; room@-1; dot@-1; sites; 0; outer; inner", twoDots}, "[[0 0 1]]"},
		{"Rules in an order", []string{openRoom, dropRoom}, "1; room@-1; dot@0; dot@0; sites; 0; outer; inner", []string{"1; room@-1; dot@0; dot@0; sites; 0; outer; inner", twoDots, oneDot}, "[[0 0 1] [0 1 2]]"},
		{"Rules in another order", []string{dropRoom, openRoom}, "1; room@-1; dot@0; dot@0; sites; 0; outer; inner", []string{"1; room@-1; dot@0; dot@0; sites; 0; outer; inner", oneDot, twoDots}, "[[0 0 1] [0 1 2]]"},
		{"states that are found before those behind them", []string{openRoom, dropKey}, "1; room@-1; key@0 0; " + closed, []string{"1; room@-1; key@0 0; " + closed, "1; key@-1 0; " + closed, "1; room@-1; " + closed, "1; " + closed}, "[[0 0 1] [0 1 2] [1 1 3] [2 0 3]]"},
		{"Matches in order", []string{dropDot}, "1; dot@-1; room@-1; dot@1; sites; 0; outer; inner", []string{"1; room@-1; dot@-1; dot@0; sites; 0; outer; inner", "1; room@-1; dot@0; sites; 0; outer; inner", "1; room@-1; dot@-1; sites; 0; outer; inner", emptyRoom}, "[[0 0 1] [0 0 2] [1 0 3] [2 0 3]]"},
		{"Matches that are not active", []string{dropDot}, "1; box@-1 0; dot@0; " + closed, []string{"1; box@-1 0; dot@0; " + closed}, "[]"},
		{"edges that become idle", []string{dropKey}, "1; key@-1 0; key@-1 1; sites; 2; outer; inner", []string{"1; key@-1 0; key@-1 1; sites; 2; outer; inner", "1; key@-1 0; sites; 2; outer; inner", "1; sites; 2; outer; inner"}, "[[0 0 1] [1 0 2]]"},
		{"names that become idle", []string{dropKey}, "1; key@-1 0; key@-1 1; sites; 0; outer x y; inner", []string{"1; key@-1 0; key@-1 1; sites; 0; outer x y; inner", "1; key@-1 1; sites; 0; outer x y; inner", "1; key@-1 0; sites; 0; outer x y; inner", "1; sites; 0; outer x y; inner"}, "[[0 0 1] [0 0 2] [1 0 3] [2 0 3]]"},
		{"nodes that come out", []string{freeDots}, "1; room@-1; dot@0; dot@0; sites; 0; outer; inner", []string{"1; room@-1; dot@0; dot@0; sites; 0; outer; inner", "1; room@-1; dot@-1; dot@0; sites; 0; outer; inner", "1; room@-1; dot@-1; dot@-1; sites; 0; outer; inner"}, "[[0 0 1] [1 0 2]]"},
	} {
		rules, agent := rulesOf(t, e.rules...), read(t, e.agent)
		want := impl.System{}
		for _, text := range e.states {
			want.States = append(want.States, read(t, text))
		}
		n := len(want.States)
		for _, most := range []int{n, n + 1, 40} {
			x, ok := checkExplored(t, rules, agent, most)
			if !ok || systemWords(x) != systemWords(impl.System{States: want.States, Steps: x.Steps}) || fmt.Sprint(x.Steps) != e.steps {
				t.Errorf("the System with %s, with at most %d states, is\n%s, %v; want\n%s%s", e.told, most, systemWords(x), ok, systemWords(want), e.steps)
			}
		}
		for _, most := range []int{n - 1, 0, -1, 41, math.MinInt, math.MaxInt} {
			if x, ok := checkExplored(t, rules, agent, most); ok {
				t.Errorf("the System with %s, with at most %d states, is %v", e.told, most, x)
			}
		}
	}
}

func TestMostStates(t *testing.T) {
	// Where a dot can be dropped, there are 5 * 4 * 2 states. The other Rule can only be applied to the
	// first one, and leads to one more.
	drop := ruleOf(t, dropDot)
	once := impl.Rule{Redex: dotsUnder(4, 3, 1), Reactum: read(t, "3; room@-1; room@-2; sites; 0; outer; inner")}
	for _, e := range []struct {
		told   string
		rules  []impl.Rule
		agent  impl.Bigraph
		states int
		steps  int
	}{
		{"one state", []impl.Rule{drop}, dotsUnder(0, 0), 1, 0},
		{"two states", []impl.Rule{drop}, dotsUnder(1), 2, 1},
		{"nine states", []impl.Rule{drop}, dotsUnder(8), 9, 8},
		{"39 states of 40", []impl.Rule{drop}, dotsUnder(4, 3, 1), 40, 4*4*2 + 5*3*2 + 5*4},
		{"40 states of 41", []impl.Rule{drop, once}, dotsUnder(4, 3, 1), 41, 0},
		{"40 states of 48", []impl.Rule{drop}, dotsUnder(3, 3, 2), 48, 0},
	} {
		x, ok := impl.ExploreSystem(house(), e.rules, e.agent, min(40, e.states))
		if ok != (e.states <= 40) || ok && (len(x.States) != e.states || len(x.Steps) != e.steps) {
			t.Errorf("ExploreSystem of %d states = %d, %d, %v", e.states, len(x.States), len(x.Steps), ok)
		}
		if ok {
			whole, fine := impl.IsWhole(house(), e.rules, x)
			wantReport(t, whole, fine, true, "IsWhole of %d states", e.states)
		}
		for _, most := range append(extremes(), e.states-1, e.states, e.states+1, 39, 40, 41) {
			possible := e.states <= most && most <= 40
			other, ok := impl.ExploreSystem(house(), e.rules, e.agent, most)
			wantSystem(t, other, ok, x, possible, "ExploreSystem with at most %d states of %d", most, e.states)
		}
	}
}

func TestExplorationsThatFail(t *testing.T) {
	openBox := "1; box@-1 0; sites 0; 0; outer x; inner -> 1; room@-1; sites 0; 0; outer x; inner | 0"
	four := dotsUnder(4)
	lists := map[string][]impl.Rule{
		"growDot":           rulesOf(t, growDot),
		"openBox":           rulesOf(t, openBox),
		"openBox, growDot":  rulesOf(t, openBox, growDot),
		"growDot, openBox":  rulesOf(t, growDot, openBox),
		"roomDot":           rulesOf(t, roomDot),
		"roomDot, fourDots": {ruleOf(t, roomDot), {Redex: four, Reactum: four}},
	}
	boxed := func(dots int) impl.Bigraph {
		return inOneRoot(t, 1, append([]string{"box@-1 0"}, times(dots, "dot@0")...)...)
	}
	for _, e := range []struct {
		told   string
		rules  string
		agent  impl.Bigraph
		states int
	}{
		{"the first state has too many nodes for a step", "growDot", dotsUnder(8), 0},
		{"the last one of eight states has too many nodes for a step", "growDot", dotsUnder(1), 0},
		{"the second state has too many nodes for a step", "openBox, growDot", boxed(7), 0},
		{"the second state has too many nodes for a step of the first Rule", "growDot, openBox", boxed(7), 0},
		{"nothing fails without that Rule", "openBox", boxed(7), 2},
		{"the third state has too many nodes for a step", "openBox, growDot", boxed(6), 0},
		{"the seventh state has too many Matches", "roomDot, fourDots", inOneRoot(t, 0, append(times(7, "room@-1"), "dot@-1")...), 0},
		{"no state has too many Matches", "roomDot, fourDots", inOneRoot(t, 0, append(times(5, "room@-1"), "dot@-1")...), 6},
		{"nothing fails without so many Matches", "roomDot", inOneRoot(t, 0, append(times(7, "room@-1"), "dot@-1")...), 8},
	} {
		x, ok := impl.ExploreSystem(house(), lists[e.rules], e.agent, 40)
		if ok != (e.states > 0) || len(x.States) != e.states || !ok && len(x.Steps) > 0 {
			t.Errorf("ExploreSystem, where %s, = %v, %v", e.told, x, ok)
		}
	}
	dot := read(t, oneDot)
	good := ruleOf(t, sameDot)
	bad := impl.Rule{Redex: dot, Reactum: dot, Copies: []int{0}}
	for n := range 9 {
		rules := slices.Repeat([]impl.Rule{good}, n)
		x, ok := impl.ExploreSystem(house(), rules, dot, 1)
		if ok != (n >= 1 && n <= 6) || len(x.Steps) != map[bool]int{true: n}[ok] {
			t.Errorf("ExploreSystem of %d Rules = %v, %v", n, x, ok)
		}
		for k := range rules {
			broken := slices.Clone(rules)
			broken[k] = bad
			x, ok := impl.ExploreSystem(house(), broken, dot, 40)
			// Also where the Rule has no Match.
			y, fine := impl.ExploreSystem(house(), broken, read(t, nothing), 40)
			wantFailures(t, [][]any{{x, ok}, {y, fine}}, "ExploreSystem of %d Rules, and one that is not valid", n-1)
		}
	}
	for _, agent := range append(brokenBigraphs(), twoRooms(), read(t, oneRoom), read(t, "1; dot@-1; sites; 1; outer; inner x=0"), fullBigraph(), impl.Bigraph{Roots: 1, Nodes: make([]impl.Node, 1000000)}) {
		x, ok := impl.ExploreSystem(house(), []impl.Rule{good}, agent, 40)
		wantFailures(t, [][]any{{x, ok}}, "ExploreSystem from %.200v", agent)
	}
}

func TestExploredSamples(t *testing.T) {
	t.Parallel()
	r, counts := rand.New(rand.NewSource(212)), map[string]int{}
	for _, agent := range agentSamples(213, 900, 4) {
		rules := rulesFor(r, agent, 1+r.Intn(3), 3)
		most := 1 + r.Intn(8)
		x, ok := checkExplored(t, rules, agent, most)
		counts[fmt.Sprint(ok, " ", min(3, len(x.States)), " ", len(x.States) == most)]++
		for _, s := range x.Steps {
			counts[fmt.Sprint("loop ", s[0] == s[2])]++
		}
	}
	wantAtLeast(t, counts, 20, "true 1 true", "true 1 false", "true 2 true", "true 2 false", "true 3 true", "true 3 false", "false 0 false", "loop true", "loop false")
}

// walk is the whole System of two Rules that take a key out of a room, and drop it.
func walk(t *testing.T) ([]impl.Rule, impl.System) {
	t.Helper()
	rules := rulesOf(t, openRoom, dropKey)
	x := impl.System{Steps: [][3]int{{0, 0, 1}, {0, 1, 2}, {1, 1, 3}, {2, 0, 3}}}
	for _, nodes := range []string{"; room@-1; key@0 0", "; key@-1 0", "; room@-1", ""} {
		x.States = append(x.States, read(t, "1"+nodes+"; sites; 2; outer; inner"))
	}
	return rules, x
}

func TestWholeSystems(t *testing.T) {
	rules, x := walk(t)
	if broken, ok := checkWhole(t, rules, x); !ok || len(broken) > 0 {
		t.Fatalf("the System is not whole: %v", broken)
	}
	steps := func(list ...[3]int) func(*impl.System) { return func(y *impl.System) { y.Steps = list } }
	state := func(at int, text string) func(*impl.System) {
		return func(y *impl.System) { y.States[at] = read(t, text) }
	}
	more := func(text string, list ...[3]int) func(*impl.System) {
		return func(y *impl.System) {
			y.States = append(y.States, read(t, text))
			y.Steps = inOrder(append(y.Steps, list...))
		}
	}
	without := func(at int) func(*impl.System) { return func(y *impl.System) { *y = withoutState(*y, at) } }
	moved := func(to ...int) func(*impl.System) { return func(y *impl.System) { *y = renumberedSystem(*y, to) } }
	for _, e := range []struct {
		told   string
		change func(*impl.System)
		broken []int
	}{
		{"states in another order", moved(0, 3, 2, 1), nil},
		{"states in the opposite order", moved(3, 2, 1, 0), []int{notReached}},
		{"another state first", moved(1, 0, 2, 3), []int{notReached}},
		{"no last state", without(3), []int{notClosed}},
		{"no second state", without(1), []int{notClosed}},
		{"no first state", without(0), []int{notReached}},
		{"the last state alone", func(y *impl.System) { *y = impl.System{States: y.States[3:]} }, nil},
		{"the first state alone", func(y *impl.System) { *y = impl.System{States: y.States[:1]} }, []int{notClosed}},
		{"no Steps", steps(), []int{notReached, otherSteps}},
		{"no first Step", steps(x.Steps[1:]...), []int{notReached, otherSteps}},
		{"no last Step", steps(x.Steps[:3]...), []int{otherSteps}},
		{"no third Step", steps(x.Steps[0], x.Steps[1], x.Steps[3]), []int{otherSteps}},
		{"a Step more by the same Rule", steps(append(slices.Clone(x.Steps), [3]int{3, 0, 3})...), []int{otherSteps}},
		{"a Step more by the other Rule", steps(x.Steps[0], x.Steps[1], [3]int{1, 0, 3}, x.Steps[2], x.Steps[3]), []int{otherSteps}},
		{"a Step more by a Rule that is not in the list", steps(append(slices.Clone(x.Steps), [3]int{2, 5, 3})...), []int{otherSteps}},
		{"a Step more to another state", steps(x.Steps[0], [3]int{0, 0, 3}, x.Steps[1], x.Steps[2], x.Steps[3]), []int{otherSteps}},
		{"a Step back", steps(append(slices.Clone(x.Steps), [3]int{3, 1, 0})...), []int{otherSteps}},
		{"a Step by another Rule", steps([3]int{0, 1, 1}, x.Steps[1], x.Steps[2], x.Steps[3]), []int{otherSteps}},
		{"Steps with their Rules exchanged", steps([3]int{0, 0, 2}, [3]int{0, 1, 1}, [3]int{1, 0, 3}, [3]int{2, 1, 3}), []int{otherSteps}},
		{"a state twice", more("1; sites; 2; outer; inner"), []int{otherStates}},
		{"a state twice, with the same Steps", more("1; key@-1 0; sites; 2; outer; inner", [3]int{0, 0, 4}, [3]int{4, 1, 3}), []int{otherStates}},
		{"the first state twice", more("1; room@-1; key@0 0; sites; 2; outer; inner", [3]int{4, 0, 1}, [3]int{4, 1, 2}), []int{otherStates}},
		{"an isomorphic state in the place of one", state(1, "1; key@-1 1; sites; 2; outer; inner"), []int{otherStates}},
		{"an isomorphic state first", state(0, "1; room@-1; key@0 1; sites; 2; outer; inner"), []int{otherStates}},
		{"an isomorphic state more", more("1; key@-1 1; sites; 2; outer; inner", [3]int{4, 1, 3}), []int{otherStates}},
		{"a state more that no way reaches", more("1; dot@-1; sites; 2; outer; inner"), []int{notReached}},
		{"a state more that leads to others, and that no way reaches", more("1; room@-1; room@-1; sites; 2; outer; inner", [3]int{4, 0, 2}), []int{notReached}},
		{"a state more that wrong Steps reach", more("1; dot@-1; sites; 2; outer; inner", [3]int{3, 0, 4}), []int{otherSteps}},
		{"a state more that leads to none", more("1; dot@-1; room@-1; sites; 2; outer; inner"), []int{otherStates}},
		{"a canonical state more that leads to none", more("1; room@-1; dot@-1; sites; 2; outer; inner"), []int{notReached, notClosed}},
		{"another state in the place of one", state(3, "1; dot@-1; sites; 2; outer; inner"), []int{notClosed, otherSteps}},
		{"a state with another number of edges", state(3, "1; sites; 1; outer; inner"), []int{notClosed, otherSteps}},
		{"a state with an outer name more", state(3, "1; sites; 2; outer x; inner"), []int{notClosed, otherSteps}},
		{"a state with a site", state(3, "1; sites -1; 2; outer; inner"), []int{otherStates}},
		{"a state with an inner name", state(3, "1; sites; 2; outer; inner a=0"), []int{otherStates}},
		{"a state that is not valid", func(y *impl.System) { y.States[2].Roots = 5 }, []int{otherStates}},
		{"a first state that is not valid", func(y *impl.System) { y.States[0].Nodes[1].Parent = 1 }, []int{otherStates}},
		{"states that are not valid alone", func(y *impl.System) { *y = stepsOnly(4, y.Steps...) }, []int{otherStates}},
	} {
		y := cloneOfSystem(x)
		e.change(&y)
		if !isSystemAs(y) {
			t.Fatalf("the System with %s is not valid: %v", e.told, y)
		}
		if broken, ok := checkWhole(t, rules, y); !ok || !slices.Equal(broken, e.broken) {
			t.Errorf("the System with %s breaks the conditions %v, %v; want %v", e.told, broken, ok, e.broken)
		}
	}
}

func TestIsWholeFails(t *testing.T) {
	rules, x := walk(t)
	full, dot := dotsUnder(8), read(t, oneDot)
	grow := rulesOf(t, growDot)
	for _, e := range []struct {
		told   string
		rules  []impl.Rule
		states []impl.Bigraph
		fits   bool
	}{
		{"the only state", grow, []impl.Bigraph{full}, false},
		{"the last state, which no way reaches", grow, []impl.Bigraph{dot, full}, false},
		{"the first state", grow, []impl.Bigraph{full, dot}, false},
		{"no state", grow, []impl.Bigraph{dot, dotsUnder(7)}, true},
		{"no state for this Rule", rulesOf(t, sameDot), []impl.Bigraph{dot, full}, true},
		{"the state that there is twice", grow, []impl.Bigraph{full, full}, true},
		{"a state beside one that is there twice", grow, []impl.Bigraph{full, dot, dot}, true},
		{"a state beside one that is no agent", grow, []impl.Bigraph{full, read(t, oneRoom)}, true},
		{"a state before one that is not valid", grow, []impl.Bigraph{full, {Roots: -1}}, true},
		{"a state behind one that is not valid", grow, []impl.Bigraph{{Roots: -1}, full}, true},
		{"a state beside one that is not canonical", grow, []impl.Bigraph{full, read(t, "1; key@-1 1; sites; 2; outer; inner")}, true},
		{"a state for the last Rule", rulesOf(t, sameDot, openRoom, growDot), []impl.Bigraph{dot, full}, false},
	} {
		broken, ok := checkWhole(t, e.rules, impl.System{States: e.states})
		if ok != e.fits || ok && len(broken) == 0 {
			t.Errorf("IsWhole, where StepsOf fails for %s, = %v, %v", e.told, broken, ok)
		}
	}
	bad := impl.Rule{Redex: dot, Reactum: dot, Copies: []int{0}}
	for _, y := range []impl.System{x, stepsOnly(3), {States: []impl.Bigraph{full, full}}} {
		for _, list := range [][]impl.Rule{nil, {}, slices.Repeat(rules[:1], 7), slices.Repeat(rules[:1], 10000), {bad}, {rules[0], bad}, {bad, rules[0]}, {{}}} {
			is, ok := impl.IsWhole(house(), list, y)
			wantFailures(t, [][]any{{is, ok}}, "IsWhole(%.200v, %v)", list, y)
		}
		for _, sig := range append(badSignatures(), house()[:1], []impl.Control{{Name: "dot"}}) {
			is, ok := impl.IsWhole(sig, rules, y)
			wantFailures(t, [][]any{{is, ok}}, "IsWhole over %.100v", sig)
		}
	}
	// The steps of so many Rules are right.
	six := impl.System{States: []impl.Bigraph{dot}}
	for n := range 6 {
		six.Steps = append(six.Steps, [3]int{0, n, 0})
		if broken, ok := checkWhole(t, rulesOf(t, slices.Repeat([]string{sameDot}, n+1)...), six); !ok || len(broken) > 0 {
			t.Errorf("the System of %d Rules breaks the conditions %v, %v", n+1, broken, ok)
		}
	}
}

func TestWholeSamples(t *testing.T) {
	t.Parallel()
	r, counts := rand.New(rand.NewSource(214)), map[string]int{}
	for _, agent := range agentSamples(215, 700, 4) {
		rules := rulesFor(r, agent, 1+r.Intn(3), 3)
		x, ok := impl.ExploreSystem(house(), rules, agent, 6)
		if !ok {
			continue
		}
		for range 5 {
			y, n := cloneOfSystem(x), len(x.States)
			switch r.Intn(8) {
			case 0:
				y = renumberedSystem(x, r.Perm(n))
			case 1:
				y = withoutState(x, r.Intn(n))
			case 2:
				y.Steps = someOf(r, y.Steps, len(y.Steps))
			case 3:
				y.Steps = inOrder(append(y.Steps, [3]int{r.Intn(n), r.Intn(6), r.Intn(n)}))
			case 4:
				y.States[r.Intn(n)] = shuffled(r, pick(r, x.States))
			case 5:
				y.States = append(y.States, formAs(agentOf(r, 3)))
			case 6:
				y.States[r.Intn(n)] = formAs(agentOf(r, 4))
			case 7:
				// Rules that make more nodes cannot be applied to this one.
				full := cloneOf(pick(r, x.States))
				for full.Roots > 0 && len(full.Nodes) < 8 {
					full.Nodes = append(full.Nodes, impl.Node{Control: 4, Parent: -1})
				}
				y.States = append(y.States, formAs(full))
			}
			if len(y.States) == 0 {
				continue
			}
			broken, ok := checkWhole(t, rules, y)
			counts[fmt.Sprint(ok, " ", broken)]++
		}
	}
	wantAtLeast(t, counts, 5, "true []", "true [0]", "true [1]", "true [2]", "true [3]", "true [1 3]", "true [1 2]", "true [2 3]", "false []")
}

func TestStatesOfAgents(t *testing.T) {
	_, x := walk(t)
	x.States = append(x.States, x.States[1], read(t, "1; room@-1; room@0; sites; 2; outer; inner"), read(t, "1; dot@-1; room@-1; sites; 0; outer; inner"), impl.Bigraph{Roots: 9})
	for _, e := range []struct {
		told, agent string
		want        int
	}{
		{"the first state", "1; room@-1; key@0 0; sites; 2; outer; inner", 0},
		{"an isomorphic agent", "1; room@-1; key@0 1; sites; 2; outer; inner", 0},
		{"a state that is there twice", "1; key@-1 0; sites; 2; outer; inner", 1},
		{"an agent that is isomorphic to a state that is there twice", "1; key@-1 1; sites; 2; outer; inner", 1},
		{"a state without nodes", "1; sites; 2; outer; inner", 3},
		{"a state behind others", "1; room@-1; room@0; sites; 2; outer; inner", 5},
		{"a state that is not its own canonical form", "1; dot@-1; room@-1; sites; 0; outer; inner", -1},
		{"an agent that is isomorphic to such a state", "1; room@-1; dot@-1; sites; 0; outer; inner", -1},
		{"another number of edges", "1; sites; 1; outer; inner", -1},
		{"another number of roots", "2; room@-1; sites; 2; outer; inner", -1},
		{"an outer name more", "1; sites; 2; outer x; inner", -1},
		{"another place", "1; room@-1; key@-1 0; sites; 2; outer; inner", -1},
		{"another Control", "1; box@-1 0; sites; 2; outer; inner", -1},
		{"nothing", nothing, -1},
	} {
		if state := checkState(t, x, read(t, e.agent)); state != e.want {
			t.Errorf("StateOf %s = %d; want %d", e.told, state, e.want)
		}
	}
	// The States are equal to these, which are no agents.
	x.States = append(brokenBigraphs()[:20], twoRooms(), read(t, oneRoom), read(t, "1; sites; 1; outer; inner a=0"), fullBigraph())
	for _, agent := range append(brokenBigraphs(), x.States...) {
		state, ok := impl.StateOf(house(), x, agent)
		wantFailures(t, [][]any{{state, ok}}, "StateOf(%v)", agent)
	}
	for _, b := range x.States {
		y := impl.System{States: []impl.Bigraph{b, b, read(t, oneDot)}}
		if state := checkState(t, y, read(t, oneDot)); state != 2 {
			t.Errorf("StateOf a dot behind %v = %d", b, state)
		}
	}
}

func TestStatesWithPatterns(t *testing.T) {
	_, x := walk(t)
	x.States = append(x.States, read(t, "1; box@-1 0; key@0 1; dot@0; sites; 2; outer; inner"), x.States[1], read(t, "2; key@-1 0; key@-2 0; sites; 1; outer x; inner"), read(t, "1; dot@-1; key@-1 0; sites; 1; outer; inner"), read(t, nothing))
	for _, e := range []struct {
		told, pattern string
		want          []int
	}{
		{"a Match, active or not", keyOfX, []int{0, 1, 4, 5, 6, 7}},
		{"a Match that is not active", "1; key@-1 0; dot@-1; sites; 0; outer x; inner", []int{4, 7}},
		{"a Match of several nodes", "1; room@-1; key@0 0; sites; 0; outer x; inner", []int{0}},
		{"a Match of an edge", "1; key@-1 0; sites; 1; outer; inner", []int{0, 1, 4, 5, 7}},
		{"Matches in two roots", "2; key@-1 0; key@-2 0; sites; 0; outer y; inner", []int{6}},
		{"a Match of a node without children", emptyRoom, []int{2}},
		{"a Match of a node with any children", oneRoom, []int{0, 2}},
		{"no Match", "1; pen@-1 0 0 0; sites; 0; outer x; inner", []int{}},
	} {
		states, ok := impl.PatternStates(house(), x, read(t, e.pattern))
		if want := patternStatesAs(x, read(t, e.pattern)); !ok || !slices.Equal(states, e.want) || !slices.Equal(want, e.want) {
			t.Errorf("PatternStates with %s = %v, %v; want %v", e.told, states, ok, e.want)
		}
	}
	none := []string{nothing, "1; sites; 0; outer; inner", "1; room@-1; sites -1; 0; outer; inner", "1; room@-1; sites 0 0; 0; outer; inner", "2; room@-1; sites; 0; outer; inner",
		"1; dot@-1; sites; 1; outer; inner", "1; dot@-1; sites; 0; outer x; inner", "1; key@-1 0; sites; 0; outer x; inner a=0"}
	bad := brokenBigraphs()
	for _, text := range none {
		bad = append(bad, read(t, text))
	}
	for _, pattern := range bad {
		states, ok := impl.PatternStates(house(), x, pattern)
		wantFailures(t, [][]any{{states, ok}}, "PatternStates(%v)", pattern)
	}
	pattern := read(t, keyOfX)
	for _, b := range append(brokenBigraphs(), read(t, oneRoom), read(t, "1; key@-1 0; sites; 1; outer; inner a=0"), twoRooms()) {
		for at := range x.States {
			y := cloneOfSystem(x)
			y.States[at] = b
			states, ok := impl.PatternStates(house(), y, pattern)
			wantFailures(t, [][]any{{states, ok}}, "PatternStates, where the state %d is %v", at, b)
		}
	}
	// There are far more than MaxMatches Matches.
	many := impl.System{States: []impl.Bigraph{dotsUnder(8), dotsUnder(6), dotsUnder(7, 1)}, Steps: [][3]int{{2, 5, 0}}}
	states, ok := impl.PatternStates(house(), many, dotsUnder(7))
	wantInts(t, states, ok, []int{0, 2}, true, "PatternStates of seven dots")
}

func TestPatternStatesOfSamples(t *testing.T) {
	t.Parallel()
	r, counts := rand.New(rand.NewSource(216)), map[string]int{}
	for range 600 {
		x := impl.System{States: agentSamples(r.Int63(), 1+r.Intn(5), 5)}
		for range 4 {
			pattern, _ := redexIn(r, pick(r, x.States), 1+r.Intn(3))
			states, ok := impl.PatternStates(house(), x, pattern)
			wantInts(t, states, ok, patternStatesAs(x, pattern), true, "PatternStates(%v, %v)", x, pattern)
			counts[fmt.Sprint(min(3, len(states)), " ", len(states) == len(x.States))]++
		}
		if state := checkState(t, x, shuffled(r, pick(r, x.States))); state >= 0 {
			counts["state"]++
		} else {
			counts["no state"]++
		}
	}
	wantAtLeast(t, counts, 20, "1 true", "1 false", "2 true", "2 false", "3 true", "3 false", "state", "no state")
}

func TestSystemsNeedSignatures(t *testing.T) {
	rules, dot := rulesOf(t, sameDot), read(t, oneDot)
	x := impl.System{States: []impl.Bigraph{dot}, Steps: [][3]int{{0, 0, 0}}}
	calls := func(sig []impl.Control, agent impl.Bigraph) [][]any {
		explored, ok := impl.ExploreSystem(sig, rules, agent, 40)
		return append(callsOfStates(sig, rules, x, agent, dot), []any{explored, ok})
	}
	for i, results := range calls(house(), dot) {
		if results[len(results)-1] != true {
			t.Errorf("call %d fails for valid arguments: %v", i, results)
		}
	}
	for _, sig := range append(badSignatures(), house()[:4], []impl.Control{{Name: "dot"}}) {
		wantFailures(t, calls(sig, dot), "a dot over %.100v", sig)
	}
	for _, sig := range badSignatures() {
		wantFailures(t, calls(sig, impl.Bigraph{}), "nothing over %.100v", sig)
	}
}

func TestResultsOfSystemsAreNew(t *testing.T) {
	t.Parallel()
	r := rand.New(rand.NewSource(217))
	for i, kept := range append(agentSamples(218, 150, 5), dotsUnder(3, 2), read(t, oneDot)) {
		madeRules := rulesFor(r, kept, 1+r.Intn(3), 3)
		if i%3 == 0 {
			madeRules = rulesOf(t, dropDot, openRoom, dropKey, sameDot)
		}
		made, ok := impl.ExploreSystem(house(), madeRules, kept, 12)
		if !ok {
			continue
		}
		sig, agent, x, rules := house(), cloneOf(kept), cloneOfSystem(made), []impl.Rule{}
		for _, rule := range madeRules {
			rules = append(rules, cloneOfRule(rule))
		}
		pattern, _ := redexIn(r, kept, 2)
		n := len(x.States)
		goals, ranks, keptPattern := randomStates(r, n), numbersFrom(0, n), cloneOf(pattern)
		way := [][3]int{}
		if last, ok := impl.ShortestWay(x, 0, []int{n - 1}); ok {
			way = append(way, last...)
		}
		keptGoals, keptWay := slices.Clone(goals), slices.Clone(way)
		calls := func() [][]any {
			explored, ok := impl.ExploreSystem(sig, rules, agent, 12)
			all := append(callsOfStates(sig, rules, x, agent, pattern), []any{explored, ok})
			return slices.Concat(all, callsOfSystem(x, way), callsFromState(x, 0, []int{n - 1}, way, 3), callsWithStates(x, 0, goals, ranks))
		}
		wantOwnMemory(t, calls(), calls(), sig, rules, agent, x, pattern, goals, ranks, way)
		wantNewResults(t, calls(), calls)
		same := slices.EqualFunc(rules, madeRules, isSameRule) && isSame(agent, kept) && isSameSystem(x, made) && isSame(pattern, keptPattern)
		if !same || !slices.Equal(goals, keptGoals) || !slices.Equal(way, keptWay) || !slices.Equal(ranks, numbersFrom(0, n)) || !slices.Equal(sig, house()) {
			t.Fatalf("a call has changed %v, %v, %v, %v or %v, or the results share their memory", rules, agent, x, goals, way)
		}
	}
}

func TestVastSystems(t *testing.T) {
	many, dot, rules := 1000000, read(t, oneDot), rulesOf(t, sameDot)
	vast := impl.Bigraph{Roots: 1, Nodes: make([]impl.Node, many), Sites: make([]int, many), Outer: slices.Repeat([]string{"x", "y"}, many)}
	for _, x := range []impl.System{{States: make([]impl.Bigraph, many)}, {States: make([]impl.Bigraph, 3), Steps: make([][3]int, many)}, {States: make([]impl.Bigraph, many), Steps: make([][3]int, many)}} {
		wantFailures(t, allCalls(x, rules, dot, 0, nil, nil, nil, 0), "a vast System")
	}
	// A State that is vast is not valid, but the Steps can be looked at.
	x := impl.System{States: []impl.Bigraph{dot, vast}, Steps: [][3]int{{0, 0, 0}, {0, 1, 1}}}
	checkSystem(t, x)
	checkGoals(t, x, []int{1})
	whole, ok := impl.IsWhole(house(), rules, x)
	wantReport(t, whole, ok, false, "IsWhole with a vast State")
	if state := checkState(t, x, dot); state != 0 {
		t.Errorf("StateOf a dot = %d", state)
	}
	states, one := impl.PatternStates(house(), x, dot)
	others, two := impl.PatternStates(house(), x, vast)
	state, three := impl.StateOf(house(), x, vast)
	explored, four := impl.ExploreSystem(house(), rules, vast, 40)
	wantFailures(t, [][]any{{states, one}, {others, two}, {state, three}, {explored, four}}, "vast arguments")
}

func TestConstantsOfSystems(t *testing.T) {
	if impl.MaxStates != 40 || impl.MaxRuns != 1000000000 {
		t.Error("the constants are", impl.MaxStates, impl.MaxRuns)
	}
}
