package tests

import (
	"fmt"
	"math"
	"math/rand"
	"slices"
	"strings"
	"testing"

	"loop.example/g01082/impl"
)

// plainActions tells the action 1 for each number of a Rule.
func plainActions() []int { return []int{1, 1, 1, 1, 1, 1} }

func wantLabelled(t *testing.T, got impl.Labelled, ok bool, want impl.Labelled, possible bool, call string, args ...any) {
	t.Helper()
	if !possible {
		want = impl.Labelled{}
	}
	if ok != possible || !isSameLabelled(got, want) {
		t.Fatalf("%.900s = %v, %v; want %v, %v", fmt.Sprintf(call, args...), got, ok, want, possible)
	}
}

func wantLabelSteps(t *testing.T, got []impl.LabelStep, ok bool, want []impl.LabelStep, possible bool, call string, args ...any) {
	t.Helper()
	if !possible {
		want = nil
	}
	if ok != possible || !slices.EqualFunc(got, want, isSameLabelStep) {
		t.Fatalf("%.900s = %v, %v; want %v, %v", fmt.Sprintf(call, args...), got, ok, want, possible)
	}
}

func wantBools(t *testing.T, got []bool, ok bool, want []bool, possible bool, call string, args ...any) {
	t.Helper()
	if !possible {
		want = nil
	}
	if ok != possible || !slices.Equal(got, want) {
		t.Fatalf("%.900s = %v, %v; want %v, %v", fmt.Sprintf(call, args...), got, ok, want, possible)
	}
}

// callsOfLabelled calls each function of the chapter that takes a Labelled system, but for
// IsLabelled.
func callsOfLabelled(l impl.Labelled, s int, u int, pairs [][2]int, f []int) [][]any {
	full, one := impl.SaturateLabels(l)
	least, two := impl.BisimilarOf(l)
	weak, three := impl.WeaklyBisimilarOf(l)
	is, four := impl.IsBisimulation(l, pairs)
	under, five := impl.IsSimulated(l, s, u)
	states, six := impl.Satisfying(l, f)
	apart, seven := impl.TellApart(l, s, u)
	small, eight := impl.QuotientOf(l)
	first, nine := impl.UnionOf(l, bare(1))
	second, ten := impl.UnionOf(bare(1), l)
	return [][]any{{full, one}, {least, two}, {weak, three}, {is, four}, {under, five}, {states, six}, {apart, seven}, {small, eight}, {first, nine}, {second, ten}}
}

// checkLabelled checks all that is said of a valid Labelled system, and of its states.
func checkLabelled(t *testing.T, l impl.Labelled) (least []int, tells map[[2]int][]int) {
	t.Helper()
	if !impl.IsLabelled(l) {
		t.Fatalf("IsLabelled(%v) = false", l)
	}
	least, tells = bisimilarAs(l), tellsOf(l)
	full, ok := impl.SaturateLabels(l)
	wantLabelled(t, full, ok, saturatedAs(l), true, "SaturateLabels(%v)", l)
	got, ok := impl.BisimilarOf(l)
	wantInts(t, got, ok, least, true, "BisimilarOf(%v)", l)
	got, ok = impl.WeaklyBisimilarOf(l)
	wantInts(t, got, ok, bisimilarAs(saturatedAs(l)), true, "WeaklyBisimilarOf(%v)", l)
	small, ok := impl.QuotientOf(l)
	wantLabelled(t, small, ok, quotientAs(l), true, "QuotientOf(%v)", l)
	simulated := simulatedAs(l)
	for s := range l.Shows {
		for u := range l.Shows {
			is, ok := impl.IsSimulated(l, s, u)
			wantReport(t, is, ok, simulated[s][u], "IsSimulated(%v, %d, %d)", l, s, u)
			f, ok := impl.TellApart(l, s, u)
			wantInts(t, f, ok, tells[[2]int{s, u}], tells[[2]int{s, u}] != nil, "TellApart(%v, %d, %d)", l, s, u)
		}
	}
	return least, tells
}

func checkRelation(t *testing.T, l impl.Labelled, pairs [][2]int) bool {
	t.Helper()
	is, ok := impl.IsBisimulation(l, pairs)
	wantReport(t, is, ok, isBisimulationAs(l, pairs), "IsBisimulation(%v, %.300v)", l, pairs)
	return is
}

// checkFormula checks what is said of a list of numbers, which need not be a formula, for a valid
// Labelled system.
func checkFormula(t *testing.T, l impl.Labelled, f []int) bool {
	t.Helper()
	possible := isFormulaAs(f)
	if is := impl.IsFormula(f); is != possible {
		t.Fatalf("IsFormula(%v) = %v", f, is)
	}
	want, words := []int{}, ""
	if possible {
		want, words = satisfyingAs(l, f), formulaWords(f)
	}
	states, ok := impl.Satisfying(l, f)
	wantInts(t, states, ok, want, possible, "Satisfying(%v, %.300v)", l, f)
	text, ok := impl.FormulaText(f)
	wantText(t, text, ok, words, possible, "FormulaText(%.300v)", f)
	if possible {
		again, ok := impl.ParseFormula(text)
		wantInts(t, again, ok, f, true, "ParseFormula(%q)", text)
	}
	return possible
}

func checkParsedFormula(t *testing.T, s string) bool {
	t.Helper()
	want, possible := formulaOfText(s)
	f, ok := impl.ParseFormula(s)
	wantInts(t, f, ok, want, possible, "ParseFormula(%.300q)", s)
	return ok
}

// chainOf has so many states, and a Step from each one but the last one to the next one.
func chainOf(states int, action int) impl.Labelled {
	l := bare(states)
	for state := range states - 1 {
		l.Steps = append(l.Steps, [3]int{state, action, state + 1})
	}
	return l
}

func TestLabelledSystemsThatAreValidAndNot(t *testing.T) {
	few := [][3]int{{0, 1, 1}, {1, 0, 2}}
	for _, e := range []struct {
		told string
		l    impl.Labelled
		is   bool
	}{
		{"no states", impl.Labelled{}, false},
		{"no states, but a Step", bare(0, [3]int{0, 0, 0}), false},
		{"one state", bare(1), true},
		{"one state and a Step", bare(1, [3]int{0, 0, 0}), true},
		{"MaxStates states", bare(40, few...), true},
		{"MaxStates states and Steps of the last one", bare(40, [3]int{0, 7, 39}, [3]int{39, 0, 0}, [3]int{39, 7, 39}), true},
		{"one more than MaxStates", bare(41, few...), false},
		{"one more than MaxStates, and no Steps", bare(41), false},
		{"a hundred thousand states", bare(100000, few...), false},
		{"all marks", labels("01234567"), true},
		{"the greatest mark", labels("- - 7", few...), true},
		{"one more than the greatest mark", labels("- - 8", few...), false},
		{"one more than the greatest mark behind others", labels("- 018 -", few...), false},
		{"a mark below 0", impl.Labelled{Shows: [][]int{{-1}}}, false},
		{"a mark below 0 in the last state", impl.Labelled{Shows: [][]int{{0}, {-1, 0}}}, false},
		{"the least number as a mark", impl.Labelled{Shows: [][]int{{math.MinInt, 3}}}, false},
		{"the greatest number as a mark", impl.Labelled{Shows: [][]int{{3, math.MaxInt}}}, false},
		{"64 as a mark", impl.Labelled{Shows: [][]int{{64}}}, false},
		{"a mark twice", labels("- 11 -", few...), false},
		{"marks that descend", labels("- - 10", few...), false},
		{"marks of which the last one descends", labels("021 - -", few...), false},
		{"marks that ascend, with gaps", labels("0 257 13", few...), true},
		{"an action below 0", bare(3, [3]int{0, -1, 1}, [3]int{0, 0, 1}), false},
		{"the greatest action", bare(3, [3]int{0, 7, 1}), true},
		{"one more than the greatest action", bare(3, [3]int{0, 0, 1}, [3]int{0, 8, 1}), false},
		{"the least number as an action", bare(3, [3]int{0, math.MinInt, 1}), false},
		{"the greatest number as an action", bare(3, [3]int{0, math.MaxInt, 1}), false},
		{"a Step from a number below 0", bare(3, [3]int{-1, 0, 1}), false},
		{"a Step from the first number that is no state", bare(3, [3]int{0, 0, 1}, [3]int{3, 0, 1}), false},
		{"a Step from the greatest number", bare(3, [3]int{math.MaxInt, 0, 1}), false},
		{"a Step to a number below 0", bare(3, [3]int{0, 0, -1}), false},
		{"a Step to the first number that is no state", bare(3, [3]int{0, 0, 1}, [3]int{0, 0, 3}), false},
		{"a Step to the least number", bare(3, [3]int{0, 0, math.MinInt}), false},
		{"a Step to the greatest number", bare(3, [3]int{0, 0, math.MaxInt}), false},
		{"a Step twice", bare(3, [3]int{0, 0, 1}, [3]int{0, 0, 1}), false},
		{"Steps whose first numbers descend", bare(3, [3]int{1, 0, 1}, [3]int{0, 1, 2}), false},
		{"Steps whose actions descend", bare(3, [3]int{0, 1, 1}, [3]int{0, 0, 2}), false},
		{"Steps whose third numbers descend", bare(3, [3]int{0, 0, 1}, [3]int{0, 0, 0}), false},
		{"Steps whose last numbers descend where the first ones ascend", bare(3, [3]int{0, 7, 2}, [3]int{1, 4, 1}, [3]int{2, 0, 0}), true},
		{"Steps whose third numbers descend where the actions ascend", bare(3, [3]int{0, 0, 2}, [3]int{0, 1, 1}, [3]int{0, 7, 0}), true},
	} {
		if is := isLabelledAs(e.l); is != e.is {
			t.Fatalf("a Labelled system with %s is valid: %v", e.told, is)
		}
		if is := impl.IsLabelled(e.l); is != e.is {
			t.Errorf("IsLabelled of one with %s = %v", e.told, is)
		}
		if !e.is {
			wantFailures(t, callsOfLabelled(e.l, 0, 0, nil, []int{0}), "a Labelled system with %s", e.told)
			wantFailures(t, callsOfLabelled(e.l, 0, 1, [][2]int{{0, 0}}, []int{1, 0}), "a Labelled system with %s", e.told)
			continue
		}
		checkLabelled(t, e.l)
		// Only TellApart fails, and UnionOf if there are too many states.
		for i, results := range callsOfLabelled(e.l, 0, 0, [][2]int{{0, 0}}, []int{0}) {
			if ok := i < 6 || i == 7 || i > 7 && len(e.l.Shows) < 40; results[len(results)-1] != ok {
				t.Errorf("call %d of one with %s: %v", i, e.told, results)
			}
		}
	}
}

func TestAllSmallLabelledSystems(t *testing.T) {
	t.Parallel()
	counts := map[string]int{}
	for i, l := range slices.Concat(allLabelled(1, 2), allLabelled(2, 2), allLabelled(3, 1)) {
		least, tells := checkLabelled(t, l)
		for _, f := range tells {
			checkFormula(t, l, f)
		}
		n := len(l.Shows)
		all := [][2]int{}
		for s := range n {
			for u := range n {
				all = append(all, [2]int{s, u})
			}
		}
		// Of the relations between three states, an eighth for each system.
		for k, pairs := range partsOfList(all) {
			if n < 3 || (i+k)%8 == 0 {
				counts[fmt.Sprint("relation ", checkRelation(t, l, pairs))]++
			}
		}
		counts[fmt.Sprint("bisimilar ", !slices.Equal(least, numbersFrom(0, n)))]++
	}
	wantAtLeast(t, counts, 1000, "relation true", "relation false", "bisimilar true", "bisimilar false")
}

// labelledSamples are Labelled systems of all sizes, often with states that are bisimilar.
func labelledSamples(seed int64, count int, most int) []impl.Labelled {
	r, list := rand.New(rand.NewSource(seed)), []impl.Labelled{}
	for range count {
		n := 1 + r.Intn(most)
		l := randomLabelled(r, n, 1+r.Intn(3*n), r.Intn(3), 1+r.Intn(3))
		switch r.Intn(3) {
		case 0:
			l, _ = blownUp(r, randomLabelled(r, 1+r.Intn(n), 2*n, r.Intn(2), 1+r.Intn(3)), n)
		case 1:
			l = randomLabelled(r, n, 2*n, r.Intn(2), 8)
		}
		list = append(list, l)
	}
	return list
}

func TestLabelledSamples(t *testing.T) {
	t.Parallel()
	r, counts := rand.New(rand.NewSource(270)), map[string]int{}
	for _, l := range slices.Concat(labelledSamples(271, 1500, 9), labelledSamples(272, 20, 40)) {
		least, tells := checkLabelled(t, l)
		n := len(l.Shows)
		rounds := togetherIn(l)
		for pair, f := range tells {
			round := slices.IndexFunc(rounds, func(together [][]bool) bool { return !together[pair[0]][pair[1]] })
			counts[fmt.Sprint("round ", min(3, round), " ", f != nil, " ", f != nil && f[0] == 2)]++
		}
		counts[fmt.Sprint("classes ", len(slices.Compact(slices.Sorted(slices.Values(least)))) == n)]++
		for range 4 {
			checkFormula(t, l, randomFormula(r, 1+r.Intn(20)))
		}
		// The whole relation of bisimilar states, some pairs of it, and pairs of any states.
		whole := [][2]int{}
		for s := range n {
			for u := range n {
				if least[s] == least[u] {
					whole = append(whole, [2]int{s, u})
				}
			}
		}
		if !checkRelation(t, l, whole) {
			t.Fatalf("bisimilar states of %v are no bisimulation", l)
		}
		for range 3 {
			counts[fmt.Sprint("part ", checkRelation(t, l, someOf(r, whole, len(whole))))]++
		}
		counts[fmt.Sprint("other ", checkRelation(t, l, append(someOf(r, whole, 3), [2]int{r.Intn(n), r.Intn(n)})))]++
	}
	wantAtLeast(t, counts, 20, "round 0 true false", "round 0 true true", "round 1 true false", "round 1 true true", "round 2 true false", "round 2 true true", "round 3 true false", "round 3 true true")
	wantAtLeast(t, counts, 100, "classes true", "classes false", "part true", "part false", "other true", "other false")
}

func TestNumbersThatAreNoStatesOfLabelledSystems(t *testing.T) {
	for _, l := range []impl.Labelled{bare(1), labels("- 0", [3]int{0, 1, 1}), chainOf(3, 0), chainOf(40, 7)} {
		n := len(l.Shows)
		for _, state := range append(extremes(), 0, n-1, n, n+1, 39, 40, 41, 63, 64, 65) {
			possible := state >= 0 && state < n
			for _, other := range []int{0, n - 1} {
				one, ok := impl.IsSimulated(l, state, other)
				two, fine := impl.IsSimulated(l, other, state)
				three, good := impl.IsBisimulation(l, [][2]int{{other, other}, {state, state}})
				if ok != possible || fine != possible || good != possible {
					t.Fatalf("IsSimulated and IsBisimulation of %v with %d and %d: %v, %v, %v", l, state, other, ok, fine, good)
				}
				if possible {
					continue
				}
				four, no := impl.TellApart(l, state, other)
				five, none := impl.TellApart(l, other, state)
				six, never := impl.IsBisimulation(l, [][2]int{{other, state}})
				seven, nowhere := impl.IsBisimulation(l, [][2]int{{0, 0}, {state, other}})
				all := [][]any{{one, ok}, {two, fine}, {three, good}, {four, no}, {five, none}, {six, never}, {seven, nowhere}}
				wantFailures(t, all, "%v with %d and %d", l, state, other)
			}
		}
	}
	// It also fails behind a pair that makes the relation no bisimulation.
	l := labels("- 0")
	is, ok := impl.IsBisimulation(l, [][2]int{{0, 1}, {0, 2}})
	wantFailures(t, [][]any{{is, ok}}, "IsBisimulation with a number that is no state, behind another pair")
}

func TestSaturatedExamples(t *testing.T) {
	for _, e := range []struct {
		told  string
		l     impl.Labelled
		shows string
		steps string
	}{
		{"no Steps", labels("- 3"), "[[] [3]]", "[[0 0 0] [1 0 1]]"},
		{"a Step to itself", labels("1", [3]int{0, 0, 0}), "[[1]]", "[[0 0 0]]"},
		{"no silent Steps", labels("0 1 2", [3]int{0, 1, 1}, [3]int{1, 1, 2}), "[[0] [1] [2]]", "[[0 0 0] [0 1 1] [1 0 1] [1 1 2] [2 0 2]]"},
		{"silent Steps one behind the other", labels("0 - 1", [3]int{0, 0, 1}, [3]int{1, 0, 2}), "[[0 1] [1] [1]]", "[[0 0 0] [0 0 1] [0 0 2] [1 0 1] [1 0 2] [2 0 2]]"},
		{"a silent Step in front of a Step", labels("- - -", [3]int{0, 0, 1}, [3]int{1, 2, 2}), "[[] [] []]", "[[0 0 0] [0 0 1] [0 2 2] [1 0 1] [1 2 2] [2 0 2]]"},
		{"a silent Step behind a Step", labels("- - 5", [3]int{0, 2, 1}, [3]int{1, 0, 2}), "[[] [5] [5]]", "[[0 0 0] [0 2 1] [0 2 2] [1 0 1] [1 0 2] [2 0 2]]"},
		{"two silent Steps in front of a Step and two behind it", bare(6, [3]int{0, 0, 1}, [3]int{1, 0, 2}, [3]int{2, 3, 3}, [3]int{3, 0, 4}, [3]int{4, 0, 5}), "[[] [] [] [] [] []]",
			"[[0 0 0] [0 0 1] [0 0 2] [0 3 3] [0 3 4] [0 3 5] [1 0 1] [1 0 2] [1 3 3] [1 3 4] [1 3 5] [2 0 2] [2 3 3] [2 3 4] [2 3 5] [3 0 3] [3 0 4] [3 0 5] [4 0 4] [4 0 5] [5 0 5]]"},
		{"two Steps between which there is a silent one", labels("- - - 1", [3]int{0, 1, 1}, [3]int{1, 0, 2}, [3]int{2, 1, 3}), "[[] [] [] [1]]", "[[0 0 0] [0 1 1] [0 1 2] [1 0 1] [1 0 2] [1 1 3] [2 0 2] [2 1 3] [3 0 3]]"},
		{"silent Steps in a loop", labels("0 1 2", [3]int{0, 0, 1}, [3]int{1, 0, 0}, [3]int{1, 1, 2}), "[[0 1] [0 1] [2]]", "[[0 0 0] [0 0 1] [0 1 2] [1 0 0] [1 0 1] [1 1 2] [2 0 2]]"},
		{"a loop of three silent Steps, against the order", labels("5 4 3", [3]int{0, 0, 2}, [3]int{1, 0, 0}, [3]int{2, 0, 1}), "[[3 4 5] [3 4 5] [3 4 5]]", "[[0 0 0] [0 0 1] [0 0 2] [1 0 0] [1 0 1] [1 0 2] [2 0 0] [2 0 1] [2 0 2]]"},
		{"silent Steps that lead together", labels("0 1 2 3", [3]int{0, 0, 1}, [3]int{0, 0, 2}, [3]int{1, 0, 3}, [3]int{2, 0, 3}), "[[0 1 2 3] [1 3] [2 3] [3]]", "[[0 0 0] [0 0 1] [0 0 2] [0 0 3] [1 0 1] [1 0 3] [2 0 2] [2 0 3] [3 0 3]]"},
		{"a Step beside silent ones", labels("- -", [3]int{0, 0, 1}, [3]int{0, 7, 0}), "[[] []]", "[[0 0 0] [0 0 1] [0 7 0] [0 7 1] [1 0 1]]"},
		{"saturated already", labels("12 2", [3]int{0, 0, 0}, [3]int{0, 0, 1}, [3]int{1, 0, 1}), "[[1 2] [2]]", "[[0 0 0] [0 0 1] [1 0 1]]"},
	} {
		checkLabelled(t, e.l)
		full, ok := impl.SaturateLabels(e.l)
		if !ok || fmt.Sprint(full.Shows) != e.shows || fmt.Sprint(full.Steps) != e.steps {
			t.Errorf("SaturateLabels with %s = %v, %v", e.told, full, ok)
		}
		again, ok := impl.SaturateLabels(full)
		wantLabelled(t, again, ok, full, true, "SaturateLabels(%v)", full)
	}
	// The longest silent way leads to a Step, whose states come in descending order.
	steps := [][3]int{{0, 1, 0}}
	for state := 1; state < 40; state++ {
		steps = append(steps, [3]int{state, 0, state - 1})
	}
	full, ok := impl.SaturateLabels(bare(40, steps...))
	if !ok || len(full.Steps) != 40*41/2+40 || !slices.Contains(full.Steps, [3]int{39, 1, 0}) || !slices.Contains(full.Steps, [3]int{39, 0, 0}) {
		t.Errorf("SaturateLabels of the longest silent way = %d Steps, %v", len(full.Steps), ok)
	}
	all := [][3]int{}
	for from := range 40 {
		for action := range 8 {
			for to := range 40 {
				all = append(all, [3]int{from, action, to})
			}
		}
	}
	full, ok = impl.SaturateLabels(bare(40, all...))
	wantLabelled(t, full, ok, bare(40, all...), true, "SaturateLabels of all Steps that there can be")
}

func TestBisimilarExamples(t *testing.T) {
	one := func(steps ...[3]int) [][3]int { return steps }
	for _, e := range []struct {
		told  string
		l     impl.Labelled
		least []int
		weak  []int
		below [][2]int
		not   [][2]int
	}{
		{"one state", labels("-"), []int{0}, []int{0}, [][2]int{{0, 0}}, nil},
		{"states without Steps", labels("- 0 - 0 01"), []int{0, 1, 0, 1, 4}, []int{0, 1, 0, 1, 4}, [][2]int{{0, 1}, {0, 4}, {1, 4}, {1, 3}}, [][2]int{{1, 0}, {4, 1}, {4, 0}}},
		{"other marks", labels("0 1"), []int{0, 1}, []int{0, 1}, nil, [][2]int{{0, 1}, {1, 0}}},
		{"a loop and a longer loop", labels("- - - -", one([3]int{0, 1, 0}, [3]int{1, 1, 2}, [3]int{2, 1, 3}, [3]int{3, 1, 1})...), []int{0, 0, 0, 0}, []int{0, 0, 0, 0}, [][2]int{{0, 3}, {3, 0}}, nil},
		{"other actions", labels("- - -", one([3]int{0, 1, 2}, [3]int{1, 2, 2})...), []int{0, 1, 2}, []int{0, 1, 2}, [][2]int{{2, 0}, {2, 1}}, [][2]int{{0, 1}, {1, 0}, {0, 2}}},
		{"one Step, and two to states that are alike", labels("- - - -", one([3]int{0, 1, 2}, [3]int{1, 1, 2}, [3]int{1, 1, 3})...), []int{0, 0, 2, 2}, []int{0, 0, 2, 2}, [][2]int{{0, 1}, {1, 0}}, nil},
		{"one Step, and two to states that are not alike", labels("- - 0 -", one([3]int{0, 1, 2}, [3]int{1, 1, 2}, [3]int{1, 1, 3})...), []int{0, 1, 2, 3}, []int{0, 1, 2, 3}, [][2]int{{0, 1}, {1, 0}}, nil},
		{"a choice before a Step, and behind it", labels("- - - - - 0 1", one([3]int{0, 1, 2}, [3]int{1, 1, 3}, [3]int{1, 1, 4}, [3]int{2, 1, 5}, [3]int{2, 1, 6}, [3]int{3, 1, 5}, [3]int{4, 1, 6})...),
			numbersFrom(0, 7), numbersFrom(0, 7), [][2]int{{1, 0}, {3, 2}, {4, 2}}, [][2]int{{0, 1}, {2, 3}}},
		{"simulated by each other without being bisimilar", labels("- - - - -", one([3]int{0, 1, 2}, [3]int{1, 1, 2}, [3]int{1, 1, 3}, [3]int{2, 1, 4})...), []int{0, 1, 2, 3, 3}, []int{0, 1, 2, 3, 3}, [][2]int{{0, 1}, {1, 0}, {3, 4}}, [][2]int{{2, 3}}},
		{"a silent Step and none", labels("- -", one([3]int{0, 0, 1})...), []int{0, 1}, []int{0, 0}, [][2]int{{1, 0}}, [][2]int{{0, 1}}},
		{"a silent Step in front of a Step", labels("- - -", one([3]int{0, 0, 1}, [3]int{1, 1, 2})...), []int{0, 1, 2}, []int{0, 0, 2}, [][2]int{{2, 0}}, [][2]int{{0, 1}, {1, 0}}},
		{"a silent Step behind a Step", labels("- - 0 0", one([3]int{0, 1, 2}, [3]int{1, 1, 3}, [3]int{3, 0, 2})...), []int{0, 1, 2, 3}, []int{0, 0, 2, 2}, [][2]int{{0, 1}, {2, 3}}, [][2]int{{1, 0}, {3, 2}}},
		{"a silent Step away from a Step", labels("- - - -", one([3]int{0, 0, 2}, [3]int{0, 1, 3}, [3]int{1, 1, 3})...), []int{0, 1, 2, 2}, []int{0, 1, 2, 2}, [][2]int{{1, 0}}, [][2]int{{0, 1}}},
		{"a mark behind a silent Step", labels("- 3 3", one([3]int{0, 0, 1})...), []int{0, 1, 1}, []int{0, 0, 0}, nil, [][2]int{{0, 1}, {1, 0}}},
		{"a silent loop and an end", labels("- - -", one([3]int{0, 0, 1}, [3]int{1, 0, 0})...), []int{0, 0, 2}, []int{0, 0, 0}, [][2]int{{2, 0}}, [][2]int{{0, 2}}},
		{"bisimilar states behind each other", chainOf(4, 1), []int{0, 1, 2, 3}, []int{0, 1, 2, 3}, [][2]int{{3, 0}, {2, 1}}, [][2]int{{0, 1}, {2, 3}}},
	} {
		checkLabelled(t, e.l)
		least, ok := impl.BisimilarOf(e.l)
		wantInts(t, least, ok, e.least, true, "BisimilarOf with %s", e.told)
		weak, ok := impl.WeaklyBisimilarOf(e.l)
		wantInts(t, weak, ok, e.weak, true, "WeaklyBisimilarOf with %s", e.told)
		for i, pair := range append(slices.Clone(e.below), e.not...) {
			is, ok := impl.IsSimulated(e.l, pair[0], pair[1])
			wantReport(t, is, ok, i < len(e.below), "IsSimulated of %v with %s", pair, e.told)
		}
	}
	// As many rounds as there can be, and as many states.
	long := chainOf(40, 3)
	least, ok := impl.BisimilarOf(long)
	wantInts(t, least, ok, numbersFrom(0, 40), true, "BisimilarOf the longest chain")
	for state := range 40 {
		is, ok := impl.IsSimulated(long, state, 0)
		wantReport(t, is, ok, true, "IsSimulated(the longest chain, %d, 0)", state)
		is, ok = impl.IsSimulated(long, 0, state)
		wantReport(t, is, ok, state == 0, "IsSimulated(the longest chain, 0, %d)", state)
	}
}

func TestRelations(t *testing.T) {
	// The states 0 and 1 are bisimilar, and so are 2 and 3; 4 shows a mark.
	l := labels("- - - - 0", [3]int{0, 1, 2}, [3]int{1, 1, 2}, [3]int{1, 1, 3}, [3]int{2, 2, 2}, [3]int{3, 2, 2})
	// Relations in which the order of the states to which Steps lead counts.
	order := labels("- - 0 0", [3]int{0, 1, 2}, [3]int{1, 1, 3})
	for _, e := range []struct {
		told  string
		l     impl.Labelled
		pairs [][2]int
		is    bool
	}{
		{"none", l, nil, true},
		{"an empty list", l, [][2]int{}, true},
		{"a state and itself, without Steps", l, [][2]int{{4, 4}}, true},
		{"a state and itself, with a Step back to it", l, [][2]int{{2, 2}}, true},
		{"a state and itself, and the state to which it leads", l, [][2]int{{0, 0}, {2, 2}}, true},
		{"a state and itself alone, with a Step", l, [][2]int{{0, 0}}, false},
		{"bisimilar states alone", l, [][2]int{{0, 1}}, false},
		{"not symmetric", l, [][2]int{{0, 1}, {2, 2}, {2, 3}}, true},
		{"not symmetric, with a Step of the second one left over", l, [][2]int{{0, 1}, {2, 2}}, false},
		{"not symmetric, the other way round", l, [][2]int{{1, 0}, {2, 2}, {3, 2}}, true},
		{"not symmetric, with a Step of the first one left over", l, [][2]int{{1, 0}, {2, 2}}, false},
		{"pairs in the other order", l, [][2]int{{0, 1}, {2, 2}, {3, 2}}, false},
		{"symmetric", l, [][2]int{{0, 1}, {1, 0}, {2, 2}, {2, 3}, {3, 2}}, true},
		{"a pair twice", l, [][2]int{{2, 2}, {3, 2}, {2, 2}, {3, 2}}, true},
		{"a pair twice that does not fit", l, [][2]int{{0, 2}, {2, 2}, {0, 2}}, false},
		{"in descending order", l, [][2]int{{3, 3}, {3, 2}, {2, 3}, {2, 2}, {1, 1}, {1, 0}, {0, 1}, {0, 0}}, true},
		{"states with other marks", l, [][2]int{{4, 2}, {2, 2}}, false},
		{"states with other marks, the other way round", l, [][2]int{{2, 2}, {2, 4}}, false},
		{"fewer marks", labels("- 0"), [][2]int{{0, 1}}, false},
		{"more marks", labels("- 0"), [][2]int{{1, 0}}, false},
		{"all pairs", labels("- -", [3]int{0, 0, 1}, [3]int{1, 0, 1}), [][2]int{{0, 0}, {0, 1}, {1, 0}, {1, 1}}, true},
		{"in the same order", order, [][2]int{{0, 1}, {2, 3}}, true},
		{"in the other order", order, [][2]int{{0, 1}, {3, 2}}, false},
		{"both in the other order", order, [][2]int{{1, 0}, {3, 2}}, true},
		{"other actions", labels("- -", [3]int{0, 1, 0}, [3]int{1, 2, 1}), [][2]int{{0, 1}}, false},
		{"a silent Step against none", labels("- -", [3]int{0, 0, 1}), [][2]int{{0, 1}, {1, 1}}, false},
		{"a Step of the first one alone", labels("- -", [3]int{0, 1, 0}), [][2]int{{0, 1}}, false},
		{"a Step of the second one alone", labels("- -", [3]int{1, 1, 1}), [][2]int{{0, 1}}, false},
	} {
		if is := checkRelation(t, e.l, e.pairs); is != e.is {
			t.Errorf("the relation with %s is a bisimulation: %v", e.told, is)
		}
	}
	vast := slices.Repeat([][2]int{{0, 1}, {2, 2}, {2, 3}}, 300000)
	is, ok := impl.IsBisimulation(l, vast)
	wantReport(t, is, ok, true, "IsBisimulation of 900000 pairs")
	is, ok = impl.IsBisimulation(l, append(vast, [2]int{4, 0}))
	wantReport(t, is, ok, false, "IsBisimulation of 900001 pairs")
	is, ok = impl.IsBisimulation(l, append(vast, [2]int{4, 5}))
	wantFailures(t, [][]any{{is, ok}}, "IsBisimulation of 900001 pairs")
}

func TestFormulas(t *testing.T) {
	l := labels("0 01 - 7", [3]int{0, 0, 1}, [3]int{0, 1, 2}, [3]int{1, 1, 2}, [3]int{1, 1, 3}, [3]int{3, 7, 3})
	for _, e := range []struct {
		f      []int
		text   string
		states []int
	}{
		{[]int{0}, "t", []int{0, 1, 2, 3}},
		{[]int{1, 0}, "m0", []int{0, 1}},
		{[]int{1, 1}, "m1", []int{1}},
		{[]int{1, 7}, "m7", []int{3}},
		{[]int{1, 5}, "m5", []int{}},
		{[]int{2, 0}, "!t", []int{}},
		{[]int{2, 1, 0}, "!m0", []int{2, 3}},
		{[]int{2, 2, 1, 0}, "!!m0", []int{0, 1}},
		{[]int{3, 0, 0}, "&tt", []int{0, 1, 2, 3}},
		{[]int{3, 1, 0, 1, 1}, "&m0m1", []int{1}},
		{[]int{3, 1, 0, 2, 1, 1}, "&m0!m1", []int{0}},
		{[]int{3, 1, 0, 1, 7}, "&m0m7", []int{}},
		{[]int{4, 0, 0}, "<0>t", []int{0}},
		{[]int{4, 1, 0}, "<1>t", []int{0, 1}},
		{[]int{4, 1, 1, 7}, "<1>m7", []int{1}},
		{[]int{4, 1, 2, 1, 7}, "<1>!m7", []int{0, 1}},
		{[]int{2, 4, 1, 1, 7}, "!<1>m7", []int{0, 2, 3}},
		{[]int{4, 7, 4, 7, 1, 7}, "<7><7>m7", []int{3}},
		{[]int{4, 0, 3, 4, 1, 0, 1, 1}, "<0>&<1>tm1", []int{0}},
		{[]int{3, 4, 1, 1, 7, 4, 1, 2, 1, 7}, "&<1>m7<1>!m7", []int{1}},
		{[]int{3, 3, 0, 1, 0, 2, 4, 0, 0}, "&&tm0!<0>t", []int{1}},
	} {
		if !checkFormula(t, l, e.f) {
			t.Errorf("%v is no formula", e.f)
		}
		text, _ := impl.FormulaText(e.f)
		states, _ := impl.Satisfying(l, e.f)
		f, _ := impl.ParseFormula(e.text)
		if text != e.text || !slices.Equal(states, e.states) || !slices.Equal(f, e.f) {
			t.Errorf("the formula %v has the text %q, and %v satisfy it; want %q, %v", e.f, text, states, e.text, e.states)
		}
		// Each formula is cut off nowhere, and has nothing behind its end.
		for end := range e.f {
			if checkFormula(t, l, e.f[:end]) {
				t.Errorf("%v, cut off, is a formula: %v", e.f, e.f[:end])
			}
		}
		for _, more := range []int{-1, 0, 1, 2, 3, 4, 5} {
			if checkFormula(t, l, append(slices.Clone(e.f), more)) {
				t.Errorf("%v is a formula with %d behind it", e.f, more)
			}
		}
		for k := range e.f {
			for _, n := range append(extremes(), 4, 5, 7, 8, 9) {
				other := slices.Clone(e.f)
				other[k] = n
				checkFormula(t, l, other)
			}
		}
	}
}

func TestListsThatAreNoFormulas(t *testing.T) {
	l := labels("0 -", [3]int{0, 1, 1})
	nots := func(n int, rest ...int) []int { return append(slices.Repeat([]int{2}, n), rest...) }
	cans := func(n int, rest ...int) []int { return append(slices.Repeat([]int{4, 1}, n), rest...) }
	// A FoAnd for each FoTrue but the last one: an odd length.
	ands := func(n int, rest ...int) []int { return append(slices.Repeat([]int{3, 0}, n), rest...) }
	front := func(n int, rest ...int) []int { return slices.Concat(slices.Repeat([]int{3}, n), rest) }
	for _, e := range []struct {
		told string
		f    []int
		is   bool
	}{
		{"an empty one", nil, false},
		{"MaxFormula numbers", nots(199, 0), true},
		{"one more", nots(200, 0), false},
		{"MaxFormula numbers with a mark", nots(198, 1, 0), true},
		{"one more with a mark", nots(199, 1, 0), false},
		{"MaxFormula numbers with actions", cans(99, 1, 0), true},
		{"one more with actions", cans(100, 0), false},
		{"one less with actions", cans(99, 0), true},
		{"MaxFormula numbers with conjunctions", ands(99, 1, 0), true},
		{"one more with conjunctions", ands(100, 0), false},
		{"one less with conjunctions", ands(99, 0), true},
		{"conjunctions in front of all others", front(99, slices.Repeat([]int{0}, 100)...), true},
		{"one more with conjunctions in front", front(100, slices.Repeat([]int{0}, 101)...), false},
		{"MaxFormula numbers with one mark", front(99, append(slices.Repeat([]int{0}, 99), 1, 3)...), true},
		{"MaxFormula numbers, cut off", nots(200), false},
		{"MaxFormula numbers that end with an action", cans(100), false},
		{"MaxFormula numbers that end with a mark that is missing", nots(199, 1), false},
		{"MaxFormula numbers, of which a last one is more", nots(198, 0, 0), false},
		{"a hundred thousand numbers", nots(100000, 0), false},
		{"a million zeros", make([]int, 1000000), false},
		{"only FoMark", []int{1}, false},
		{"only FoNot", []int{2}, false},
		{"only FoAnd", []int{3}, false},
		{"only FoCan", []int{4}, false},
		{"FoCan without a formula", []int{4, 1}, false},
		{"FoAnd with one formula", []int{3, 0}, false},
		{"FoAnd with three formulas", []int{3, 0, 0, 0}, false},
		{"a number behind the end", []int{0, 0}, false},
		{"a formula behind the end", []int{1, 0, 0}, false},
		{"a form that is none", []int{5}, false},
		{"a form that is none, with a formula", []int{5, 0}, false},
		{"a form below 0", []int{-1}, false},
		{"a form that is none behind others", []int{3, 0, 5}, false},
		{"the least number", []int{math.MinInt}, false},
		{"the greatest number", []int{math.MaxInt, 0}, false},
		{"the greatest mark", []int{1, 7}, true},
		{"one more than the greatest mark", []int{1, 8}, false},
		{"a mark below 0", []int{1, -1}, false},
		{"the greatest number as a mark", []int{2, 1, math.MaxInt}, false},
		{"the greatest action", []int{4, 7, 0}, true},
		{"one more than the greatest action", []int{4, 8, 0}, false},
		{"an action below 0", []int{4, -1, 0}, false},
		{"the least number as an action", []int{4, math.MinInt, 0}, false},
		{"the silent action", []int{4, 0, 0}, true},
	} {
		if is := checkFormula(t, l, e.f); is != e.is {
			t.Errorf("the list with %s is a formula: %v", e.told, is)
		}
	}
	for _, f := range listsOfNumbers(-1, 5, 4) {
		checkFormula(t, l, f)
	}
}

func TestFormulaSamples(t *testing.T) {
	t.Parallel()
	r, counts := rand.New(rand.NewSource(273)), map[string]int{}
	for _, l := range labelledSamples(274, 1500, 8) {
		f := randomFormula(r, 1+r.Intn(60))
		if r.Intn(4) == 0 {
			f = randomFormula(r, 190+r.Intn(16))
		}
		counts[fmt.Sprint("formula ", checkFormula(t, l, f))]++
		for range 3 {
			other := slices.Clone(f)
			switch k := r.Intn(len(f)); r.Intn(3) {
			case 0:
				other[k] = r.Intn(9) - 1
			case 1:
				other = slices.Delete(other, k, k+1)
			default:
				other = slices.Insert(other, k, r.Intn(5))
			}
			counts[fmt.Sprint("changed ", checkFormula(t, l, other))]++
		}
		text := formulaWords(f)
		checkParsedFormula(t, text)
		changed := []byte(text)
		changed[r.Intn(len(text))] = "tm!&<>0178 -"[r.Intn(12)]
		counts[fmt.Sprint("text ", checkParsedFormula(t, string(changed)))]++
	}
	wantAtLeast(t, counts, 50, "formula true", "formula false", "changed true", "changed false", "text true", "text false")
}

func TestTextsThatAreNoFormulas(t *testing.T) {
	for _, text := range []string{"", " ", "t ", " t", "tt", "T", "true", "f", "m", "m8", "m9", "m00", "m07", "m10", "m-1", "m+1", "m 1", "m1 ", "m1m1", "!", "!!", "t!", "!tt", "&", "&t", "&ttt", "tt&", "t&t", "& tt",
		"<", "<>", "<>t", "<0>", "<0>tt", "<0t", "0>t", "<8>t", "<9>t", "<10>t", "<-1>t", "<00>t", "<01>t", "<+1>t", "< 1>t", "<1 >t", "<1> t", "<a>t", "<1>>t", "<<1>>t", "[1]t", "(t)", "t\n", "\x00", "t\x00", "m\x00", "m१", "¬t", "<１>t"} {
		if checkParsedFormula(t, text) {
			t.Errorf("%q is the text of a formula", text)
		}
	}
	for _, text := range []string{"t", "m0", "m7", "!t", "&tt", "<0>t", "<7>m7", "&m1m1", "!<1>!m0", "&&ttt", "&t&tt"} {
		if !checkParsedFormula(t, text) {
			t.Errorf("%q is the text of no formula", text)
		}
	}
	for _, text := range wordsOver("tm!&<>01", 4) {
		checkParsedFormula(t, text)
	}
	for _, e := range []struct {
		text string
		is   bool
	}{
		{strings.Repeat("!", 199) + "t", true},
		{strings.Repeat("!", 200) + "t", false},
		{strings.Repeat("<1>", 99) + "m0", true},
		{strings.Repeat("<1>", 100) + "t", false},
		{strings.Repeat("<1>", 99) + "!m0", false},
		{strings.Repeat("<1>", 99) + "t", true},
		{strings.Repeat("&m0", 66) + "m1", true},
		{strings.Repeat("&m0", 66) + "!m1", false},
		{strings.Repeat("&", 99) + strings.Repeat("t", 100), true},
		{strings.Repeat("&", 100) + strings.Repeat("t", 101), false},
	} {
		if is := checkParsedFormula(t, e.text); is != e.is {
			t.Errorf("ParseFormula(%q): %v", e.text, is)
		}
	}
	for _, part := range []string{"!", "&", "t", "<1>", "m0", "<", "m", " "} {
		f, ok := impl.ParseFormula(strings.Repeat(part, 2000000))
		g, fine := impl.ParseFormula(strings.Repeat(part, 2000000) + "t")
		wantFailures(t, [][]any{{f, ok}, {g, fine}}, "ParseFormula of a vast text of %q", part)
	}
}

func TestTellApartExamples(t *testing.T) {
	some := func(steps ...[3]int) [][3]int { return steps }
	for _, e := range []struct {
		told string
		l    impl.Labelled
		s, u int
		text string
	}{
		{"a mark of the first one", labels("3 -"), 0, 1, "m3"},
		{"a mark of the second one", labels("- 3"), 0, 1, "!m3"},
		{"the least mark, of the first one", labels("1357 0123"), 0, 1, "!m0"},
		{"a common mark that is less", labels("035 04"), 0, 1, "m3"},
		{"a common mark that is less, of the second one", labels("05 034"), 0, 1, "!m3"},
		{"the greatest mark", labels("0123456 01234567"), 1, 0, "m7"},
		{"marks, although there are Steps", labels("- 1", some([3]int{0, 1, 0})...), 0, 1, "!m1"},
		{"one state twice", labels("- 1", some([3]int{0, 1, 1})...), 0, 0, ""},
		{"bisimilar states", labels("- - 1", some([3]int{0, 1, 2}, [3]int{1, 1, 2})...), 0, 1, ""},
		{"bisimilar states without Steps", labels("- -"), 1, 0, ""},
		{"a Step of the first one alone", labels("- -", some([3]int{0, 4, 1})...), 0, 1, "<4>t"},
		{"a Step of the second one alone", labels("- -", some([3]int{0, 4, 1})...), 1, 0, "!<4>t"},
		{"a silent Step", labels("- -", some([3]int{0, 0, 0})...), 0, 1, "<0>t"},
		{"the first one of two actions", labels("- -", some([3]int{0, 2, 1}, [3]int{0, 5, 1})...), 0, 1, "<2>t"},
		{"the first action that differs", labels("- -", some([3]int{0, 2, 1}, [3]int{0, 5, 1}, [3]int{1, 2, 1})...), 0, 1, "<5>t"},
		{"a later action where the earlier ones lead to states that are together", labels("- - 1 1", some([3]int{0, 1, 2}, [3]int{0, 3, 2}, [3]int{1, 1, 3})...), 0, 1, "<3>t"},
		{"the first one of two Steps", labels("- - 1 2 3", some([3]int{0, 1, 2}, [3]int{0, 1, 3}, [3]int{1, 1, 4})...), 0, 1, "<1>m1"},
		{"the second one of two Steps", labels("- - 1 2", some([3]int{0, 1, 2}, [3]int{0, 1, 3}, [3]int{1, 1, 2})...), 0, 1, "<1>!m1"},
		{"the second one of two Steps, and another one", labels("- - 2 1", some([3]int{0, 1, 2}, [3]int{0, 1, 3}, [3]int{1, 1, 2})...), 0, 1, "<1>m1"},
		{"Steps of the second one alone, to two states", labels("- - 1 2", some([3]int{0, 1, 2}, [3]int{0, 1, 3}, [3]int{1, 1, 2})...), 1, 0, "!<1>!m1"},
		{"a conjunction of two", labels("- - 1 2 3", some([3]int{0, 1, 2}, [3]int{1, 1, 3}, [3]int{1, 1, 4})...), 0, 1, "<1>&m1m1"},
		{"a conjunction of three", labels("- - 1 0 12 -", some([3]int{0, 1, 2}, [3]int{1, 1, 3}, [3]int{1, 1, 4}, [3]int{1, 1, 5})...), 0, 1, "<1>&!m0&!m2m1"},
		{"a conjunction for bisimilar states, each once", labels("- - 1 - -", some([3]int{0, 1, 2}, [3]int{1, 1, 3}, [3]int{1, 1, 4})...), 0, 1, "<1>&m1m1"},
		{"a Step to the state itself", labels("- - 1", some([3]int{0, 1, 0}, [3]int{1, 1, 2})...), 0, 1, "<1>!m1"},
		{"a later round", labels("- - - - 5", some([3]int{0, 1, 2}, [3]int{1, 1, 3}, [3]int{2, 2, 4}, [3]int{3, 2, 3})...), 0, 1, "<1><2>m5"},
		{"a later round, the other way round", labels("- - - - 5", some([3]int{0, 1, 2}, [3]int{1, 1, 3}, [3]int{2, 2, 4}, [3]int{3, 2, 3})...), 1, 0, "<1><2>!m5"},
		{"the last round of a chain", chainOf(5, 1), 0, 1, "<1><1><1><1>t"},
		{"the last round of a chain, the other way round", chainOf(5, 1), 1, 0, "<1><1><1>!<1>t"},
		{"the ends of a chain", chainOf(5, 1), 4, 0, "!<1>t"},
		{"states in the middle of a chain", chainOf(5, 1), 2, 0, "<1><1>!<1>t"},
		{"FoNot inside", labels("- - - - 0", some([3]int{0, 1, 2}, [3]int{1, 1, 3}, [3]int{3, 1, 4})...), 0, 1, "<1>!<1>t"},
		{"a Step that differs in an earlier round, before others", labels("- - - - - 0", some([3]int{0, 1, 2}, [3]int{0, 2, 4}, [3]int{1, 1, 3}, [3]int{1, 2, 5}, [3]int{2, 1, 4}, [3]int{3, 1, 5})...), 0, 1, "<2>!m0"},
		{"Steps that are not together two rounds later", labels("- - - - - 0 -", some([3]int{0, 1, 2}, [3]int{0, 1, 6}, [3]int{1, 1, 3}, [3]int{1, 1, 6}, [3]int{2, 1, 4}, [3]int{3, 1, 5})...), 0, 1, "<1>&<1>!m0<1>t"},
	} {
		checkLabelled(t, e.l)
		f, ok := impl.TellApart(e.l, e.s, e.u)
		text, _ := impl.FormulaText(f)
		if ok != (e.text != "") || text != e.text {
			t.Errorf("TellApart with %s = %q, %v; want %q", e.told, text, ok, e.text)
		}
	}
}

// wideApart has the states 0 and 1, which are told apart by a formula as long as the numbers say: the
// state 0 leads to 2, and 1 to some targets; 2 leads to 3, which shows the mark 7, and the targets
// lead, by so many Steps in all, to states that show another mark as well (more), and to one that
// shows none. If both is true, then 0 leads to all targets, too.
func wideApart(targets int, more int, none int, both bool) impl.Labelled {
	l := labels("- - - 7")
	first := len(l.Shows) + targets
	l.Steps = [][3]int{{0, 1, 2}, {2, 1, 3}}
	for range targets {
		l.Shows = append(l.Shows, nil)
	}
	for mark := range 6 {
		l.Shows = append(l.Shows, []int{mark, 7})
	}
	l.Shows = append(l.Shows, nil)
	for k := range targets {
		l.Steps = append(l.Steps, [3]int{1, 1, 4 + k})
		if both {
			l.Steps = append(l.Steps, [3]int{0, 1, 4 + k})
		}
	}
	for k := range more {
		l.Steps = append(l.Steps, [3]int{4 + k%targets, 1, first + k/targets})
	}
	for k := range none {
		l.Steps = append(l.Steps, [3]int{4 + k, 1, first + 6})
	}
	l.Steps = inOrder(l.Steps)
	return l
}

func TestTheLongestFormulasThatTellApart(t *testing.T) {
	// The conjunction of each target is one of "!m" and a mark, which has three numbers, and of "m7",
	// which has two: with the FoAnds, each of them adds one more, and each target two.
	for _, e := range []struct {
		told    string
		targets int
		more    int
		none    int
		both    bool
		size    int
	}{
		{"199 numbers", 10, 43, 2, false, 199},
		{"MaxFormula numbers", 10, 44, 1, false, 200},
		{"one more", 10, 45, 0, false, 201},
		{"two more", 10, 44, 3, false, 206},
		{"199 numbers and a FoNot in front", 10, 43, 2, true, 199},
		{"MaxFormula numbers and a FoNot in front", 10, 44, 1, true, 200},
		{"one more and a FoNot in front", 10, 45, 0, true, 201},
		{"far too many numbers", 20, 120, 20, false, 600},
	} {
		l := wideApart(e.targets, e.more, e.none, e.both)
		checkLabelled(t, l)
		f, ok := impl.TellApart(l, 0, 1)
		g, fine := impl.TellApart(l, 1, 0)
		if ok != (e.size <= 200) || ok && len(f) != e.size {
			t.Errorf("TellApart with %s = %d numbers, %v", e.told, len(f), ok)
		}
		if e.both && (fine != (e.size < 200) || fine && (len(g) != e.size+1 || g[0] != impl.FoNot)) {
			t.Errorf("TellApart with %s, the other way round, = %d numbers, %v", e.told, len(g), fine)
		}
	}
	// In each round, the formula is twice as long as in the one before, and longer.
	doubled := bare(40)
	for k := 0; k+5 < 40; k += 3 {
		doubled.Steps = append(doubled.Steps, [3]int{k, 1, k + 3}, [3]int{k + 1, 1, k + 4}, [3]int{k + 1, 1, k + 5}, [3]int{k + 2, 1, k + 4}, [3]int{k + 2, 1, k + 5})
	}
	doubled.Shows[36] = []int{2}
	_, tells := checkLabelled(t, doubled)
	if len(tells[[2]int{27, 28}]) == 0 || tells[[2]int{0, 1}] != nil {
		t.Error("the formulas are not as long as they should be")
	}
	if f, ok := impl.TellApart(doubled, 0, 1); ok {
		t.Errorf("TellApart of 2 ** 12 parts = %d numbers", len(f))
	}
}

func TestQuotientsAndUnions(t *testing.T) {
	for _, e := range []struct {
		told  string
		l     impl.Labelled
		shows string
		steps string
	}{
		{"all states bisimilar", bare(4, [3]int{0, 1, 1}, [3]int{1, 1, 0}, [3]int{2, 1, 0}, [3]int{2, 1, 2}, [3]int{3, 1, 0}), "[[]]", "[[0 1 0]]"},
		{"all states bisimilar, without Steps", labels("1 1 1"), "[[1]]", "[]"},
		{"one state", labels("07", [3]int{0, 0, 0}), "[[0 7]]", "[[0 0 0]]"},
		{"no two states bisimilar", chainOf(3, 2), "[[] [] []]", "[[0 2 1] [1 2 2]]"},
		{"no two states bisimilar, with marks", labels("0 01 1", [3]int{0, 0, 1}, [3]int{2, 3, 0}), "[[0] [0 1] [1]]", "[[0 0 1] [2 3 0]]"},
		{"some states bisimilar", labels("- - 5 5 -", [3]int{0, 1, 2}, [3]int{1, 1, 3}, [3]int{2, 2, 4}, [3]int{3, 2, 4}), "[[] [5] []]", "[[0 1 1] [1 2 2]]"},
		{"Steps that become one", labels("- 3 3 3", [3]int{0, 1, 1}, [3]int{0, 1, 2}, [3]int{0, 1, 3}, [3]int{0, 2, 3}), "[[] [3]]", "[[0 1 1] [0 2 1]]"},
		{"Steps whose order changes", labels("- 3 - 3", [3]int{0, 1, 1}, [3]int{0, 1, 2}, [3]int{2, 1, 0}, [3]int{2, 1, 3}), "[[] [3]]", "[[0 1 0] [0 1 1]]"},
		{"a silent Step, which counts", labels("- -", [3]int{0, 0, 1}), "[[] []]", "[[0 0 1]]"},
	} {
		checkLabelled(t, e.l)
		small, ok := impl.QuotientOf(e.l)
		if !ok || fmt.Sprint(small.Shows) != e.shows || fmt.Sprint(small.Steps) != e.steps {
			t.Errorf("QuotientOf %s = %v, %v", e.told, small, ok)
		}
	}
	a, b := labels("0 -", [3]int{0, 1, 1}, [3]int{1, 0, 1}), labels("3 47 -", [3]int{0, 0, 2}, [3]int{2, 7, 1})
	both, ok := impl.UnionOf(a, b)
	wantLabelled(t, both, ok, labels("0 - 3 47 -", [3]int{0, 1, 1}, [3]int{1, 0, 1}, [3]int{2, 0, 4}, [3]int{4, 7, 3}), true, "UnionOf(%v, %v)", a, b)
	other, ok := impl.UnionOf(b, a)
	wantLabelled(t, other, ok, labels("3 47 - 0 -", [3]int{0, 0, 2}, [3]int{2, 7, 1}, [3]int{3, 1, 4}, [3]int{4, 0, 4}), true, "UnionOf(%v, %v)", b, a)
	for first := range 42 {
		for _, second := range []int{0, 1, 39 - first, 40 - first, 41 - first, 39, 40, 41} {
			if second < 0 || second > 41 {
				continue
			}
			a, b := chainOf(max(1, first), 7), chainOf(max(1, second), 3)
			a.Shows, b.Shows = a.Shows[:first], b.Shows[:second]
			want, fits := unionAs(a, b)
			got, ok := impl.UnionOf(a, b)
			wantLabelled(t, got, ok, want, fits && isLabelledAs(a) && isLabelledAs(b), "UnionOf %d and %d states", first, second)
		}
	}
	for _, bad := range []impl.Labelled{{}, bare(41), labels("8"), bare(2, [3]int{0, 8, 1}), bare(2, [3]int{0, 0, 2})} {
		one, ok := impl.UnionOf(bad, a)
		two, fine := impl.UnionOf(a, bad)
		wantFailures(t, [][]any{{one, ok}, {two, fine}}, "UnionOf with %.100v", bad)
	}
}

func TestUnionSamples(t *testing.T) {
	t.Parallel()
	counts := map[string]int{}
	samples := labelledSamples(275, 600, 30)
	for i, a := range samples {
		b := samples[(i+1)%len(samples)]
		want, fits := unionAs(a, b)
		both, ok := impl.UnionOf(a, b)
		wantLabelled(t, both, ok, want, fits, "UnionOf(%v, %v)", a, b)
		counts[fmt.Sprint(ok)]++
	}
	wantAtLeast(t, counts, 100, "true", "false")
}

// checkLabelSystem checks LabelSystem for a valid System and patterns that are redexes.
func checkLabelSystem(t *testing.T, x impl.System, patterns []impl.Bigraph, actions []int) (impl.Labelled, bool) {
	t.Helper()
	want, possible := labelSystemAs(x, patterns, actions)
	l, ok := impl.LabelSystem(house(), x, patterns, actions)
	wantLabelled(t, l, ok, want, possible, "LabelSystem(%v, %v, %.100v)", x, patterns, actions)
	return l, ok
}

func readAll(t *testing.T, texts ...string) []impl.Bigraph {
	t.Helper()
	list := []impl.Bigraph{}
	for _, text := range texts {
		list = append(list, read(t, text))
	}
	return list
}

func TestLabelledSystemsOfExamples(t *testing.T) {
	_, x := walk(t)
	key := "1; key@-1 0; sites; 1; outer; inner"
	for _, e := range []struct {
		told     string
		patterns []string
		actions  []int
		shows    string
		steps    string
	}{
		{"no patterns", nil, plainActions(), "[[] [] [] []]", "[[0 1 1] [0 1 2] [1 1 3] [2 1 3]]"},
		{"one pattern", []string{keyOfX}, plainActions(), "[[0] [0] [] []]", "[[0 1 1] [0 1 2] [1 1 3] [2 1 3]]"},
		{"several patterns", []string{keyOfX, emptyRoom, oneRoom}, plainActions(), "[[0 2] [0] [1 2] []]", "[[0 1 1] [0 1 2] [1 1 3] [2 1 3]]"},
		{"a pattern in no state", []string{oneDot, keyOfX}, plainActions(), "[[1] [1] [] []]", "[[0 1 1] [0 1 2] [1 1 3] [2 1 3]]"},
		{"MaxMarks patterns", []string{keyOfX, oneRoom, key, oneDot, keyOfX, emptyRoom, twoDots, oneRoom}, plainActions(), "[[0 1 2 4 7] [0 2 4] [1 5 7] []]", "[[0 1 1] [0 1 2] [1 1 3] [2 1 3]]"},
		{"MaxMarks times a pattern", slices.Repeat([]string{keyOfX}, 8), plainActions(), "[[0 1 2 3 4 5 6 7] [0 1 2 3 4 5 6 7] [] []]", "[[0 1 1] [0 1 2] [1 1 3] [2 1 3]]"},
		{"one pattern more", slices.Repeat([]string{keyOfX}, 9), plainActions(), "", ""},
		{"many patterns more", slices.Repeat([]string{keyOfX}, 1000), plainActions(), "", ""},
		{"other actions", nil, []int{3, 5, 0, 0, 0, 0}, "[[] [] [] []]", "[[0 3 1] [0 5 2] [1 5 3] [2 3 3]]"},
		{"actions that descend", nil, []int{5, 3, 0, 0, 0, 0}, "[[] [] [] []]", "[[0 3 2] [0 5 1] [1 3 3] [2 5 3]]"},
		{"the silent and the greatest action", nil, []int{7, 0, 1, 2, 3, 4}, "[[] [] [] []]", "[[0 0 2] [0 7 1] [1 0 3] [2 7 3]]"},
		{"an action that is too large", nil, []int{8, 0, 0, 0, 0, 0}, "", ""},
		{"an action that is too large for a Rule that no Step has", nil, []int{0, 0, 8, 0, 0, 0}, "", ""},
		{"an action that is too large for the last Rule", nil, []int{0, 0, 0, 0, 0, 8}, "", ""},
		{"an action below 0", nil, []int{0, -1, 0, 0, 0, 0}, "", ""},
		{"an action below 0 for the last Rule", nil, []int{0, 0, 0, 0, 0, -1}, "", ""},
		{"the greatest number as an action", nil, []int{0, 0, 0, math.MaxInt, 0, 0}, "", ""},
		{"the least number as an action", nil, []int{0, 0, 0, math.MinInt, 0, 0}, "", ""},
		{"no actions", nil, nil, "", ""},
		{"actions for the Rules alone that Steps have", nil, []int{1, 1}, "", ""},
		{"fewer than MaxRules actions", nil, []int{1, 1, 1, 1, 1}, "", ""},
		{"more than MaxRules actions", nil, []int{1, 1, 1, 1, 1, 1, 1}, "", ""},
		{"a million actions", nil, make([]int, 1000000), "", ""},
	} {
		l, ok := checkLabelSystem(t, x, readAll(t, e.patterns...), e.actions)
		if ok != (e.shows != "") || ok && (fmt.Sprint(l.Shows) != e.shows || fmt.Sprint(l.Steps) != e.steps) {
			t.Errorf("LabelSystem with %s = %v, %v", e.told, l, ok)
		}
	}
	// Steps of several Rules become one where they have one action.
	twice := stepsOnly(2, [3]int{0, 0, 1}, [3]int{0, 1, 1}, [3]int{0, 5, 1}, [3]int{1, 2, 0})
	l, ok := checkLabelSystem(t, twice, nil, []int{4, 2, 4, 0, 0, 4})
	wantLabelled(t, l, ok, bare(2, [3]int{0, 2, 1}, [3]int{0, 4, 1}, [3]int{1, 4, 0}), true, "LabelSystem of Steps that become one")
}

func TestLabelSystemFails(t *testing.T) {
	_, x := walk(t)
	good := read(t, keyOfX)
	bad := brokenBigraphs()
	for _, text := range []string{nothing, "1; sites; 0; outer; inner", "1; room@-1; sites -1; 0; outer; inner", "2; room@-1; sites; 0; outer; inner", "1; dot@-1; sites; 1; outer; inner", "1; dot@-1; sites; 0; outer x; inner"} {
		bad = append(bad, read(t, text))
	}
	for _, pattern := range bad {
		for at := range 8 {
			patterns := slices.Repeat([]impl.Bigraph{good}, 8)
			patterns[at] = pattern
			l, ok := impl.LabelSystem(house(), x, patterns[:at+1], plainActions())
			m, fine := impl.LabelSystem(house(), x, patterns, plainActions())
			wantFailures(t, [][]any{{l, ok}, {m, fine}}, "LabelSystem, where the pattern %d is %v", at, pattern)
		}
	}
	// A state that is no agent matters only if there is a pattern.
	for _, b := range append(brokenBigraphs(), read(t, oneRoom), read(t, "1; key@-1 0; sites; 1; outer; inner a=0")) {
		y := cloneOfSystem(x)
		y.States[3] = b
		l, ok := impl.LabelSystem(house(), y, []impl.Bigraph{good}, plainActions())
		wantFailures(t, [][]any{{l, ok}}, "LabelSystem, where a state is %v", b)
		l, ok = impl.LabelSystem(house(), y, nil, plainActions())
		wantLabelled(t, l, ok, bare(4, [3]int{0, 1, 1}, [3]int{0, 1, 2}, [3]int{1, 1, 3}, [3]int{2, 1, 3}), true, "LabelSystem without patterns, where a state is %v", b)
	}
	for _, y := range []impl.System{{}, {States: slices.Repeat(x.States[:1], 41)}, {States: x.States, Steps: [][3]int{{0, 0, 4}}}, {States: x.States, Steps: [][3]int{{0, 6, 0}}}, {States: x.States, Steps: [][3]int{{0, 0, 1}, {0, 0, 1}}}} {
		l, ok := impl.LabelSystem(house(), y, nil, plainActions())
		m, fine := impl.LabelSystem(house(), y, []impl.Bigraph{good}, plainActions())
		wantFailures(t, [][]any{{l, ok}, {m, fine}}, "LabelSystem of %.300v", y)
	}
}

func TestLabelledSystemsOfSamples(t *testing.T) {
	t.Parallel()
	r, counts := rand.New(rand.NewSource(276)), map[string]int{}
	for range 500 {
		x := impl.System{States: agentSamples(r.Int63(), 1+r.Intn(5), 5)}
		n := len(x.States)
		x.Steps = randomSystem(r, n, 3*n, 6).Steps
		patterns, actions := []impl.Bigraph{}, []int{}
		for range pick(r, []int{0, 1, 2, 3, 8}) {
			pattern, _ := redexIn(r, pick(r, x.States), 1+r.Intn(2))
			patterns = append(patterns, pattern)
		}
		for range 6 {
			actions = append(actions, r.Intn(1+r.Intn(8)))
		}
		l, ok := checkLabelSystem(t, x, patterns, actions)
		if !ok || !impl.IsLabelled(l) {
			t.Fatalf("LabelSystem(%v, %v, %v) = %v, %v", x, patterns, actions, l, ok)
		}
		counts[fmt.Sprint("fewer ", len(l.Steps) < len(x.Steps))]++
		for _, marks := range l.Shows {
			counts[fmt.Sprint("marks ", min(2, len(marks)))]++
		}
	}
	wantAtLeast(t, counts, 20, "fewer true", "fewer false", "marks 0", "marks 1", "marks 2")
}

// checkContextSteps checks ContextSteps for valid Rules, contexts and agents.
func checkContextSteps(t *testing.T, rules []impl.Rule, contexts []impl.Bigraph, agent impl.Bigraph) ([]impl.LabelStep, bool) {
	t.Helper()
	want, possible := contextStepsAs(rules, contexts, agent)
	steps, ok := impl.ContextSteps(house(), rules, contexts, agent)
	wantLabelSteps(t, steps, ok, want, possible, "ContextSteps(%v, %v, %v)", rules, contexts, agent)
	return steps, ok
}

// labelStepWords writes steps with the nodes of the agents to which they lead.
func labelStepWords(steps []impl.LabelStep) string {
	words := []string{}
	for _, step := range steps {
		words = append(words, fmt.Sprint(step.Context, " ", step.Rule, ": ", textOf(house(), step.Result)))
	}
	return strings.Join(words, "\n")
}

const (
	justRoot = "1; sites -1; 0; outer; inner"
	inRoom   = "1; room@-1; sites 0; 0; outer; inner"
	inBox    = "1; box@-1 0; sites 0; 1; outer; inner"
	byDot    = "1; dot@-1; sites -1; 0; outer; inner"
)

func TestContextStepsOfExamples(t *testing.T) {
	key := "1; room@-1; key@-1 0; sites; 0; outer x; inner"
	for _, e := range []struct {
		told     string
		rules    []string
		contexts []string
		agent    string
		want     []string
	}{
		{"no steps", []string{openRoom}, []string{justRoot, byDot}, oneDot, []string{}},
		{"the identity", []string{dropDot}, []string{justRoot}, oneDot, []string{"0 0: 1; sites; 0; outer; inner"}},
		{"a step of the context alone", []string{openRoom}, []string{inRoom}, oneDot, []string{"0 0: 1; dot@-1; sites; 0; outer; inner"}},
		{"a step of both together", []string{freeDots}, []string{justRoot, inRoom}, oneDot, []string{"1 0: 1; room@-1; dot@-1; sites; 0; outer; inner"}},
		{"a passive context", []string{dropDot}, []string{inBox, justRoot}, oneDot, []string{"1 0: 1; sites; 0; outer; inner"}},
		{"two Matches that lead to the same", []string{dropDot}, []string{byDot}, oneDot, []string{"0 0: 1; dot@-1; sites; 0; outer; inner"}},
		{"two Matches that lead to isomorphic agents", []string{dropDot}, []string{"2; dot@-2; dot@-2; sites -1; 0; outer; inner"}, "1; sites; 0; outer; inner", []string{"0 0: 2; dot@-2; sites; 0; outer; inner"}},
		{"two Matches whose agents are in another order", []string{dropDot}, []string{"2; dot@-1; sites -2; 0; outer; inner"}, oneDot, []string{"0 0: 2; dot@-1; sites; 0; outer; inner", "0 0: 2; dot@-2; sites; 0; outer; inner"}},
		{"two Rules that lead to the same", []string{dropDot, dropDot}, []string{justRoot}, oneDot, []string{"0 0: 1; sites; 0; outer; inner", "0 1: 1; sites; 0; outer; inner"}},
		{"a Rule whose agent comes behind that of the next one", []string{dotRoom, dropDot}, []string{justRoot}, oneDot, []string{"0 0: 1; room@-1; sites; 0; outer; inner", "0 1: 1; sites; 0; outer; inner"}},
		{"one context twice", []string{dropDot}, []string{justRoot, justRoot}, oneDot, []string{"0 0: 1; sites; 0; outer; inner", "1 0: 1; sites; 0; outer; inner"}},
		{"different contexts whose steps lead to isomorphic agents", []string{dropDot, openRoom}, []string{inRoom, byDot}, emptyRoom,
			[]string{"0 1: 1; room@-1; sites; 0; outer; inner", "1 0: 1; room@-1; sites; 0; outer; inner", "1 1: 1; dot@-1; sites; 0; outer; inner"}},
		{"four contexts", []string{dropDot}, []string{byDot, inRoom, justRoot, inBox}, oneDot, []string{"0 0: 1; dot@-1; sites; 0; outer; inner", "1 0: 1; room@-1; sites; 0; outer; inner", "2 0: 1; sites; 0; outer; inner"}},
		{"five contexts", []string{dropDot}, []string{byDot, inRoom, justRoot, inBox, justRoot}, oneDot, nil},
		{"no contexts", []string{dropDot}, nil, oneDot, nil},
		{"a context with a name", []string{dropKey, openRoom}, []string{"1; box@-1 0; sites -1; 1; outer; inner x=0"}, key,
			[]string{"0 0: 1; room@-1; box@-1 0; sites; 1; outer; inner", "0 1: 1; key@-1 0; box@-1 0; sites; 1; outer; inner"}},
		{"an edge that becomes idle", []string{dropKey}, []string{"1; sites -1; 2; outer; inner x=1"}, keyOfX, []string{"0 0: 1; sites; 2; outer; inner"}},
		{"too few sites", []string{dropDot}, []string{justRoot, "1; sites; 0; outer; inner"}, oneDot, nil},
		{"too many sites", []string{dropDot}, []string{"1; sites -1 -1; 0; outer; inner", justRoot}, oneDot, nil},
		{"a name that the agent does not have", []string{dropDot}, []string{justRoot, "1; sites -1; 1; outer; inner x=0"}, oneDot, nil},
		{"a name that the context does not have", []string{dropKey}, []string{justRoot}, keyOfX, nil},
		{"another name", []string{dropKey}, []string{"1; sites -1; 1; outer; inner y=0"}, keyOfX, nil},
		{"a whole that is no agent", []string{dropDot}, []string{inRoom}, inRoom, nil},
		{"a whole that has inner names", []string{dropDot}, []string{justRoot}, "1; dot@-1; sites; 1; outer; inner x=0", nil},
		{"a whole with 8 nodes", []string{dropDot}, []string{justRoot, "1; dot@-1; dot@-1; dot@-1; dot@-1; dot@-1; dot@-1; dot@-1; sites -1; 0; outer; inner"}, oneDot,
			[]string{"0 0: 1; sites; 0; outer; inner", "1 0: 1; dot@-1; dot@-1; dot@-1; dot@-1; dot@-1; dot@-1; dot@-1; sites; 0; outer; inner"}},
		{"a composition that fails for a later context", []string{dropDot}, []string{justRoot, byDot, "1; dot@-1; dot@-1; dot@-1; dot@-1; dot@-1; dot@-1; dot@-1; dot@-1; sites -1; 0; outer; inner"}, oneDot, nil},
		{"StepsOf that fails for a later context", []string{dropDot, growDot}, []string{justRoot, byDot, "1; dot@-1; dot@-1; dot@-1; dot@-1; dot@-1; dot@-1; dot@-1; sites -1; 0; outer; inner"}, oneDot, nil},
		{"StepsOf that fails for the first context", []string{growDot}, []string{"1; dot@-1; dot@-1; dot@-1; dot@-1; dot@-1; dot@-1; dot@-1; sites -1; 0; outer; inner", justRoot}, oneDot, nil},
	} {
		rules := rulesOf(t, e.rules...)
		steps, ok := impl.ContextSteps(house(), rules, readAll(t, e.contexts...), read(t, e.agent))
		if ok != (e.want != nil) || labelStepWords(steps) != strings.Join(e.want, "\n") {
			t.Errorf("ContextSteps with %s =\n%s, %v; want\n%s", e.told, labelStepWords(steps), ok, strings.Join(e.want, "\n"))
		}
		if isAgentAs(read(t, e.agent)) {
			checkContextSteps(t, rules, readAll(t, e.contexts...), read(t, e.agent))
		}
	}
}

// contextsFor makes some contexts that fit an agent, often small ones.
func contextsFor(r *rand.Rand, agent impl.Bigraph, count int) []impl.Bigraph {
	list := []impl.Bigraph{}
	for range count {
		context := identityAs(agent.Roots, agent.Outer)
		if r.Intn(3) > 0 {
			context = contextFor(r, agent)
		}
		list = append(list, context)
	}
	return list
}

func TestContextStepsOfSamples(t *testing.T) {
	t.Parallel()
	r, counts := rand.New(rand.NewSource(277)), map[string]int{}
	texts := []string{growDot, sameDot, dropRoom, openRoom, copyRoom, dropKey, copyKey, closeKeys, dropDot, dotRoom, roomDot, freeDots}
	for _, agent := range agentSamples(278, 700, 4) {
		contexts := contextsFor(r, agent, 1+r.Intn(4))
		rules := rulesOf(t, pick(r, texts), pick(r, texts))
		if whole, ok := composedAs(contexts[0], agent); ok && r.Intn(2) == 0 && len(whole.Nodes) > 0 {
			rules = rulesFor(r, whole, 1+r.Intn(3), 3)
		}
		steps, ok := checkContextSteps(t, rules, contexts, agent)
		counts[fmt.Sprint(ok, " ", min(3, len(steps)))]++
		for _, step := range steps {
			counts[fmt.Sprint("context ", step.Context)]++
		}
	}
	wantAtLeast(t, counts, 20, "true 0", "true 1", "true 2", "true 3", "false 0", "context 0", "context 1", "context 2", "context 3")
}

// checkAlike checks AlikeIn for valid Rules and agents, and patterns that are redexes.
func checkAlike(t *testing.T, rules []impl.Rule, patterns []impl.Bigraph, contexts []impl.Bigraph, a impl.Bigraph, b impl.Bigraph, most int) ([]bool, bool) {
	t.Helper()
	want, possible := alikeAs(rules, patterns, contexts, a, b, most)
	alike, ok := impl.AlikeIn(house(), rules, patterns, contexts, a, b, most)
	wantBools(t, alike, ok, want, possible, "AlikeIn(%v, %v, %v, %v, %v, %d)", rules, patterns, contexts, a, b, most)
	return alike, ok
}

func TestAlikeInExamples(t *testing.T) {
	closed := "1; sites -1; 1; outer; inner x=0"
	two := "2; sites -1 -2; 0; outer; inner"
	dots := func(n int) string { return textOf(house(), dotsUnder(n)) }
	inRoots := func(dots ...int) string { return textOf(house(), dotsUnder(dots...)) }
	three, boxed := "3; sites -1 -2 -3; 0; outer; inner", "1; box@-1 0; sites 0 0 -1; 1; outer; inner"
	for _, e := range []struct {
		told     string
		rules    []string
		patterns []string
		contexts []string
		a, b     string
		most     int
		want     string
	}{
		{"one agent twice", []string{dropDot}, []string{oneDot}, []string{justRoot}, twoDots, twoDots, 3, "[true]"},
		{"isomorphic agents", []string{dropDot, openRoom}, []string{oneDot, emptyRoom}, []string{justRoot, inRoom, inBox, byDot}, "1; dot@-1; room@-1; dot@1; sites; 0; outer; inner", "1; room@-1; dot@0; dot@-1; sites; 0; outer; inner", 20, "[true true true true]"},
		{"agents with other numbers of steps", []string{dropDot}, nil, []string{justRoot}, oneDot, twoDots, 40, "[false]"},
		{"agents with other numbers of steps, the other way round", []string{dropDot}, nil, []string{justRoot}, twoDots, oneDot, 40, "[false]"},
		{"agents whose steps lead back", []string{sameDot}, nil, []string{justRoot, inRoom, byDot}, oneDot, twoDots, 40, "[true true true]"},
		{"agents whose steps lead back, and a pattern of one of them", []string{sameDot}, []string{twoDots}, []string{justRoot, inBox, byDot}, oneDot, twoDots, 40, "[false false true]"},
		{"agents without steps", []string{openRoom}, nil, []string{justRoot}, oneDot, twoDots, 1, "[true]"},
		{"agents without steps, but with a pattern", []string{openRoom}, []string{oneDot, twoDots}, []string{justRoot}, oneDot, twoDots, 1, "[false]"},
		{"a context that makes them alike", []string{dropDot}, nil, []string{inBox, justRoot}, oneDot, twoDots, 3, "[true false]"},
		{"a context that tells them apart", []string{freeDots}, nil, []string{justRoot, inRoom}, oneDot, emptyRoom, 3, "[true false]"},
		{"other Rules, which all have one action", []string{dropDot, openRoom}, nil, []string{justRoot}, oneDot, emptyRoom, 40, "[true]"},
		{"other marks of the states behind", []string{dropDot, openRoom}, []string{oneDot}, []string{justRoot}, "1; room@-1; dot@-1; sites; 0; outer; inner", twoDots, 40, "[false]"},
		{"a name", []string{dropKey}, []string{keyOfX}, []string{closed}, keyOfX, "1; key@-1 0; key@-1 0; sites; 0; outer x; inner", 40, "[false]"},
		{"just most states", []string{dropDot}, nil, []string{justRoot}, dots(8), dots(7), 9, "[false]"},
		{"more states than most, of the first one", []string{dropDot}, nil, []string{justRoot}, dots(8), dots(7), 8, ""},
		{"more states than most, of the second one", []string{dropDot}, nil, []string{justRoot}, dots(7), dots(8), 8, ""},
		{"more states than most, in the second context", []string{dropDot}, nil, []string{justRoot, byDot}, dots(1), dots(1), 2, ""},
		{"just MaxStates states together", []string{dropDot}, nil, []string{two}, inRoots(4, 3), inRoots(3, 4), 20, "[true]"},
		{"systems that are too large only together", []string{dropDot}, nil, []string{two}, inRoots(4, 3), inRoots(6, 2), 40, ""},
		{"systems that are too large only together, in the second context", []string{dropDot}, nil, []string{boxed, three}, inRoots(2, 2, 3), inRoots(2, 2, 2), 40, ""},
		{"systems that are not too large in a passive node", []string{dropDot}, nil, []string{boxed}, inRoots(2, 2, 3), inRoots(2, 2, 2), 40, "[false]"},
		{"most below 1", []string{dropDot}, nil, []string{justRoot}, oneDot, oneDot, 0, ""},
		{"most above MaxStates", []string{dropDot}, nil, []string{justRoot}, oneDot, oneDot, 41, ""},
		{"no contexts", []string{dropDot}, nil, nil, oneDot, oneDot, 40, ""},
		{"four contexts", []string{dropDot}, nil, slices.Repeat([]string{justRoot}, 4), oneDot, oneDot, 40, "[true true true true]"},
		{"five contexts", []string{dropDot}, nil, slices.Repeat([]string{justRoot}, 5), oneDot, oneDot, 40, ""},
		{"a context that fits neither", []string{dropDot}, nil, []string{justRoot, two}, oneDot, oneDot, 40, ""},
		{"a context that does not fit the first one", []string{dropDot}, nil, []string{justRoot}, inRoots(1, 0), oneDot, 40, ""},
		{"a context that does not fit the second one", []string{dropDot}, nil, []string{justRoot}, oneDot, keyOfX, 40, ""},
		{"a composition that fails for the first one", []string{dropDot}, nil, []string{justRoot, byDot}, dots(8), oneDot, 40, ""},
		{"a composition that fails for the second one", []string{dropDot}, nil, []string{justRoot, byDot}, oneDot, dots(8), 40, ""},
		{"StepsOf that fails", []string{growDot}, nil, []string{justRoot}, emptyRoom, oneDot, 40, ""},
		{"MaxMarks patterns", []string{dropDot}, slices.Repeat([]string{oneDot}, 8), []string{justRoot}, oneDot, oneDot, 40, "[true]"},
		{"one pattern more", []string{dropDot}, slices.Repeat([]string{oneDot}, 9), []string{justRoot}, oneDot, oneDot, 40, ""},
		{"MaxRules Rules", slices.Repeat([]string{dropDot}, 6), nil, []string{justRoot}, oneDot, oneDot, 40, "[true]"},
	} {
		alike, ok := checkAlike(t, rulesOf(t, e.rules...), readAll(t, e.patterns...), readAll(t, e.contexts...), read(t, e.a), read(t, e.b), e.most)
		if ok != (e.want != "") || ok && fmt.Sprint(alike) != e.want {
			t.Errorf("AlikeIn with %s = %v, %v; want %s", e.told, alike, ok, e.want)
		}
	}
}

func TestAlikeInSamples(t *testing.T) {
	t.Parallel()
	r, counts := rand.New(rand.NewSource(279)), map[string]int{}
	texts := []string{sameDot, dropRoom, openRoom, dropKey, closeKeys, dropDot, dotRoom, roomDot, freeDots}
	for _, a := range agentSamples(280, 500, 3) {
		b := shuffled(r, a)
		if r.Intn(4) > 0 {
			others := slices.DeleteFunc(slightChanges(r, a, 30), func(b impl.Bigraph) bool {
				return b.Roots != a.Roots || !slices.Equal(b.Outer, a.Outer) || !isAgentAs(b) || !isFine(house(), b)
			})
			if len(others) > 0 {
				b = pick(r, others)
			}
		}
		contexts, patterns := contextsFor(r, a, 1+r.Intn(3)), []impl.Bigraph{}
		for range r.Intn(3) {
			pattern, _ := redexIn(r, a, 1+r.Intn(2))
			patterns = append(patterns, pattern)
		}
		rules := rulesOf(t, pick(r, texts), pick(r, texts))
		if r.Intn(3) == 0 {
			rules = rulesFor(r, a, 1+r.Intn(2), 3)
		}
		alike, ok := checkAlike(t, rules, patterns, contexts, a, b, 8+r.Intn(33))
		counts[fmt.Sprint("ok ", ok)]++
		for _, is := range alike {
			counts[fmt.Sprint("alike ", is)]++
		}
	}
	wantAtLeast(t, counts, 40, "ok true", "ok false", "alike true", "alike false")
}

// callsOfLabels calls each function of the chapter that takes Bigraphs.
func callsOfLabels(sig []impl.Control, rules []impl.Rule, x impl.System, pattern impl.Bigraph, context impl.Bigraph, a impl.Bigraph, b impl.Bigraph) [][]any {
	patterns, contexts := []impl.Bigraph{pattern}, []impl.Bigraph{context, context}
	l, one := impl.LabelSystem(sig, x, patterns, plainActions())
	steps, two := impl.ContextSteps(sig, rules, contexts, a)
	alike, three := impl.AlikeIn(sig, rules, patterns, contexts, a, b, 20)
	return [][]any{{l, one}, {steps, two}, {alike, three}}
}

func TestLabelsNeedValidArguments(t *testing.T) {
	rules, dot, root := rulesOf(t, sameDot), read(t, oneDot), read(t, justRoot)
	x := impl.System{States: []impl.Bigraph{dot}, Steps: [][3]int{{0, 0, 0}}}
	for i, results := range callsOfLabels(house(), rules, x, dot, root, dot, dot) {
		if results[len(results)-1] != true {
			t.Errorf("call %d fails for valid arguments: %v", i, results)
		}
	}
	for _, sig := range append(badSignatures(), house()[:4], []impl.Control{{Name: "dot"}}) {
		wantFailures(t, callsOfLabels(sig, rules, x, dot, root, dot, dot), "over %.100v", sig)
	}
	for _, sig := range badSignatures() {
		l, ok := impl.LabelSystem(sig, x, nil, plainActions())
		wantFailures(t, [][]any{{l, ok}}, "LabelSystem without patterns over %.100v", sig)
	}
	for _, bad := range append(brokenBigraphs(), impl.Bigraph{Roots: 1, Nodes: make([]impl.Node, 1000000)}) {
		wantFailures(t, callsOfLabels(house(), rules, x, bad, bad, dot, dot), "the pattern and context %.200v", bad)
		wantFailures(t, callsOfLabels(house(), rules, x, bad, root, bad, dot), "the pattern and agent %.200v", bad)
		alike, ok := impl.AlikeIn(house(), rules, nil, []impl.Bigraph{root}, dot, bad, 20)
		more, fine := impl.ContextSteps(house(), rules, []impl.Bigraph{root, root, bad}, dot)
		wantFailures(t, [][]any{{alike, ok}, {more, fine}}, "the agent and context %.200v", bad)
	}
	broken := impl.Rule{Redex: dot, Reactum: dot, Copies: []int{0}}
	for n := range 9 {
		for at := range n {
			list := slices.Repeat(rules, n)
			_, good := impl.ContextSteps(house(), list, []impl.Bigraph{root}, dot)
			_, fine := impl.AlikeIn(house(), list, nil, []impl.Bigraph{root}, dot, dot, 20)
			if good != (n <= 6) || fine != (n <= 6) {
				t.Errorf("ContextSteps and AlikeIn of %d Rules: %v, %v", n, good, fine)
			}
			list[at] = broken
			wantFailures(t, callsOfLabels(house(), list, impl.System{}, dot, root, dot, dot), "%d Rules, of which one is not valid", n)
		}
	}
	wantFailures(t, callsOfLabels(house(), nil, impl.System{}, dot, root, dot, dot), "no Rules")
}

func TestResultsOfLabelsAreNew(t *testing.T) {
	t.Parallel()
	r := rand.New(rand.NewSource(281))
	for _, kept := range slices.Concat(labelledSamples(282, 150, 10), []impl.Labelled{bare(1), bare(40), wideApart(10, 44, 1, false)}) {
		l, n := cloneOfLabelled(kept), len(kept.Shows)
		f, pairs, s, u := randomFormula(r, 1+r.Intn(9)), [][2]int{{r.Intn(n), r.Intn(n)}, {0, 0}}, r.Intn(n), r.Intn(n)
		keptFormula, keptPairs := slices.Clone(f), slices.Clone(pairs)
		calls := func() [][]any {
			text, _ := impl.FormulaText(f)
			parsed, ok := impl.ParseFormula(text)
			both, fine := impl.UnionOf(l, l)
			return append(callsOfLabelled(l, s, u, pairs, f), []any{parsed, ok}, []any{both, fine}, []any{impl.IsLabelled(l), impl.IsFormula(f)})
		}
		wantOwnMemory(t, calls(), calls(), l, f, pairs)
		wantNewResults(t, calls(), calls)
		if !isSameLabelled(l, kept) || !slices.Equal(f, keptFormula) || !slices.Equal(pairs, keptPairs) {
			t.Fatalf("a call has changed %v, %v or %v, or the results share their memory", kept, keptFormula, keptPairs)
		}
	}
	for i, kept := range append(agentSamples(283, 120, 4), dotsUnder(3, 2), read(t, oneDot)) {
		madeRules := rulesOf(t, dropDot, openRoom, dropKey, sameDot)[i%3:]
		madeContext := contextsFor(r, kept, 1)[0]
		made, ok := impl.ExploreSystem(house(), madeRules, kept, 12)
		if !ok {
			continue
		}
		madePattern, _ := redexIn(r, kept, 2)
		sig, a, x, pattern, context, rules := house(), cloneOf(kept), cloneOfSystem(made), cloneOf(madePattern), cloneOf(madeContext), []impl.Rule{}
		for _, rule := range madeRules {
			rules = append(rules, cloneOfRule(rule))
		}
		b, actions := cloneOf(kept), []int{1, 0, 7, 3, 2, 1}
		calls := func() [][]any {
			l, ok := impl.LabelSystem(sig, x, nil, actions)
			return append(callsOfLabels(sig, rules, x, pattern, context, a, b), []any{l, ok})
		}
		wantOwnMemory(t, calls(), calls(), sig, rules, a, b, x, pattern, context, actions)
		wantNewResults(t, calls(), calls)
		same := slices.EqualFunc(rules, madeRules, isSameRule) && isSame(a, kept) && isSame(b, kept) && isSameSystem(x, made) && isSame(pattern, madePattern)
		if !same || !isSame(context, madeContext) || !slices.Equal(sig, house()) || !slices.Equal(actions, []int{1, 0, 7, 3, 2, 1}) {
			t.Fatalf("a call has changed %v, %v, %v or %v, or the results share their memory", rules, a, x, context)
		}
	}
}

func TestVastLabels(t *testing.T) {
	many, dot, root, rules := 1000000, read(t, oneDot), read(t, justRoot), rulesOf(t, sameDot)
	for _, l := range []impl.Labelled{bare(many), bare(3, make([][3]int, many)...), {Shows: [][]int{make([]int, many)}}, {Shows: [][]int{numbersFrom(0, many)}}, {Shows: slices.Repeat([][]int{{0}}, many), Steps: make([][3]int, many)}} {
		if impl.IsLabelled(l) {
			t.Error("IsLabelled of a vast Labelled system")
		}
		wantFailures(t, callsOfLabelled(l, 0, 0, nil, []int{0}), "a vast Labelled system")
	}
	f := make([]int, many)
	states, one := impl.Satisfying(bare(1), f)
	text, two := impl.FormulaText(slices.Repeat([]int{2}, many))
	x := impl.System{States: []impl.Bigraph{dot}}
	l, three := impl.LabelSystem(house(), x, slices.Repeat([]impl.Bigraph{dot}, many), plainActions())
	steps, four := impl.ContextSteps(house(), rules, slices.Repeat([]impl.Bigraph{root}, many), dot)
	alike, five := impl.AlikeIn(house(), rules, nil, slices.Repeat([]impl.Bigraph{root}, many), dot, dot, 40)
	wantFailures(t, [][]any{{states, one}, {text, two}, {l, three}, {steps, four}, {alike, five}}, "vast arguments")
}

func TestLabelledSystemsWithTheMostSteps(t *testing.T) {
	// All Steps that there can be, and all those that lead to states that come before.
	all, down := bare(40), bare(40)
	for from := range 40 {
		for action := range 8 {
			for to := range 40 {
				step := [3]int{from, action, to}
				all.Steps = append(all.Steps, step)
				if to < from {
					down.Steps = append(down.Steps, step)
				}
			}
		}
	}
	least, ok := impl.BisimilarOf(all)
	wantInts(t, least, ok, make([]int, 40), true, "BisimilarOf with all Steps")
	least, ok = impl.BisimilarOf(down)
	wantInts(t, least, ok, numbersFrom(0, 40), true, "BisimilarOf with all Steps to states that come before")
	small, ok := impl.QuotientOf(all)
	wantLabelled(t, small, ok, bare(1, [3]int{0, 0, 0}, [3]int{0, 1, 0}, [3]int{0, 2, 0}, [3]int{0, 3, 0}, [3]int{0, 4, 0}, [3]int{0, 5, 0}, [3]int{0, 6, 0}, [3]int{0, 7, 0}), true, "QuotientOf all Steps")
	small, ok = impl.QuotientOf(down)
	wantLabelled(t, small, ok, down, true, "QuotientOf all Steps to states that come before")
	for state := range 40 {
		is, ok := impl.IsSimulated(all, state, 39-state)
		wantReport(t, is, ok, true, "IsSimulated(all Steps, %d, %d)", state, 39-state)
		is, ok = impl.IsSimulated(down, state, 39-state)
		wantReport(t, is, ok, state <= 39-state, "IsSimulated(all Steps to states that come before, %d, %d)", state, 39-state)
		f, ok := impl.TellApart(all, state, 39-state)
		wantFailures(t, [][]any{{f, ok}}, "TellApart(all Steps, %d, %d)", state, 39-state)
		f, ok = impl.TellApart(down, 39, state)
		if ok && (!impl.IsFormula(f) || len(f) > 200) || ok != (state < 7) {
			t.Errorf("TellApart(all Steps to states that come before, 39, %d) = %d numbers, %v", state, len(f), ok)
		}
	}
}

func TestConstantsOfLabels(t *testing.T) {
	got := []int{impl.MaxMarks, impl.MaxActions, impl.MaxFormula, impl.FoTrue, impl.FoMark, impl.FoNot, impl.FoAnd, impl.FoCan}
	if want := []int{8, 8, 200, 0, 1, 2, 3, 4}; !slices.Equal(got, want) {
		t.Error("the constants are", got)
	}
}
