package tests

import (
	"fmt"
	"math"
	"math/rand"
	"reflect"
	"slices"
	"strings"
	"testing"

	"loop.example/g01082/impl"
)

// Rules over house that many tests use.
const (
	growDot   = "1; dot@-1; sites; 0; outer; inner -> 1; dot@-1; dot@-1; sites; 0; outer; inner |"
	sameDot   = "1; dot@-1; sites; 0; outer; inner -> 1; dot@-1; sites; 0; outer; inner |"
	dropRoom  = "1; room@-1; sites 0; 0; outer; inner -> 1; dot@-1; sites; 0; outer; inner |"
	openRoom  = "1; room@-1; sites 0; 0; outer; inner -> 1; sites -1; 0; outer; inner | 0"
	copyRoom  = "1; room@-1; sites 0; 0; outer; inner -> 1; room@-1; room@-1; sites 0 1; 0; outer; inner | 0 0"
	dropKey   = "1; key@-1 0; sites 0; 0; outer x; inner -> 1; sites; 0; outer x; inner |"
	copyKey   = "1; key@-1 0; sites 0; 0; outer x; inner -> 1; key@-1 0; key@-1 0; sites 0 1 1; 0; outer x; inner | 0 0 0"
	closeKeys = "1; key@-1 0; key@-1 1; sites; 0; outer x y; inner -> 1; key@-1 0; sites; 1; outer x y; inner |"
	oneDot    = "1; dot@-1; sites; 0; outer; inner"
	twoDots   = "1; dot@-1; dot@-1; sites; 0; outer; inner"
)

// ruleOf returns the Rule over house with a text.
func ruleOf(t *testing.T, text string) impl.Rule {
	t.Helper()
	r, ok := ruleOfText(house(), text)
	if !ok {
		t.Fatal("the example is not valid:", text)
	}
	return r
}

func rulesOf(t *testing.T, texts ...string) []impl.Rule {
	t.Helper()
	list := []impl.Rule{}
	for _, text := range texts {
		list = append(list, ruleOf(t, text))
	}
	return list
}

// inOneRoot is an agent over house with one root and without outer names.
func inOneRoot(t *testing.T, edges int, nodes ...string) impl.Bigraph {
	t.Helper()
	return repeated(t, fmt.Sprintf("sites; %d; outer; inner", edges), nodes...)
}

func wantRule(t *testing.T, got impl.Rule, ok bool, want impl.Rule, possible bool, call string, args ...any) {
	t.Helper()
	if !possible {
		want = impl.Rule{}
	}
	if ok != possible || !isSameRule(got, want) {
		t.Fatalf("%.600s = %v, %v; want %v, %v", fmt.Sprintf(call, args...), got, ok, want, possible)
	}
}

func wantAllSteps(t *testing.T, got []impl.Step, ok bool, want []impl.Step, possible bool, call string, args ...any) {
	t.Helper()
	if !possible {
		want = nil
	}
	if ok != possible || !slices.EqualFunc(got, want, isSameStep) {
		t.Fatalf("%.900s = %v, %v; want %v, %v", fmt.Sprintf(call, args...), got, ok, want, possible)
	}
}

// ruleCalls calls each function of the chapter that takes a single Rule and no agent.
func ruleCalls(sig []impl.Control, r impl.Rule, parameter impl.Bigraph, s impl.Sorting) [][]any {
	all := [][]any{}
	tell := func(results ...any) { all = append(all, results) }
	tell(impl.IsRule(sig, r))
	instance, ok := impl.InstanceOf(sig, r, parameter)
	tell(instance, ok)
	inverse, ok := impl.InverseRule(sig, r)
	tell(inverse, ok)
	text, ok := impl.RuleText(sig, r)
	tell(text, ok)
	keeps, ok := impl.KeepsSorting(sig, s, r)
	tell(keeps, ok)
	tell(impl.IsGuardedRule(sig, impl.GuardedRule{Rule: r}))
	return all
}

// stepCalls calls each function of the chapter that takes Rules and an agent.
func stepCalls(sig []impl.Control, rules []impl.Rule, agent impl.Bigraph, m impl.Match, g impl.Guard, goal impl.Bigraph) [][]any {
	all := [][]any{}
	tell := func(results ...any) { all = append(all, results) }
	steps, ok := impl.StepsOf(sig, rules, agent)
	tell(steps, ok)
	first, ok := impl.FirstStep(sig, rules, agent)
	tell(first, ok)
	stuck, ok := impl.IsStuck(sig, rules, agent)
	tell(stuck, ok)
	list := []impl.GuardedRule{}
	for _, r := range rules[:min(len(rules), 10)] {
		applied, ok := impl.ApplyRule(sig, r, agent, m)
		tell(applied, ok)
		holds, ok := impl.GuardHolds(sig, g, r, agent, m)
		tell(holds, ok)
		list = append(list, impl.GuardedRule{Rule: r, Guards: []impl.Guard{g}, Priority: 1})
	}
	guarded, ok := impl.GuardedSteps(sig, list, agent)
	tell(guarded, ok)
	for _, most := range []int{0, 1, 3} {
		trace, last, ok := impl.RunFirst(sig, rules, agent, most)
		tell(trace, last, ok)
	}
	for _, trace := range []impl.Trace{{}, {Rules: []int{0, 0}, Matches: []impl.Match{m, m}}} {
		last, played, ok := impl.PlayTrace(sig, rules, agent, trace)
		tell(last, played, ok)
		proves, ok := impl.ProvesReach(sig, rules, agent, trace, goal)
		tell(proves, ok)
	}
	return all
}

// checkRule checks whether a Rule over house is valid, its text and its inverse.
func checkRule(t *testing.T, r impl.Rule) bool {
	t.Helper()
	valid := isRuleAs(house(), r)
	if is := impl.IsRule(house(), r); is != valid {
		t.Fatalf("IsRule(%.600s) = %v", fmt.Sprint(r), is)
	}
	if is := impl.IsGuardedRule(house(), impl.GuardedRule{Rule: r}); is != valid {
		t.Fatalf("IsGuardedRule with the Rule %.600s = %v", fmt.Sprint(r), is)
	}
	text, ok := impl.RuleText(house(), r)
	if !valid {
		wantText(t, text, ok, "", false, "RuleText(%v)", r)
		for _, parameter := range []impl.Bigraph{{}, {Roots: len(r.Redex.Sites)}} {
			wantFailures(t, ruleCalls(house(), r, parameter, freeAs(house())), "%v", r)
		}
		checkNoSteps(t, r)
		return false
	}
	wantText(t, text, ok, ruleWords(house(), r), true, "RuleText(%v)", r)
	again, ok := impl.ParseRule(house(), text)
	wantRule(t, again, ok, r, true, "ParseRule(%s)", text)
	want, possible := inverseAs(r)
	inverse, ok := impl.InverseRule(house(), r)
	wantRule(t, inverse, ok, want, possible, "InverseRule(%v)", r)
	return true
}

// checkNoSteps checks that all calls fail that take a Rule that is not valid and an agent, also
// where the Redex has a Match.
func checkNoSteps(t *testing.T, r impl.Rule) {
	t.Helper()
	agent := cloneOf(r.Redex)
	agent.Sites, agent.Inner = nil, nil
	m := impl.Match{Nodes: numbersFrom(0, len(agent.Nodes)), Roots: negatives(numbersFrom(0, max(0, min(4, agent.Roots))))}
	if !isFine(house(), agent) {
		agent, m = read(t, oneDot), matchNamed("0 in -1")
	}
	g := impl.Guard{Where: impl.InAgent, Pattern: read(t, oneDot)}
	wantFailures(t, stepCalls(house(), []impl.Rule{r}, agent, m, g, agent), "%v", r)
	for _, rules := range [][]impl.Rule{{ruleOf(t, sameDot), r}, {r, ruleOf(t, sameDot)}} {
		wantFailures(t, stepCalls(house(), rules, agent, m, g, agent)[:3], "%v", rules)
	}
}

// checkApplied checks ApplyRule at a Match, which need not be valid.
func checkApplied(t *testing.T, r impl.Rule, agent impl.Bigraph, m impl.Match) (impl.Bigraph, bool) {
	t.Helper()
	want, possible := impl.Bigraph{}, isMatchAs(r.Redex, agent, m)
	if possible {
		want, possible = replacedBy(r, agent, m)
	}
	got, ok := impl.ApplyRule(house(), r, agent, m)
	wantResult(t, got, ok, want, possible, "ApplyRule(%v, %v, %v)", r, agent, m)
	return got, ok
}

// checkSteps checks all that is said of the steps of a list of valid Rules.
func checkSteps(t *testing.T, rules []impl.Rule, agent impl.Bigraph) ([]impl.Step, bool) {
	t.Helper()
	want, possible := allStepsAs(rules, agent)
	got, ok := impl.StepsOf(house(), rules, agent)
	wantAllSteps(t, got, ok, want, possible, "StepsOf(%v, %v)", rules, agent)
	first, firstOK := impl.FirstStep(house(), rules, agent)
	stuck, stuckOK := impl.IsStuck(house(), rules, agent)
	if len(got) > 0 {
		wantAllSteps(t, []impl.Step{first}, firstOK, want[:1], true, "FirstStep(%v, %v)", rules, agent)
	} else {
		wantFailures(t, [][]any{{first, firstOK}}, "FirstStep(%v, %v)", rules, agent)
	}
	if stuck != (possible && len(want) == 0) || stuckOK != possible {
		t.Fatalf("IsStuck(%v, %v) = %v, %v", rules, agent, stuck, stuckOK)
	}
	return got, ok
}

func TestNamedEdgeCasesOfRules(t *testing.T) {
	type ruleCase struct {
		told, redex, reactum string
		copies               []int
		is                   bool
	}
	redex := "1; room@-1; key@0 0; sites 1 0; 0; outer x; inner"
	for _, e := range []ruleCase{
		{"all parts", redex, "1; door@-1 0 1; key@-1 1; sites 0 -1; 1; outer x; inner", []int{1, 0}, true},
		{"a Redex with a site in a root", "1; room@-1; key@0 0; sites -1 0; 0; outer x; inner", redex, []int{0, 1}, false},
		{"a Redex with two sites in a node", "1; room@-1; key@0 0; sites 0 0; 0; outer x; inner", redex, []int{0, 1}, false},
		{"a Redex with an empty root", "2; room@-1; key@0 0; sites 1 0; 0; outer x; inner", "2; sites -1; 0; outer x; inner", []int{0}, false},
		{"a Redex with an idle name", "1; room@-1; key@0 0; sites 1 0; 0; outer x y; inner", "1; door@-1 0 1; sites; 0; outer x y; inner", nil, false},
		{"a Redex with an idle edge", "1; room@-1; key@0 1; sites 1 0; 1; outer x; inner", redex, []int{0, 1}, false},
		{"a Redex with an inner name", "1; room@-1; key@0 0; sites 1 0; 0; outer x; inner a=0", redex, []int{0, 1}, false},
		{"a Redex without roots", nothing, nothing, nil, false},
		{"a Reactum with an inner name of a name", redex, "1; sites -1; 0; outer x; inner x=0", []int{0}, false},
		{"a Reactum with an inner name of an edge", redex, "1; sites -1; 1; outer x; inner a=0", []int{0}, false},
		{"a Reactum with a root more", redex, "2; key@-1 0; sites; 0; outer x; inner", nil, false},
		{"a Reactum with a root less", redex, idleX, nil, false},
		{"a Reactum without the name", redex, "1; sites; 0; outer; inner", nil, false},
		{"a Reactum with another name", redex, "1; sites; 0; outer y; inner", nil, false},
		{"a Reactum with a name more", redex, "1; sites; 0; outer x y; inner", nil, false},
		{"a name more in the Redex", "1; door@-1 0 1; sites; 0; outer x y; inner", "1; sites; 0; outer x; inner", nil, false},
		{"Copies that are too short", redex, "1; sites -1 -1; 0; outer x; inner", []int{0}, false},
		{"Copies that are too long", redex, "1; sites -1 -1; 0; outer x; inner", []int{0, 1, 1}, false},
		{"no Copies for a site", redex, "1; sites -1; 0; outer x; inner", nil, false},
		{"Copies for no site", redex, "1; sites; 0; outer x; inner", []int{0}, false},
		{"Copies that name the first site that is none", redex, "1; sites -1 -1; 0; outer x; inner", []int{0, 2}, false},
		{"Copies that name a site below 0", redex, "1; sites -1 -1; 0; outer x; inner", []int{-1, 0}, false},
		{"Copies of no site of the Redex", emptyRoom, "1; sites -1; 0; outer; inner", []int{0}, false},
		{"Copies with an extreme number", redex, "1; sites -1 -1; 0; outer x; inner", []int{0, math.MaxInt}, false},
		{"Copies with another extreme number", redex, "1; sites -1 -1; 0; outer x; inner", []int{math.MinInt, 0}, false},
		{"Copies with each site", redex, "1; sites -1 -1; 0; outer x; inner", []int{1, 0}, true},
		{"Copies that drop both sites", redex, "1; sites; 0; outer x; inner", nil, true},
		{"Copies that drop a site", redex, "1; sites -1; 0; outer x; inner", []int{1}, true},
		{"Copies that copy a site four times", redex, "1; sites -1 -1 -1 -1; 0; outer x; inner", []int{1, 1, 1, 1}, true},
		{"Copies that copy and drop", redex, "1; room@-1; sites 0 -1 0; 0; outer x; inner", []int{1, 1, 1}, true},
		{"a Reactum with an idle name and an empty root", redex, "1; sites; 0; outer x; inner", nil, true},
		{"a Reactum with idle edges", redex, "1; sites; 3; outer x; inner", nil, true},
		{"a Reactum with two sites in a node", redex, "1; key@-1 0; sites 0 0; 0; outer x; inner", []int{0, 1}, true},
		{"roots without nodes", "3; dot@-1; dot@-2; dot@-3; sites; 0; outer; inner", "3; dot@-2; sites; 0; outer; inner", nil, true},
		{"a closed Redex", emptyRoom, oneDot, nil, true},
	} {
		r := impl.Rule{Redex: read(t, e.redex), Reactum: read(t, e.reactum), Copies: e.copies}
		if is := checkRule(t, r); is != e.is {
			t.Errorf("a Rule with %s is valid: %v", e.told, is)
		}
	}
	for _, bad := range brokenBigraphs() {
		for _, good := range []string{keyOfX, emptyRoom, idleX, nothing} {
			checkRule(t, impl.Rule{Redex: read(t, good), Reactum: bad})
			checkRule(t, impl.Rule{Redex: bad, Reactum: read(t, good)})
		}
		checkRule(t, impl.Rule{Redex: bad, Reactum: bad})
	}
}

func TestReactumsThatAreNotValid(t *testing.T) {
	redex := read(t, "1; room@-1; key@0 0; sites 1 0; 0; outer x; inner")
	for _, change := range []func(*impl.Bigraph){
		func(b *impl.Bigraph) { b.Nodes[0].Control = 6 },
		func(b *impl.Bigraph) { b.Nodes[0].Control = -1 },
		func(b *impl.Bigraph) { b.Nodes[0].Control = 4 },
		func(b *impl.Bigraph) { b.Nodes[1].Control = 2 },
		func(b *impl.Bigraph) { b.Nodes[1].Parent = 1 },
		func(b *impl.Bigraph) { b.Nodes[0].Parent = -2 },
		func(b *impl.Bigraph) { b.Nodes[1].Links = []int{1} },
		func(b *impl.Bigraph) { b.Nodes[1].Links = []int{-1} },
		func(b *impl.Bigraph) { b.Nodes[1].Links = nil },
		func(b *impl.Bigraph) { b.Nodes[1].Links = []int{0, 0} },
		func(b *impl.Bigraph) { b.Sites[0] = 2 },
		func(b *impl.Bigraph) { b.Sites[0] = -2 },
		func(b *impl.Bigraph) { b.Sites[0] = math.MinInt },
		func(b *impl.Bigraph) { b.Edges = -1 },
		func(b *impl.Bigraph) { b.Edges = 9 },
		func(b *impl.Bigraph) { b.Nodes = append(b.Nodes, make([]impl.Node, 7)...) },
	} {
		r := impl.Rule{Redex: redex, Reactum: cloneOf(redex), Copies: []int{0, 1}}
		if !checkRule(t, r) {
			t.Fatal("the Rule is not valid:", r)
		}
		change(&r.Reactum)
		if checkRule(t, r) {
			t.Error("the Reactum is valid:", r.Reactum)
		}
	}
	r := impl.Rule{Redex: redex, Reactum: cloneOf(redex), Copies: []int{0, 1, 0, 1, 0}}
	r.Reactum.Sites = []int{0, 0, 0, 0, 0}
	if checkRule(t, r) {
		t.Error("a Reactum with five sites is valid")
	}
}

func TestRulesOfSamples(t *testing.T) {
	t.Parallel()
	r, counts := rand.New(rand.NewSource(170)), map[string]int{}
	for range 1500 {
		rule := randomRule(r, randomRedex(r, 5))
		if !checkRule(t, rule) {
			t.Fatal("the sample is not valid:", rule)
		}
		_, possible := inverseAs(rule)
		counts[fmt.Sprint("inverse ", possible)]++
		for _, other := range slightChanges(r, rule.Redex, 3) {
			counts[fmt.Sprint("redex ", checkRule(t, impl.Rule{Redex: other, Reactum: rule.Reactum, Copies: rule.Copies}))]++
		}
		for _, other := range slightChanges(r, rule.Reactum, 3) {
			counts[fmt.Sprint("reactum ", checkRule(t, impl.Rule{Redex: rule.Redex, Reactum: other, Copies: rule.Copies}))]++
		}
		for range 3 {
			other := cloneOfRule(rule)
			if len(other.Copies) == 0 || r.Intn(4) == 0 {
				other.Copies = append(other.Copies, r.Intn(2))
			} else {
				other.Copies[r.Intn(len(other.Copies))] = r.Intn(6) - 1
			}
			counts[fmt.Sprint("copies ", checkRule(t, other))]++
		}
	}
	wantAtLeast(t, counts, 200, "inverse true", "inverse false", "redex true", "redex false", "reactum true", "reactum false", "copies true", "copies false")
}

// checkInstance checks the instance of a Bigraph, which need not be a parameter.
func checkInstance(t *testing.T, r impl.Rule, parameter impl.Bigraph) bool {
	t.Helper()
	want, possible := instanceAs(r, parameter)
	got, ok := impl.InstanceOf(house(), r, parameter)
	wantResult(t, got, ok, want, possible, "InstanceOf(%v, %v)", r, parameter)
	return ok
}

func TestInstancesOfSamples(t *testing.T) {
	t.Parallel()
	r, counts := rand.New(rand.NewSource(171)), map[string]int{}
	for range 3500 {
		rule := randomRule(r, randomRedex(r, 5))
		parameter := impl.Bigraph{Roots: len(rule.Redex.Sites), Outer: someOf(r, redexWords, 8)}
		parameter = randomInside(r, parameter, 8, 0, nil)
		counts[fmt.Sprint("parameter ", checkInstance(t, rule, parameter))]++
		for _, other := range slightChanges(r, parameter, 4) {
			counts[fmt.Sprint("other ", checkInstance(t, rule, other))]++
		}
	}
	wantAtLeast(t, counts, 100, "parameter true", "parameter false", "other true", "other false")
}

func TestInstanceExamples(t *testing.T) {
	two := "2; room@-1; room@-2; sites 0 1; 0; outer; inner -> 2; room@-1; sites "
	swap, both, thrice := two+"0 -2; 0; outer; inner | 1 0", two+"0 -1; 0; outer; inner | 1 1", two+"0 0 -2; 0; outer; inner | 0 1 0"
	drop, all := two[:len(two)-1]+"; 0; outer; inner |", two+"0 0 0 0; 0; outer; inner | 0 0 0 0"
	parameter := "2; room@-2; key@-1 1; box@0 0; dot@1; sites; 0; outer a b; inner"
	for _, e := range []struct{ told, rule, parameter, want string }{
		{"exchanged sites", swap, parameter, "2; room@-1; box@0 0; key@-2 1; dot@2; sites; 0; outer a b; inner"},
		{"a site dropped and one copied", both, parameter, "2; room@-1; box@0 0; room@-2; box@2 0; sites; 0; outer a b; inner"},
		{"three copies", thrice, parameter, "3; key@-1 1; dot@0; room@-2; box@2 0; key@-3 1; dot@4; sites; 0; outer a b; inner"},
		{"both sites dropped", drop, parameter, "0; sites; 0; outer a b; inner"},
		{"eight nodes", all, "2; room@-1; room@-2; dot@0; key@1 0; sites; 0; outer z; inner", "4; room@-1; dot@0; room@-2; dot@2; room@-3; dot@4; room@-4; dot@6; sites; 0; outer z; inner"},
		{"twelve nodes", all, "2; room@-1; room@0; dot@0; sites; 0; outer; inner", ""},
		{"nothing to copy", all, "2; room@-2; room@0; dot@0; sites; 0; outer; inner", "4; sites; 0; outer; inner"},
		{"nine nodes", thrice, "2; room@-1; room@-2; dot@0; dot@0; dot@1; dot@1; sites; 0; outer; inner", ""},
		{"eight nodes of both roots", thrice, "2; room@-1; room@-2; dot@0; dot@0; dot@1; sites; 0; outer; inner", "3; room@-1; dot@0; dot@0; room@-2; dot@3; room@-3; dot@5; dot@5; sites; 0; outer; inner"},
		{"an edge", swap, "2; key@-1 0; sites; 1; outer; inner", ""},
		{"an idle edge", swap, "2; sites; 1; outer; inner", ""},
		{"a site", swap, "2; room@-1; sites 0; 0; outer; inner", ""},
		{"a site in a root", swap, "2; sites -2; 0; outer; inner", ""},
		{"an inner name", swap, "2; sites; 0; outer a; inner a=0", ""},
		{"a root less", swap, "1; room@-1; sites; 0; outer; inner", ""},
		{"a root more", swap, "3; room@-1; sites; 0; outer; inner", ""},
		{"no roots", swap, nothing, ""},
		{"names alone", swap, "2; sites; 0; outer a b c; inner", "2; sites; 0; outer a b c; inner"},
		{"no sites", growDot, idleX, idleX},
		{"no sites, but a root", growDot, "1; sites; 0; outer; inner", ""},
	} {
		r, b := ruleOf(t, e.rule), read(t, e.parameter)
		checkInstance(t, r, b)
		got, ok := impl.InstanceOf(house(), r, b)
		if want, possible := bigraphOf(house(), e.want); !isSame(got, want) || ok != possible {
			t.Errorf("the instance of a Bigraph with %s is %v, %v; want %s", e.told, got, ok, e.want)
		}
	}
	names := impl.Bigraph{Roots: 2, Outer: namesUpTo(16)}
	got, ok := impl.InstanceOf(house(), ruleOf(t, both), names)
	wantResult(t, got, ok, names, true, "InstanceOf 16 names")
	for _, bad := range brokenBigraphs() {
		got, ok := impl.InstanceOf(house(), ruleOf(t, growDot), bad)
		wantResult(t, got, ok, impl.Bigraph{}, false, "InstanceOf(%v)", bad)
	}
}

// An appliedExample tells a Rule, an agent and a Match in words, and where this leads to.
type appliedExample struct{ told, rule, agent, match, want string }

func checkAppliedExamples(t *testing.T, examples []appliedExample) {
	t.Helper()
	for _, e := range examples {
		r, agent := ruleOf(t, e.rule), read(t, e.agent)
		got, ok := checkApplied(t, r, agent, matchNamed(e.match))
		if want, possible := bigraphOf(house(), e.want); !isSame(got, want) || ok != possible {
			t.Errorf("ApplyRule for %s leads to %s, %v; want %s", e.told, textOf(house(), got), ok, e.want)
		}
	}
}

func TestDroppedAndCopiedSites(t *testing.T) {
	rooms := "1; room@-1; key@0 1; room@0; dot@2; key@-1 0; sites; 2; outer; inner"
	nested := "2; room@-1; room@0; key@-2 0; sites 2 1 0; 0; outer x; inner -> 2; room@-2; key@0 0; sites "
	agent := "1; room@-1; key@-1 0; dot@0; room@0; box@3 1; dot@1; key@3 1; sites; 1; outer y; inner"
	checkAppliedExamples(t, []appliedExample{
		{"a dropped site", dropRoom, rooms, "0 in -1", "1; key@-1 0; dot@-1; sites; 2; outer; inner"},
		{"a dropped site with a node", dropRoom, rooms, "2 in 0", "1; room@-1; key@0 1; key@-1 0; dot@0; sites; 2; outer; inner"},
		{"a site in a root", openRoom, rooms, "0 in -1", "1; key@-1 0; key@-1 1; room@-1; dot@2; sites; 2; outer; inner"},
		{"a site in the parent", openRoom, rooms, "2 in 0", "1; room@-1; key@0 1; key@-1 0; dot@0; sites; 2; outer; inner"},
		{"a copied site", copyRoom, rooms, "2 in 0", "1; room@-1; key@0 1; key@-1 0; room@0; room@0; dot@3; dot@4; sites; 2; outer; inner"},
		{"a copied site with more", copyRoom, "1; room@-1; key@0 1; room@0; dot@2; sites; 2; outer; inner", "0 in -1", "1; room@-1; room@-1; key@0 1; room@0; dot@3; key@1 1; room@1; dot@6; sites; 2; outer; inner"},
		{"a copied site that is empty", copyRoom, emptyRoom, "0 in -1", "1; room@-1; room@-1; sites; 0; outer; inner"},
		{"a dropped site that is empty", dropRoom, emptyRoom, "0 in -1", oneDot},
		{"all sites in order", nested + "0 0 1; 0; outer x; inner | 0 1 2", agent, "0 3 1 in -1 -1", "1; room@-1; key@0 0; dot@0; box@0 1; key@0 1; dot@1; sites; 1; outer y; inner"},
		{"all sites in another order", nested + "1 -1 0; 0; outer x; inner | 2 0 1", agent, "0 3 1 in -1 -1", "1; room@-1; key@0 0; dot@1; dot@-1; box@0 1; key@0 1; sites; 1; outer y; inner"},
		{"a site dropped, and two copied", nested + "-1 0 1; 0; outer x; inner | 2 0 2", agent, "0 3 1 in -1 -1", "1; room@-1; key@0 0; dot@-1; dot@0; dot@1; sites; 1; outer y; inner"},
		{"a site copied, and two dropped", nested + "-1 0 1; 0; outer x; inner | 0 0 0", agent, "0 3 1 in -1 -1", "1; room@-1; key@0 0; dot@-1; dot@0; dot@1; sites; 1; outer y; inner"},
	})
}

func TestLinksOfParametersInSteps(t *testing.T) {
	shared := "1; key@-1 0; key@0 0; door@0 1 2; key@-1 1; sites; 2; outer y; inner"
	edged := "1; key@-1 0; room@-1; key@1 0; sites 0 1; 1; outer; inner -> 1; room@-1; key@0 0; sites 0 1; 1; outer; inner | 1 0"
	checkAppliedExamples(t, []appliedExample{
		{"copies that share links", copyRoom, "1; room@-1; key@0 0; key@0 1; sites; 1; outer y; inner", "0 in -1", "1; room@-1; room@-1; key@0 0; key@0 1; key@1 0; key@1 1; sites; 1; outer y; inner"},
		{"copies that share links with the rest and the Redex", "1; key@-1 0; sites 0; 0; outer x; inner -> 1; room@-1; key@-1 0; sites 0 1; 0; outer x; inner | 0 0", shared, "0 in -1", "1; key@-1 1; room@-1; key@-1 0; key@1 0; door@1 1 2; key@2 0; door@2 1 2; sites; 2; outer y; inner"},
		{"a link that only the parameter has left", dropKey, shared, "0 in -1", "1; key@-1 1; sites; 2; outer y; inner"},
		{"a link that nothing has left", dropKey, "1; key@-1 0; key@0 0; sites; 1; outer; inner", "0 in -1", "1; sites; 1; outer; inner"},
		{"a name that nothing has left", dropKey, "1; key@-1 0; key@0 1; sites; 0; outer a b; inner", "0 in -1", "1; sites; 0; outer a b; inner"},
		{"three copies", copyKey, "1; key@-1 1; key@0 2; sites; 2; outer y; inner", "0 in -1", "1; key@-1 1; key@-1 1; key@0 2; key@1 2; key@1 2; sites; 2; outer y; inner"},
		{"an edge of the Redex that goes, and one of the Reactum that comes", edged, "1; key@-1 1; room@-1; key@0 0; key@1 1; box@1 2; sites; 2; outer y; inner", "0 1 3 in -1", "1; room@-1; key@0 1; box@0 2; key@1 0; sites; 2; outer y; inner"},
		{"an edge of the Redex that is not replaced", "1; key@-1 0; sites 0; 1; outer; inner -> 1; room@-1; sites 0; 0; outer; inner | 0", "1; key@-1 1; key@0 2; key@0 0; sites; 3; outer; inner", "0 in -1", "1; room@-1; key@0 1; key@0 0; sites; 2; outer; inner"},
		{"names that the Redex has as passed names have", "1; door@-1 0 1; sites 0; 0; outer za zc; inner -> 1; door@-1 1 0; sites 0; 0; outer za zc; inner | 0", "1; door@-1 0 3; pen@0 1 2 3; sites; 3; outer zb; inner", "0 in -1", "1; door@-1 3 0; pen@0 1 2 3; sites; 3; outer zb; inner"},
		{"two names of one link", closeKeys, "1; key@-1 0; key@-1 0; sites; 1; outer; inner", "0 1 in -1", "1; key@-1 1; sites; 2; outer; inner"},
		{"two names of two links", closeKeys, "1; key@-1 1; key@-1 0; sites; 2; outer; inner", "1 0 in -1", "1; key@-1 2; sites; 3; outer; inner"},
		{"names that a Rule exchanges", "1; key@-1 0; box@-1 1; sites; 0; outer x y; inner -> 1; key@-1 1; box@-1 0; sites; 0; outer x y; inner |", "1; box@-1 0; key@-1 1; sites; 0; outer b c; inner", "1 0 in -1", "1; key@-1 0; box@-1 1; sites; 0; outer b c; inner"},
	})
}

func TestReactumsThatAreNoRedex(t *testing.T) {
	checkAppliedExamples(t, []appliedExample{
		{"a Reactum without nodes", "1; key@-1 0; sites; 0; outer x; inner -> 1; sites; 0; outer x; inner |", "1; key@-1 0; sites; 1; outer; inner", "0 in -1", "1; sites; 1; outer; inner"},
		{"idle edges", "1; dot@-1; sites; 0; outer; inner -> 1; sites; 2; outer; inner |", "1; dot@-1; key@-1 0; sites; 1; outer; inner", "0 in -1", "1; key@-1 0; sites; 3; outer; inner"},
		{"roots with one place", "2; dot@-1; key@-2 0; sites; 0; outer x; inner -> 2; box@-2 0; sites; 0; outer x; inner |", "1; room@-1; key@0 0; dot@0; sites; 0; outer y; inner", "2 1 in 0 0", "1; room@-1; box@0 0; sites; 0; outer y; inner"},
		{"roots with exchanged nodes", "2; dot@-1; room@-2; sites 1; 0; outer; inner -> 2; room@-1; dot@-2; sites 0; 0; outer; inner | 0", "2; dot@-1; room@-2; dot@1; sites; 0; outer; inner", "0 1 in -1 -2", "2; room@-1; dot@-2; dot@0; sites; 0; outer; inner"},
		{"two sites in a root", "2; room@-1; room@-2; sites 0 1; 0; outer; inner -> 2; sites -2 -2; 0; outer; inner | 1 0", "2; room@-1; room@-2; dot@0; key@1 0; sites; 1; outer; inner", "0 1 in -1 -2", "2; key@-2 0; dot@-2; sites; 1; outer; inner"},
		{"a node that is in the place of a passive one", "1; box@-1 0; sites 0; 0; outer x; inner -> 1; room@-1; sites 0; 0; outer x; inner | 0", "1; room@-1; box@0 0; box@1 0; sites; 0; outer y; inner", "1 in 0", "1; room@-1; room@0; box@1 0; sites; 0; outer y; inner"},
	})
}

func TestRulesAreAppliedAtValidMatches(t *testing.T) {
	agent := "1; box@-1 0; dot@0; dot@-1; room@0; dot@3; sites; 1; outer; inner"
	checkAppliedExamples(t, []appliedExample{
		{"an active Match", growDot, agent, "2 in -1", "1; box@-1 0; dot@0; room@0; dot@2; dot@-1; dot@-1; sites; 1; outer; inner"},
		{"a Match that is not active", growDot, agent, "1 in 0", "1; box@-1 0; dot@-1; room@0; dot@2; dot@0; dot@0; sites; 1; outer; inner"},
		{"a Match under a passive node", growDot, agent, "4 in 3", "1; box@-1 0; dot@0; dot@-1; room@0; dot@3; dot@3; sites; 1; outer; inner"},
		{"a Match with another place", growDot, agent, "2 in 0", ""},
		{"a Match of another Control", growDot, agent, "3 in 0", ""},
		{"a Match of no node", growDot, agent, "5 in -1", ""},
		{"a Match of a node below 0", growDot, agent, "-1 in -1", ""},
		{"a Match with a node more", growDot, agent, "1 4 in 0", ""},
		{"a Match without nodes", growDot, agent, " in -1", ""},
		{"a Match with a root more", growDot, agent, "2 in -1 -1", ""},
		{"a Match without roots", growDot, agent, "2", ""},
		{"an empty Match", growDot, agent, "", ""},
	})
	for _, text := range []string{"1; dot@-1; sites -1; 0; outer; inner", "1; dot@-1; sites; 1; outer; inner a=0"} {
		got, ok := impl.ApplyRule(house(), ruleOf(t, growDot), read(t, text), matchNamed("0 in -1"))
		wantResult(t, got, ok, impl.Bigraph{}, false, "ApplyRule to %s", text)
	}
}

func TestResultsThatWouldNotBeValid(t *testing.T) {
	closing := "1; dot@-1; sites; 0; outer; inner -> 1; dot@-1; sites; 1; outer; inner |"
	replaced := "1; key@-1 0; sites; 1; outer; inner -> 1; key@-1 0; key@-1 1; sites; 2; outer; inner |"
	for _, e := range []struct {
		told, rule string
		agent      impl.Bigraph
		fits       bool
	}{
		{"eight nodes", growDot, inOneRoot(t, 0, times(7, "dot@-1")...), true},
		{"nine nodes", growDot, inOneRoot(t, 0, times(8, "dot@-1")...), false},
		{"eight nodes with copies", copyRoom, inOneRoot(t, 0, "room@-1", "dot@0", "dot@0", "dot@0"), true},
		{"nine nodes with copies", copyRoom, inOneRoot(t, 0, "room@-1", "dot@0", "dot@0", "dot@0", "dot@-1"), false},
		{"ten nodes with copies", copyRoom, inOneRoot(t, 0, "room@-1", "dot@0", "dot@0", "dot@0", "dot@0"), false},
		{"sixteen nodes with copies", copyRoom, inOneRoot(t, 0, append([]string{"room@-1"}, times(7, "dot@0")...)...), false},
		{"one node instead of eight", dropRoom, inOneRoot(t, 0, append([]string{"room@-1"}, times(7, "dot@0")...)...), true},
		{"seven nodes instead of eight", openRoom, inOneRoot(t, 0, append([]string{"room@-1"}, times(7, "dot@0")...)...), true},
		{"eight edges", closing, inOneRoot(t, 7, "dot@-1"), true},
		{"nine edges", closing, inOneRoot(t, 8, "dot@-1"), false},
		{"eight edges, one of which is replaced", replaced, inOneRoot(t, 7, "key@-1 3"), true},
		{"nine edges, one of which is replaced", replaced, inOneRoot(t, 8, "key@-1 3"), false},
	} {
		r, m := ruleOf(t, e.rule), impl.Match{Nodes: []int{0}, Roots: []int{-1}}
		got, ok := checkApplied(t, r, e.agent, m)
		if ok != e.fits {
			t.Errorf("ApplyRule with %s = %v, %v", e.told, got, ok)
		}
		if _, ok := checkSteps(t, []impl.Rule{r}, e.agent); ok != e.fits {
			t.Errorf("StepsOf with %s does not fail as ApplyRule does", e.told)
		}
	}
}

func TestTooManyNamesForAStep(t *testing.T) {
	m, counts := impl.Match{Nodes: []int{0}, Roots: []int{-1}}, map[string]int{}
	for links := range 20 {
		for _, text := range []string{dropKey, "1; key@-1 0; sites 0; 0; outer x; inner -> 1; key@-1 0; sites 0; 0; outer x; inner | 0"} {
			r, agent := ruleOf(t, text), linkedTo(1, links, 8, 16)
			_, ok := checkApplied(t, r, agent, m)
			if ok != (links+1 <= 16) {
				t.Errorf("ApplyRule with %d links of the parameter and a name = %v", links, ok)
			}
			_, fine := checkSteps(t, []impl.Rule{r}, agent)
			counts[fmt.Sprint(links+1, " ", ok, " ", fine)]++
		}
	}
	wantAtLeast(t, counts, 2, "16 true true", "17 false false")
}

// tellStep counts what a step shows.
func tellStep(r impl.Rule, agent impl.Bigraph, m impl.Match, counts map[string]int) {
	rest, _, parameter := partsOf(agent, m)
	copied, images := slices.Sorted(slices.Values(r.Copies)), matchLinksAs(r.Redex, agent, m)
	inside := map[int]bool{}
	for _, k := range parameter {
		for _, link := range agent.Nodes[k].Links {
			inside[link] = true
		}
	}
	linked := func(link int) bool { return inside[link] }
	seen := map[string]bool{
		"dropped sites":        len(slices.Compact(slices.Clone(copied))) < len(r.Redex.Sites) && len(parameter) > 0,
		"copied sites":         len(slices.Compact(slices.Clone(copied))) < len(copied) && len(parameter) > 0,
		"links of the Redex":   slices.ContainsFunc(images, linked),
		"edges of the Redex":   r.Redex.Edges > 0,
		"edges of the Reactum": r.Reactum.Edges > 0,
		"several roots":        r.Redex.Roots > 1,
		"no redex":             !isRedexAs(r.Reactum),
		"not active":           !isActiveAs(house(), agent, m),
	}
	for _, k := range rest {
		seen["links of the rest"] = seen["links of the rest"] || slices.ContainsFunc(agent.Nodes[k].Links, linked)
	}
	countSeen(seen, counts)
}

func TestRulesAppliedToSamples(t *testing.T) {
	t.Parallel()
	r, counts := rand.New(rand.NewSource(172)), map[string]int{}
	check := func(redex impl.Bigraph, agent impl.Bigraph, m impl.Match) {
		rule := randomRule(r, redex)
		if _, ok := checkApplied(t, rule, agent, m); ok {
			tellStep(rule, agent, m, counts)
			counts["applied"]++
		} else {
			counts["too large"]++
		}
		other := cloneOfMatch(m)
		other.Nodes[r.Intn(len(other.Nodes))] = r.Intn(len(agent.Nodes))
		_, ok := checkApplied(t, rule, agent, other)
		counts[fmt.Sprint("other ", ok)]++
	}
	for _, agent := range append(agentSamples(173, 1500, 6), agentSamples(174, 500, 8)...) {
		redex, m := redexIn(r, agent, 5)
		check(redex, agent, m)
	}
	for range 3000 {
		check(filledAgent(r, 8))
	}
	wantAtLeast(t, counts, 100, "applied", "too large", "other true", "other false", "dropped sites", "copied sites", "links of the Redex", "links of the rest",
		"edges of the Redex", "edges of the Reactum", "several roots", "no redex", "not active")
}

func TestStepsOfSamples(t *testing.T) {
	t.Parallel()
	r, counts := rand.New(rand.NewSource(175)), map[string]int{}
	for _, agent := range agentSamples(176, 1500, 6) {
		rules := rulesFor(r, agent, 1+r.Intn(6), 4)
		steps, ok := checkSteps(t, rules, agent)
		counts[fmt.Sprint("ok ", ok)]++
		numbers := map[int]bool{}
		for _, step := range steps {
			numbers[step.Rule] = true
		}
		counts[fmt.Sprint(min(2, len(numbers)), " rules")]++
		counts[fmt.Sprint(min(3, len(steps)), " steps")]++
	}
	wantAtLeast(t, counts, 50, "ok true", "ok false", "0 rules", "1 rules", "2 rules", "1 steps", "3 steps")
}

// wordsOfSteps writes steps in short: their Rules, their Matches, and where they lead to.
func wordsOfSteps(steps []impl.Step) string {
	words := []string{}
	for _, step := range steps {
		words = append(words, fmt.Sprint(step.Rule, ": ", matchWords([]impl.Match{step.Match})))
	}
	return strings.Join(words, "; ")
}

func TestStepsOfExamples(t *testing.T) {
	agent := "1; box@-1 0; dot@0; dot@-1; room@-1; dot@3; sites; 1; outer; inner"
	for _, e := range []struct {
		told  string
		rules []string
		agent string
		want  string
	}{
		{"steps that are not active", []string{growDot}, agent, "0: 2 in -1; 0: 4 in 3"},
		{"several Rules", []string{openRoom, growDot, dropRoom}, agent, "0: 3 in -1; 1: 2 in -1; 1: 4 in 3; 2: 3 in -1"},
		{"the same Rule twice", []string{dropRoom, dropRoom}, agent, "0: 3 in -1; 1: 3 in -1"},
		{"no steps", []string{dropKey}, agent, ""},
		{"no steps but those that are not active", []string{growDot}, "1; box@-1 0; dot@0; sites; 1; outer; inner", ""},
		{"an agent without nodes", []string{growDot, copyRoom}, "2; sites; 1; outer x; inner", ""},
		{"an agent without roots", []string{growDot, copyRoom}, nothing, ""},
		{"a passive node in the Redex", []string{"1; box@-1 0; dot@0; sites; 0; outer x; inner -> 1; sites; 0; outer x; inner |"}, "1; box@-1 0; dot@0; sites; 1; outer; inner", "0: 0 1 in -1"},
		{"symmetric Matches", []string{"1; dot@-1; dot@-1; sites; 0; outer; inner -> 1; sites; 0; outer; inner |"}, "1; dot@-1; dot@-1; sites; 0; outer; inner", "0: 0 1 in -1; 0: 1 0 in -1"},
		{"MaxRules Rules", slices.Repeat([]string{sameDot}, 6), oneDot, "0: 0 in -1; 1: 0 in -1; 2: 0 in -1; 3: 0 in -1; 4: 0 in -1; 5: 0 in -1"},
	} {
		steps, ok := checkSteps(t, rulesOf(t, e.rules...), read(t, e.agent))
		if got := wordsOfSteps(steps); !ok || got != e.want {
			t.Errorf("the steps for %s are %q, %v; want %q", e.told, got, ok, e.want)
		}
	}
}

func TestListsOfRules(t *testing.T) {
	dot, m := read(t, oneDot), matchNamed("0 in -1")
	g := impl.Guard{Where: impl.InAgent, Pattern: dot}
	for n := range 9 {
		rules := rulesOf(t, slices.Repeat([]string{sameDot}, n)...)
		list := slices.Repeat([]impl.GuardedRule{{Rule: ruleOf(t, sameDot), Guards: []impl.Guard{g}}}, n)
		guarded, ok := impl.GuardedSteps(house(), list, dot)
		if n == 0 || n > 6 {
			// ApplyRule and GuardHolds take one Rule each.
			all := stepCalls(house(), rules, dot, m, g, dot)
			wantFailures(t, append(all[:3], all[3+2*n:]...), "a list of %d Rules", n)
			wantFailures(t, [][]any{{guarded, ok}}, "a list of %d GuardedRules", n)
			continue
		}
		steps, fine := checkSteps(t, rules, dot)
		if len(steps) != n || !fine {
			t.Errorf("there are %d steps of %d Rules", len(steps), n)
		}
		wantAllSteps(t, guarded, ok, steps, true, "GuardedSteps of %d Rules", n)
	}
	for _, n := range []int{7, 1000000} {
		rules := slices.Repeat([]impl.Rule{ruleOf(t, sameDot)}, n)
		wantFailures(t, stepCalls(house(), rules, dot, m, g, dot)[:3], "%d Rules", n)
		guarded, ok := impl.GuardedSteps(house(), slices.Repeat([]impl.GuardedRule{{Rule: rules[0]}}, n), dot)
		wantFailures(t, [][]any{{guarded, ok}}, "%d GuardedRules", n)
	}
}

func TestStepsThatMakeStepsOfFail(t *testing.T) {
	full := inOneRoot(t, 0, append([]string{"room@-1"}, times(7, "dot@0")...)...)
	for _, e := range []struct {
		told  string
		rules []string
		agent impl.Bigraph
		fits  bool
	}{
		{"the first Rule cannot be applied", []string{growDot, openRoom}, full, false},
		{"the last Rule cannot be applied", []string{openRoom, growDot}, full, false},
		{"the Rule is not in the list", []string{openRoom, dropRoom}, full, true},
		{"it has no active Match", []string{growDot}, inOneRoot(t, 1, append([]string{"box@-1 0"}, times(7, "dot@0")...)...), true},
		{"it has also an active Match", []string{growDot}, inOneRoot(t, 1, append([]string{"box@-1 0", "dot@-1"}, times(6, "dot@0")...)...), false},
	} {
		rules := rulesOf(t, e.rules...)
		if _, ok := checkSteps(t, rules, e.agent); ok != e.fits {
			t.Errorf("StepsOf, where %s, = %v", e.told, ok)
		}
		list := []impl.GuardedRule{}
		for _, r := range rules {
			// This never holds, but GuardedSteps fails if StepsOf does.
			never := impl.Guard{Where: impl.InAgent, Not: true, Pattern: r.Redex}
			list = append(list, impl.GuardedRule{Rule: r, Guards: []impl.Guard{never}})
		}
		if steps, ok := impl.GuardedSteps(house(), list, e.agent); ok != e.fits || len(steps) > 0 {
			t.Errorf("GuardedSteps, where %s, = %v, %v", e.told, steps, ok)
		}
		for most := range 2 {
			if _, _, ok := impl.RunFirst(house(), rules, e.agent, most); ok != (e.fits || most == 0) {
				t.Errorf("RunFirst with %d steps, where %s, = %v", most, e.told, ok)
			}
		}
	}
}

func TestMaxMatchesOfARule(t *testing.T) {
	dots := read(t, "3; dot@-1; dot@-2; dot@-3; dot@-2; sites; 0; outer; inner")
	many := read(t, "4; dot@-4; dot@-4; dot@-4; dot@-2; dot@-4; dot@-1; dot@-4; sites; 0; outer; inner")
	pens := read(t, "1; pen@-1 2 1 3; pen@-1 3 5 4; pen@-1 6 2 2; pen@-1 7 0 0; sites; 0; outer a b c d e f g h; inner")
	more := read(t, "1; pen@-1 1 1 1; pen@-1 1 1 1; pen@-1 0 1 1; pen@-1 1 0 1; pen@-1 0 0 0; pen@-1 1 0 0; pen@-1 0 1 1; pen@-1 1 1 1; sites; 0; outer x y; inner")
	four := read(t, "1; dot@-1; dot@-1; dot@-1; dot@-1; sites; 0; outer; inner")
	boxed := inOneRoot(t, 1, append([]string{"box@-1 0"}, times(7, "dot@0")...)...)
	for _, e := range []struct {
		redex, agent impl.Bigraph
		matches      int
		steps        int
	}{{dots, many, 400, 400}, {pens, more, 401, 0}, {four, boxed, 840, 0}} {
		r, fits := impl.Rule{Redex: e.redex, Reactum: e.redex}, e.matches <= 400
		rules := []impl.Rule{ruleOf(t, dropRoom), r}
		steps, ok := checkSteps(t, rules, e.agent)
		if n := len(matchesAs(e.redex, e.agent)); n != e.matches || len(steps) != e.steps || ok != fits {
			t.Errorf("%d steps, %v, of %d Matches", len(steps), ok, n)
		}
		first := matchesAs(e.redex, e.agent)[0]
		guards := []impl.Guard{{Where: impl.InAgent, Pattern: e.redex}}
		guarded, ok := impl.GuardedSteps(house(), []impl.GuardedRule{{Rule: rules[0]}, {Rule: r, Guards: guards}}, e.agent)
		wantAllSteps(t, guarded, ok, steps, fits, "GuardedSteps of %d Matches", e.matches)
		// Only AllMatches fails for too many Matches.
		checkApplied(t, r, e.agent, first)
		holds, ok := impl.GuardHolds(house(), guards[0], r, e.agent, first)
		wantReport(t, holds, ok, true, "GuardHolds of %d Matches", e.matches)
		active := isActiveAs(house(), e.agent, first)
		proves, ok := impl.ProvesReach(house(), rules, e.agent, impl.Trace{Rules: []int{1}, Matches: []impl.Match{first}}, e.agent)
		wantReport(t, proves, ok, active, "ProvesReach of %d Matches", e.matches)
		_, _, ok = impl.RunFirst(house(), rules, e.agent, 1)
		_, _, fine := impl.RunFirst(house(), rules, e.agent, 0)
		if ok != fits || !fine {
			t.Errorf("RunFirst of %d Matches = %v, and with no step %v", e.matches, ok, fine)
		}
	}
}

func TestInverseExamples(t *testing.T) {
	for _, e := range []struct{ told, rule, want string }{
		{"no sites", growDot, "1; dot@-1; dot@-1; sites; 0; outer; inner -> 1; dot@-1; sites; 0; outer; inner |"},
		{"one site", "1; room@-1; sites 0; 0; outer; inner -> 1; room@-1; room@0; sites 1; 0; outer; inner | 0", "1; room@-1; room@0; sites 1; 0; outer; inner -> 1; room@-1; sites 0; 0; outer; inner | 0"},
		{"three sites in another order", "1; room@-1; room@-1; room@-1; sites 0 1 2; 0; outer; inner -> 1; room@-1; room@0; room@1; sites 2 0 1; 0; outer; inner | 2 0 1", "1; room@-1; room@0; room@1; sites 2 0 1; 0; outer; inner -> 1; room@-1; room@-1; room@-1; sites 0 1 2; 0; outer; inner | 1 2 0"},
		{"four sites in another order", "4; room@-1; room@-2; room@-3; room@-4; sites 0 1 2 3; 0; outer; inner -> 4; room@-4; room@-3; room@-2; room@-1; sites 0 1 2 3; 0; outer; inner | 3 0 1 2", "4; room@-4; room@-3; room@-2; room@-1; sites 0 1 2 3; 0; outer; inner -> 4; room@-1; room@-2; room@-3; room@-4; sites 0 1 2 3; 0; outer; inner | 1 2 3 0"},
		{"edges", "1; key@-1 0; sites; 1; outer; inner -> 1; door@-1 0 1; sites; 2; outer; inner |", "1; door@-1 0 1; sites; 2; outer; inner -> 1; key@-1 0; sites; 1; outer; inner |"},
		{"a dropped site", dropRoom, ""},
		{"a copied site", copyRoom, ""},
		{"a site dropped and one copied", "1; room@-1; room@-1; sites 0 1; 0; outer; inner -> 1; room@-1; room@-1; sites 0 1; 0; outer; inner | 1 1", ""},
		{"a site that is copied, and another one", "1; room@-1; room@-1; sites 0 1; 0; outer; inner -> 1; room@-1; room@-1; room@-1; sites 0 1 2; 0; outer; inner | 1 0 1", ""},
		{"one site of two", "1; room@-1; room@-1; sites 0 1; 0; outer; inner -> 1; room@-1; sites 0; 0; outer; inner | 0", ""},
		{"a Reactum with a site in a root", openRoom, ""},
		{"a Reactum with two sites in a node", "1; room@-1; room@-1; sites 0 1; 0; outer; inner -> 1; room@-1; sites 0 0; 0; outer; inner | 0 1", ""},
		{"a Reactum with an idle name", "1; key@-1 0; sites; 0; outer x; inner -> 1; dot@-1; sites; 0; outer x; inner |", ""},
		{"a Reactum with an idle edge", "1; dot@-1; sites; 0; outer; inner -> 1; dot@-1; sites; 1; outer; inner |", ""},
		{"a Reactum with an empty root", "1; dot@-1; sites; 0; outer; inner -> 1; sites; 0; outer; inner |", ""},
	} {
		r := ruleOf(t, e.rule)
		checkRule(t, r)
		want, possible := ruleOfText(house(), e.want)
		got, ok := impl.InverseRule(house(), r)
		if !isSameRule(got, want) || ok != possible {
			t.Errorf("InverseRule of a Rule with %s = %v, %v; want %s", e.told, got, ok, e.want)
		}
	}
}

// checkParsedRule checks whether a text is read.
func checkParsedRule(t *testing.T, sig []impl.Control, text string) bool {
	t.Helper()
	want, possible := ruleOfText(sig, text)
	r, ok := impl.ParseRule(sig, text)
	wantRule(t, r, ok, want, possible, "ParseRule(%v, %q)", sig, text)
	return ok
}

func TestTextsThatAreNoRules(t *testing.T) {
	before, after := "1; room@-1; sites 0; 0; outer; inner", "1; room@-1; sites 0; 0; outer; inner"
	for _, text := range []string{
		"", " ", " -> ", " |", " ->  |", before, before + " -> ", before + " -> |", before + " -> " + after, before + " -> " + after + " ", before + " -> " + after + " |",
		before + " -> " + after + "|", before + " -> " + after + "| 0", before + " -> " + after + " |0", before + " -> " + after + " |  0", before + " -> " + after + " | 0 ", before + " -> " + after + " | 0\n", before + " -> " + after + "  | 0",
		before + " -> " + after + " | 00", before + " -> " + after + " | -0", before + " -> " + after + " | +0", before + " -> " + after + " | x", before + " -> " + after + " | 1", before + " -> " + after + " | -1", before + " -> " + after + " | 0 0", before + " -> " + after + " | 9999999999999999999",
		before + "->" + after + " | 0", before + " ->" + after + " | 0", before + "-> " + after + " | 0", before + " => " + after + " | 0", before + " - > " + after + " | 0", before + " ->  " + after + " | 0", before + "  -> " + after + " | 0", before + " | 0 -> " + after, before + " -> " + after + " | 0 | 0", before + " -> " + after + " -> " + after + " | 0",
		" " + before + " -> " + after + " | 0", before + "; -> " + after + " | 0", before + " -> " + after + "; | 0", before + "\n -> " + after + " | 0", before + " -> " + after + " | 0 -> ", before + " -> " + after + " || 0", after + " | 0",
		"1; sites -1; 0; outer; inner -> " + after + " | 0", before + " -> 2; room@-1; sites 0; 0; outer; inner | 0", before + " -> 1; room@-1; sites 0; 0; outer x; inner | 0", before + " -> 1; room@-1; sites 0; 1; outer; inner x=0 | 0", before + " -> 1; rooms@-1; sites 0; 0; outer; inner | 0",
	} {
		if checkParsedRule(t, house(), text) {
			t.Errorf("ParseRule reads %q", text)
		}
	}
	for _, text := range []string{before + " -> " + after + " | 0", before + " -> " + emptyRoom + " |", growDot, copyKey, closeKeys} {
		if !checkParsedRule(t, house(), text) {
			t.Errorf("ParseRule does not read %q", text)
		}
	}
	for _, text := range []string{strings.Repeat(" -> ", 300000), strings.Repeat(" | ", 300000), before + " -> " + after + " |" + strings.Repeat(" 0", 500000), strings.Repeat("1; ", 300000) + before, strings.Repeat("\xff", 1000000)} {
		if r, ok := impl.ParseRule(house(), text); ok || !isSameRule(r, impl.Rule{}) {
			t.Error("ParseRule of a vast text =", r, ok)
		}
	}
}

func TestChangedTextsOfRules(t *testing.T) {
	t.Parallel()
	counts := map[string]int{}
	for _, text := range []string{copyKey, growDot, "2; room@-1; key@-2 0; sites 0 1; 0; outer x; inner -> 2; key@-2 1; sites 0 -1; 1; outer x; inner | 1 0"} {
		for i := range len(text) + 1 {
			for _, c := range []byte(" ;->|@0123xykt\n\x00\xff") {
				counts[fmt.Sprint("more ", checkParsedRule(t, house(), text[:i]+string([]byte{c})+text[i:]))]++
				if i < len(text) {
					counts[fmt.Sprint("other ", checkParsedRule(t, house(), text[:i]+string([]byte{c})+text[i+1:]))]++
				}
			}
			if i < len(text) {
				counts[fmt.Sprint("less ", checkParsedRule(t, house(), text[:i]+text[i+1:]))]++
				counts[fmt.Sprint("start ", checkParsedRule(t, house(), text[:i]))]++
			}
		}
	}
	wantAtLeast(t, counts, 10, "more false", "other true", "other false", "less false", "start false")
}

func TestTheLongestTextsOfRules(t *testing.T) {
	full := impl.Bigraph{Roots: 4, Outer: namesUpTo(16), Sites: []int{4, 5, 6, 7}}
	for k := range 8 {
		full.Nodes = append(full.Nodes, impl.Node{Control: 2, Parent: -1 - k%4, Links: []int{2 * k, 2*k + 1}})
	}
	r := impl.Rule{Redex: full, Reactum: full, Copies: []int{3, 2, 1, 0}}
	if !checkRule(t, r) || !checkParsedRule(t, house(), ruleWords(house(), r)) || len(ruleWords(house(), r)) < 400 {
		t.Error("the largest Rule is not valid:", r)
	}
	over := []impl.Control{{Name: "k", Ports: 1}}
	for _, sig := range append(badSignatures(), house()[:3], over) {
		got, ok := impl.ParseRule(sig, growDot)
		wantRule(t, got, ok, impl.Rule{}, false, "ParseRule over %.100v", sig)
	}
	if text := "1; k@-1 0; sites 0; 0; outer x; inner -> 1; k@-1 0; sites 0; 0; outer x; inner | 0"; !checkParsedRule(t, over, text) || checkParsedRule(t, house(), text) {
		t.Error("a text is not read over its signature alone:", text)
	}
}

// checkGuard checks GuardHolds at a Match that is valid.
func checkGuard(t *testing.T, g impl.Guard, r impl.Rule, agent impl.Bigraph, m impl.Match) bool {
	t.Helper()
	holds, ok := impl.GuardHolds(house(), g, r, agent, m)
	wantReport(t, holds, ok, holdsAs(g, agent, m), "GuardHolds(%v, %v, %v, %v)", g, r, agent, m)
	return holds
}

func TestGuardsOfSamples(t *testing.T) {
	t.Parallel()
	r, counts := rand.New(rand.NewSource(177)), map[string]int{}
	for i := range 2000 {
		redex, agent, m := filledAgent(r, 7)
		if i%4 == 0 {
			agent = agentSamples(r.Int63(), 1, 7)[0]
			redex, m = redexIn(r, agent, 3)
		}
		rule := randomRule(r, redex)
		for range 3 {
			g := randomGuard(r, agent)
			for where := 1; where <= 3; where++ {
				g.Where = where
				counts[fmt.Sprint(where, " ", g.Not, " ", checkGuard(t, g, rule, agent, m))]++
			}
		}
	}
	for where := 1; where <= 3; where++ {
		for _, not := range []bool{false, true} {
			wantAtLeast(t, counts, 100, fmt.Sprint(where, " ", not, " true"), fmt.Sprint(where, " ", not, " false"))
		}
	}
}

func TestGuardExamples(t *testing.T) {
	agent := "1; room@-1; key@0 0; dot@0; key@-1 0; room@-1; dot@4; sites; 1; outer; inner"
	key, pair, dot := keyOfX, "1; key@-1 0; key@-1 0; sites; 0; outer x; inner", oneDot
	dots, roomOfKey := "2; dot@-1; dot@-2; sites; 0; outer; inner", "1; room@-1; key@0 0; sites 0; 0; outer x; inner"
	for _, e := range []struct {
		told, match, pattern      string
		inAgent, inRest, inParams bool
	}{
		{"a key inside and outside", "0 in -1", key, true, true, true},
		{"a key outside alone", "4 in -1", key, true, true, false},
		{"a dot inside and outside", "0 in -1", dot, true, true, true},
		{"two dots in different parts", "0 in -1", dots, true, false, false},
		{"two dots in different parts again", "4 in -1", dots, true, false, false},
		{"two keys, one of them inside", "0 in -1", "2; key@-1 0; key@-2 0; sites; 0; outer x; inner", true, false, false},
		{"two keys in the rest", "4 in -1", "2; key@-1 0; key@-2 0; sites; 0; outer x; inner", true, true, false},
		{"two keys in one place", "4 in -1", pair, false, false, false},
		{"an image", "0 in -1", roomOfKey, true, false, false},
		{"a room of the rest", "4 in -1", roomOfKey, true, true, false},
		{"an empty room", "0 in -1", emptyRoom, false, false, false},
		{"a key of an edge", "0 in -1", "2; key@-1 0; key@-2 0; sites; 1; outer; inner", true, false, false},
		{"a key of an edge in the rest", "4 in -1", "2; key@-1 0; key@-2 0; sites; 1; outer; inner", true, true, false},
	} {
		r, b, m := ruleOf(t, dropRoom), read(t, agent), matchNamed(e.match)
		for i, want := range []bool{e.inAgent, e.inRest, e.inParams} {
			g := impl.Guard{Where: i + 1, Pattern: read(t, e.pattern)}
			if holds := checkGuard(t, g, r, b, m); holds != want {
				t.Errorf("a Guard of Where %d with %s holds: %v", g.Where, e.told, holds)
			}
			g.Not = true
			if holds := checkGuard(t, g, r, b, m); holds == want {
				t.Errorf("a Guard of Where %d with Not and %s holds: %v", g.Where, e.told, holds)
			}
		}
	}
	// The Match of the Pattern need not be active.
	passive := "1; room@-1; box@-1 0; dot@1; sites; 1; outer; inner"
	if !checkGuard(t, impl.Guard{Where: impl.InRest, Pattern: read(t, dot)}, ruleOf(t, dropRoom), read(t, passive), matchNamed("0 in -1")) {
		t.Error("a Guard does not hold for a Match that is not active")
	}
	if !checkGuard(t, impl.Guard{Where: impl.InRest, Pattern: read(t, emptyRoom)}, ruleOf(t, growDot), read(t, "1; room@-1; box@-1 0; dot@1; sites; 1; outer; inner"), matchNamed("2 in 1")) {
		t.Error("a Guard does not hold at a Match that is not active")
	}
}

func TestGuardsThatAreNotValid(t *testing.T) {
	agent, r, m := read(t, "1; room@-1; dot@0; dot@-1; sites; 0; outer; inner"), ruleOf(t, dropRoom), matchNamed("0 in -1")
	good := impl.Guard{Where: impl.InRest, Pattern: read(t, oneDot)}
	check := func(g impl.Guard, is bool) {
		t.Helper()
		for _, not := range []bool{false, true} {
			g.Not = not
			guarded := impl.GuardedRule{Rule: r, Guards: []impl.Guard{good, g}}
			if got := impl.IsGuardedRule(house(), guarded); got != is {
				t.Fatalf("IsGuardedRule(%v) = %v", guarded, got)
			}
			holds, ok := impl.GuardHolds(house(), g, r, agent, m)
			steps, fine := impl.GuardedSteps(house(), []impl.GuardedRule{guarded}, agent)
			if ok != is || fine != is {
				t.Fatalf("GuardHolds(%v) = %v, %v, and GuardedSteps = %v, %v", g, holds, ok, steps, fine)
			}
			if !is {
				wantFailures(t, [][]any{{holds, ok}, {steps, fine}}, "%v", g)
			}
		}
	}
	for where := -1; where <= 6; where++ {
		check(impl.Guard{Where: where, Pattern: good.Pattern}, 1 <= where && where <= 3)
	}
	for _, n := range append(extremes(), math.MinInt/2, math.MaxInt/2) {
		check(impl.Guard{Where: n, Pattern: good.Pattern}, 1 <= n && n <= 3)
	}
	for _, text := range []string{nothing, "1; sites; 0; outer; inner", "1; sites -1; 0; outer; inner", "1; dot@-1; sites -1; 0; outer; inner", "1; dot@-1; sites; 1; outer; inner", "1; dot@-1; sites; 0; outer x; inner", "1; room@-1; sites 0 0; 0; outer; inner"} {
		check(impl.Guard{Where: impl.InAgent, Pattern: read(t, text)}, false)
	}
	for _, bad := range brokenBigraphs() {
		check(impl.Guard{Where: impl.InAgent, Pattern: bad}, false)
	}
	for _, words := range []string{"1 in -1", "0 in 0", "2 in -1", "0 in -2", "", "0", "0 in -1 -1", "0 1 in -1", "7 in -1", "-1 in -1"} {
		holds, ok := impl.GuardHolds(house(), good, r, agent, matchNamed(words))
		wantFailures(t, [][]any{{holds, ok}}, "GuardHolds at %s", words)
	}
}

func TestMaxGuardsAndPriorities(t *testing.T) {
	agent, r := read(t, "1; room@-1; dot@0; dot@-1; sites; 0; outer; inner"), ruleOf(t, dropRoom)
	check := func(g impl.GuardedRule, is bool, told string) {
		t.Helper()
		if got := impl.IsGuardedRule(house(), g); got != is {
			t.Errorf("IsGuardedRule with %s = %v", told, got)
		}
		steps, ok := impl.GuardedSteps(house(), []impl.GuardedRule{g}, agent)
		if ok != is || is && len(steps) != 1 || !is && len(steps) > 0 {
			t.Errorf("GuardedSteps with %s = %v, %v", told, steps, ok)
		}
		other, ok := impl.GuardedSteps(house(), []impl.GuardedRule{{Rule: r}, g}, agent)
		if ok != is || !is && len(other) > 0 {
			t.Errorf("GuardedSteps with %s behind another Rule = %v, %v", told, other, ok)
		}
	}
	guard := impl.Guard{Where: impl.InRest, Pattern: read(t, oneDot)}
	for n := range 7 {
		check(impl.GuardedRule{Rule: r, Guards: slices.Repeat([]impl.Guard{guard}, n)}, n <= 4, fmt.Sprint(n, " Guards"))
	}
	check(impl.GuardedRule{Rule: r, Guards: slices.Repeat([]impl.Guard{guard}, 1000000)}, false, "a million Guards")
	for priority := -2; priority <= 12; priority++ {
		check(impl.GuardedRule{Rule: r, Priority: priority}, 0 <= priority && priority <= 9, fmt.Sprint("Priority ", priority))
	}
	for _, n := range []int{math.MinInt, math.MaxInt, 1 << 40} {
		check(impl.GuardedRule{Rule: r, Priority: n}, false, fmt.Sprint("Priority ", n))
	}
	check(impl.GuardedRule{Rule: r, Guards: slices.Repeat([]impl.Guard{guard}, 4), Priority: 9}, true, "all there may be")
	check(impl.GuardedRule{Rule: impl.Rule{Redex: r.Redex, Reactum: r.Reactum, Copies: []int{0}}}, false, "a Rule that is not valid")
	check(impl.GuardedRule{}, false, "nothing")
}

func TestGuardedStepsOfExamples(t *testing.T) {
	agent := read(t, "1; room@-1; key@0 0; room@-1; dot@2; key@-1 0; dot@-1; sites; 1; outer; inner")
	drop, grow, same, open := ruleOf(t, dropRoom), ruleOf(t, growDot), ruleOf(t, sameDot), ruleOf(t, openRoom)
	guard := func(where int, not bool, pattern string) impl.Guard {
		return impl.Guard{Where: where, Not: not, Pattern: read(t, pattern)}
	}
	keyInside, noKeyInside := guard(impl.InParameter, false, keyOfX), guard(impl.InParameter, true, keyOfX)
	keyOutside, dotOutside := guard(impl.InRest, false, keyOfX), guard(impl.InRest, false, oneDot)
	noRoom := guard(impl.InAgent, true, oneRoom)
	for _, e := range []struct {
		told string
		list []impl.GuardedRule
		want string
	}{
		{"no Guards", []impl.GuardedRule{{Rule: drop}, {Rule: grow}}, "0: 0 in -1; 0: 2 in -1; 1: 3 in 2; 1: 5 in -1"},
		{"a Guard", []impl.GuardedRule{{Rule: drop, Guards: []impl.Guard{keyInside}}}, "0: 0 in -1"},
		{"a Guard with Not", []impl.GuardedRule{{Rule: drop, Guards: []impl.Guard{noKeyInside}}}, "0: 2 in -1"},
		{"both", []impl.GuardedRule{{Rule: drop, Guards: []impl.Guard{keyInside, noKeyInside}}}, ""},
		{"two Guards", []impl.GuardedRule{{Rule: drop, Guards: []impl.Guard{keyOutside, noKeyInside}}}, "0: 2 in -1"},
		{"Guards of the rest", []impl.GuardedRule{{Rule: grow, Guards: []impl.Guard{dotOutside, keyOutside}}}, "0: 3 in 2; 0: 5 in -1"},
		{"a Guard of the agent", []impl.GuardedRule{{Rule: grow, Guards: []impl.Guard{noRoom}}, {Rule: open}}, "1: 0 in -1; 1: 2 in -1"},
		{"Priorities", []impl.GuardedRule{{Rule: drop}, {Rule: grow, Priority: 1}}, "1: 3 in 2; 1: 5 in -1"},
		{"Priorities in another order", []impl.GuardedRule{{Rule: drop, Priority: 9}, {Rule: grow, Priority: 8}}, "0: 0 in -1; 0: 2 in -1"},
		{"several Rules of the greatest one", []impl.GuardedRule{{Rule: drop, Priority: 2}, {Rule: open, Priority: 1}, {Rule: grow, Priority: 2}, {Rule: same}}, "0: 0 in -1; 0: 2 in -1; 2: 3 in 2; 2: 5 in -1"},
		{"a greatest one that no step has", []impl.GuardedRule{{Rule: drop, Guards: []impl.Guard{noRoom}, Priority: 9}, {Rule: grow, Priority: 3}, {Rule: open}, {Rule: same, Priority: 3}}, "1: 3 in 2; 1: 5 in -1; 3: 3 in 2; 3: 5 in -1"},
		{"a greatest one that one step has", []impl.GuardedRule{{Rule: drop, Guards: []impl.Guard{keyInside}, Priority: 5}, {Rule: open, Priority: 4}}, "0: 0 in -1"},
		{"no step at all", []impl.GuardedRule{{Rule: ruleOf(t, copyKey), Guards: []impl.Guard{noRoom}, Priority: 5}, {Rule: grow, Guards: []impl.Guard{noRoom}}}, ""},
		{"Priority 0 behind others without steps", []impl.GuardedRule{{Rule: grow, Guards: []impl.Guard{noRoom}, Priority: 1}, {Rule: open}}, "1: 0 in -1; 1: 2 in -1"},
	} {
		steps, ok := impl.GuardedSteps(house(), e.list, agent)
		want, possible := guardedAs(e.list, agent)
		wantAllSteps(t, steps, ok, want, possible, "GuardedSteps with %s", e.told)
		if got := wordsOfSteps(steps); !ok || got != e.want {
			t.Errorf("the steps for %s are %q, %v; want %q", e.told, got, ok, e.want)
		}
	}
}

func TestGuardedStepsOfSamples(t *testing.T) {
	t.Parallel()
	r, counts := rand.New(rand.NewSource(179)), map[string]int{}
	for _, agent := range agentSamples(180, 1500, 6) {
		list := []impl.GuardedRule{}
		for _, rule := range rulesFor(r, agent, 1+r.Intn(4), 3) {
			g := impl.GuardedRule{Rule: rule, Priority: r.Intn(3)}
			for range r.Intn(3) {
				g.Guards = append(g.Guards, randomGuard(r, agent))
			}
			list = append(list, g)
		}
		want, possible := guardedAs(list, agent)
		steps, ok := impl.GuardedSteps(house(), list, agent)
		wantAllSteps(t, steps, ok, want, possible, "GuardedSteps(%v, %v)", list, agent)
		all, _ := allStepsAs(rulesIn(list), agent)
		counts[fmt.Sprint(possible, " ", min(1, len(want)), " of ", min(1, len(all)), " ", len(all) > len(want))]++
	}
	wantAtLeast(t, counts, 50, "true 0 of 0 false", "true 0 of 1 true", "true 1 of 1 true", "true 1 of 1 false")
	wantAtLeast(t, counts, 20, "false 0 of 0 false")
}

// checkRun checks RunFirst, and plays its Trace.
func checkRun(t *testing.T, rules []impl.Rule, agent impl.Bigraph, most int) (impl.Trace, impl.Bigraph, bool) {
	t.Helper()
	want, end, possible := ranAs(rules, agent, most)
	trace, last, ok := impl.RunFirst(house(), rules, agent, most)
	wantResult(t, last, ok, end, possible, "RunFirst(%v, %v, %d)", rules, agent, most)
	if !isSameTrace(trace, want) {
		t.Fatalf("RunFirst(%v, %v, %d) has the Trace %v; want %v", rules, agent, most, trace, want)
	}
	if ok {
		played, n, fine := impl.PlayTrace(house(), rules, agent, trace)
		wantResult(t, played, fine && n == len(trace.Rules), last, true, "PlayTrace(%v, %v, %v)", rules, agent, trace)
	}
	return trace, last, ok
}

func TestRunsOfExamples(t *testing.T) {
	rooms := inOneRoot(t, 1, "room@-1", "room@0", "key@1 0")
	for _, e := range []struct {
		told  string
		rules []string
		agent impl.Bigraph
		most  int
		steps int
		want  string
	}{
		{"no step", []string{growDot}, read(t, oneDot), 0, 0, oneDot},
		{"one step", []string{growDot}, read(t, oneDot), 1, 1, twoDots},
		{"seven steps up to eight nodes", []string{growDot}, read(t, oneDot), 7, 7, "1" + strings.Repeat("; dot@-1", 8) + "; sites; 0; outer; inner"},
		{"eight steps up to nine nodes", []string{growDot}, read(t, oneDot), 8, -1, ""},
		{"MaxSteps steps up to nine nodes", []string{growDot}, read(t, oneDot), 20, -1, ""},
		{"MaxSteps steps", []string{sameDot}, read(t, oneDot), 20, 20, oneDot},
		{"19 steps", []string{sameDot}, read(t, oneDot), 19, 19, oneDot},
		{"one more than MaxSteps", []string{sameDot}, read(t, oneDot), 21, -1, ""},
		{"one more than MaxSteps where none is taken", []string{sameDot}, rooms, 21, -1, ""},
		{"fewer than 0", []string{sameDot}, read(t, oneDot), -1, -1, ""},
		{"the least number", []string{sameDot}, read(t, oneDot), math.MinInt, -1, ""},
		{"the greatest number", []string{sameDot}, read(t, oneDot), math.MaxInt, -1, ""},
		{"an agent without steps", []string{sameDot}, rooms, 20, 0, textOf(house(), rooms)},
		{"as many steps as there are", []string{openRoom}, rooms, 2, 2, "1; key@-1 0; sites; 1; outer; inner"},
		{"fewer steps than there may be", []string{openRoom}, rooms, 20, 2, "1; key@-1 0; sites; 1; outer; inner"},
		{"one step of several", []string{openRoom}, rooms, 1, 1, "1; room@-1; key@0 0; sites; 1; outer; inner"},
		{"the first Rule first", []string{dropKey, openRoom}, rooms, 2, 2, "1; room@-1; sites; 1; outer; inner"},
		{"the first Rule first, in another order", []string{openRoom, dropKey}, rooms, 2, 2, "1; key@-1 0; sites; 1; outer; inner"},
	} {
		trace, last, ok := checkRunOf(t, rulesOf(t, e.rules...), e.agent, e.most)
		want, possible := bigraphOf(house(), e.want)
		if ok != possible || !isSame(last, want) || len(trace.Rules) != max(0, e.steps) {
			t.Errorf("RunFirst with %s = %v, %v, %v; want %d steps and %s", e.told, trace, last, ok, e.steps, e.want)
		}
	}
	for _, bad := range []impl.Bigraph{read(t, oneRoom), read(t, "1; sites; 1; outer; inner a=0"), brokenBigraphs()[0]} {
		trace, last, ok := impl.RunFirst(house(), rulesOf(t, growDot), bad, 0)
		wantFailures(t, [][]any{{trace, last, ok}}, "RunFirst from %v", bad)
	}
}

// checkRunOf checks RunFirst also for other numbers of steps than there may be.
func checkRunOf(t *testing.T, rules []impl.Rule, agent impl.Bigraph, most int) (impl.Trace, impl.Bigraph, bool) {
	t.Helper()
	if most >= 0 && most <= 20 {
		return checkRun(t, rules, agent, most)
	}
	trace, last, ok := impl.RunFirst(house(), rules, agent, most)
	wantFailures(t, [][]any{{trace, last, ok}}, "RunFirst with %d steps", most)
	return trace, last, ok
}

func TestRunsOfSamples(t *testing.T) {
	t.Parallel()
	r, counts := rand.New(rand.NewSource(181)), map[string]int{}
	for _, agent := range agentSamples(182, 1200, 5) {
		rules := rulesFor(r, agent, 1+r.Intn(3), 3)
		most := r.Intn(7)
		trace, _, ok := checkRun(t, rules, agent, most)
		counts[fmt.Sprint(ok, " ", len(trace.Rules) == most, " ", min(2, len(trace.Rules)))]++
	}
	wantAtLeast(t, counts, 20, "true true 0", "true true 1", "true true 2", "true false 0", "true false 1", "true false 2", "false false 0")
}

// checkPlayed checks PlayTrace and ProvesReach for a Trace whose lists have the same length.
func checkPlayed(t *testing.T, rules []impl.Rule, agent impl.Bigraph, trace impl.Trace) int {
	t.Helper()
	want, n := playedAs(rules, agent, trace)
	last, played, ok := impl.PlayTrace(house(), rules, agent, trace)
	wantResult(t, last, ok && played == n, want, true, "PlayTrace(%v, %v, %v) with %d steps of %d", rules, agent, trace, played, n)
	proves, ok := impl.ProvesReach(house(), rules, agent, trace, want)
	wantReport(t, proves, ok, n == len(trace.Rules), "ProvesReach(%v, %v, %v, %v)", rules, agent, trace, want)
	return n
}

func TestTracesThatStop(t *testing.T) {
	rules := rulesOf(t, openRoom, growDot, copyRoom)
	agent := read(t, "1; room@-1; dot@0; box@-1 0; dot@2; room@-1; sites; 1; outer; inner")
	for _, e := range []struct {
		told  string
		rules []int
		words []string
		want  int
	}{
		{"no steps", nil, nil, 0},
		{"one step", []int{0}, []string{"0 in -1"}, 1},
		{"two steps", []int{0, 1}, []string{"0 in -1", "3 in -1"}, 2},
		{"an index below 0", []int{0, -1, 1}, []string{"0 in -1", "3 in -1", "3 in -1"}, 1},
		{"the first index that is none", []int{0, 3, 1}, []string{"0 in -1", "3 in -1", "3 in -1"}, 1},
		{"the least index", []int{math.MinInt}, []string{"0 in -1"}, 0},
		{"the greatest index", []int{math.MaxInt}, []string{"0 in -1"}, 0},
		{"the last index", []int{2, 2}, []string{"0 in -1", "2 in -1"}, 2},
		{"a Match with another place", []int{0, 1}, []string{"0 in -1", "3 in 0"}, 1},
		{"a Match of another Control", []int{0, 1}, []string{"0 in -1", "0 in -1"}, 1},
		{"a Match of another Rule", []int{0, 1}, []string{"1 in 0", "3 in -1"}, 0},
		{"a Match of the agent before", []int{0, 0}, []string{"0 in -1", "4 in -1"}, 1},
		{"a Match of the agent behind", []int{0, 0, 1}, []string{"0 in -1", "2 in -1", "2 in -1"}, 3},
		{"a Match of no node", []int{1}, []string{"9 in -1"}, 0},
		{"an empty Match", []int{1}, []string{""}, 0},
		{"a Match with a root more", []int{0}, []string{"0 in -1 -1"}, 0},
		{"a Match that is not active", []int{0, 1}, []string{"0 in -1", "1 in 0"}, 1},
		{"a Match that is not active first", []int{1, 0}, []string{"3 in 2", "0 in -1"}, 0},
		{"a result with too many nodes", []int{2, 1, 1}, []string{"0 in -1", "5 in 3", "5 in 4"}, 2},
	} {
		trace := impl.Trace{Rules: e.rules}
		for _, words := range e.words {
			trace.Matches = append(trace.Matches, matchNamed(words))
		}
		if n := checkPlayed(t, rules, agent, trace); n != e.want {
			t.Errorf("PlayTrace with %s plays %d steps; want %d", e.told, n, e.want)
		}
	}
}

func TestLengthsOfTraces(t *testing.T) {
	rules, agent, m := rulesOf(t, sameDot), read(t, oneDot), matchNamed("0 in -1")
	for n := range 24 {
		for matches := range 24 {
			trace := impl.Trace{Rules: make([]int, n), Matches: slices.Repeat([]impl.Match{m}, matches)}
			if n == matches && n <= 20 {
				if checkPlayed(t, rules, agent, trace) != n {
					t.Errorf("a Trace of %d steps is not played", n)
				}
				continue
			}
			wantFailures(t, playCalls(rules, agent, trace, agent), "a Trace of %d Rules and %d Matches", n, matches)
		}
	}
	million := slices.Repeat([]impl.Match{m}, 1000000)
	for _, trace := range []impl.Trace{{Rules: make([]int, 1000000), Matches: million}, {Rules: []int{0}, Matches: million}, {Rules: make([]int, 1000000), Matches: million[:20]}} {
		wantFailures(t, playCalls(rules, agent, trace, agent), "a vast Trace")
	}
	// A Match that is vast is not valid.
	vast := impl.Match{Nodes: make([]int, 1000000), Roots: []int{-1}}
	if n := checkPlayed(t, rules, agent, impl.Trace{Rules: []int{0, 0}, Matches: []impl.Match{m, vast}}); n != 1 {
		t.Error("a vast Match is played:", n)
	}
}

func playCalls(rules []impl.Rule, agent impl.Bigraph, trace impl.Trace, goal impl.Bigraph) [][]any {
	last, n, ok := impl.PlayTrace(house(), rules, agent, trace)
	proves, fine := impl.ProvesReach(house(), rules, agent, trace, goal)
	return [][]any{{last, n, ok}, {proves, fine}}
}

func TestTracesOfSamples(t *testing.T) {
	t.Parallel()
	r, counts := rand.New(rand.NewSource(183)), map[string]int{}
	for _, agent := range agentSamples(184, 800, 6) {
		rules, trace, now := rulesFor(r, agent, 1+r.Intn(4), 3), impl.Trace{}, agent
		for range r.Intn(6) {
			steps, ok := allStepsAs(rules, now)
			if !ok || len(steps) == 0 {
				break
			}
			step := pick(r, steps)
			trace.Rules, trace.Matches = append(trace.Rules, step.Rule), append(trace.Matches, step.Match)
			now = step.Result
		}
		length := len(trace.Rules)
		counts[fmt.Sprint("whole ", checkPlayed(t, rules, agent, trace) == length)]++
		if length == 0 {
			continue
		}
		at, other := r.Intn(length), impl.Trace{Rules: slices.Clone(trace.Rules), Matches: slices.Clone(trace.Matches)}
		switch r.Intn(3) {
		case 0:
			other.Rules[at] = r.Intn(len(rules)+2) - 1
		case 1:
			other.Matches[at] = cloneOfMatch(other.Matches[at])
			other.Matches[at].Nodes[0] = r.Intn(8)
		case 2:
			other.Matches[at] = cloneOfMatch(other.Matches[at])
			other.Matches[at].Roots[0] = r.Intn(8) - 2
		}
		counts[fmt.Sprint("changed ", checkPlayed(t, rules, agent, other) == length)]++
	}
	wantAtLeast(t, counts, 50, "whole true", "changed true", "changed false")
}

func TestGoals(t *testing.T) {
	rules := rulesOf(t, growDot, copyRoom, closeKeys)
	agent := read(t, "1; room@-1; key@-1 0; key@-1 1; sites; 2; outer; inner")
	trace := impl.Trace{Rules: []int{2, 1}, Matches: []impl.Match{matchNamed("1 2 in -1"), matchNamed("0 in -1")}}
	for _, e := range []struct {
		told, goal string
		proves, ok bool
	}{
		{"the last agent", "1; key@-1 0; room@-1; room@-1; sites; 3; outer; inner", true, true},
		{"an isomorphic agent", "1; room@-1; room@-1; key@-1 2; sites; 3; outer; inner", true, true},
		{"an agent with an idle edge less", "1; room@-1; room@-1; key@-1 1; sites; 2; outer; inner", false, true},
		{"an agent with a node less", "1; room@-1; key@-1 1; sites; 3; outer; inner", false, true},
		{"an agent with a node elsewhere", "1; room@-1; room@-1; key@1 1; sites; 3; outer; inner", false, true},
		{"an agent with an idle name", "1; room@-1; room@-1; key@-1 1; sites; 3; outer x; inner", false, true},
		{"the first agent", textOf(house(), agent), false, true},
		{"the agent behind the first step", "1; room@-1; key@-1 0; sites; 3; outer; inner", false, true},
		{"nothing", nothing, false, true},
		{"a Bigraph with a site", "1; key@-1 0; room@-1; room@-1; sites -1; 3; outer; inner", false, false},
		{"a Bigraph with an inner name", "1; key@-1 0; room@-1; room@-1; sites; 3; outer; inner a=1", false, false},
	} {
		proves, ok := impl.ProvesReach(house(), rules, agent, trace, read(t, e.goal))
		if proves != e.proves || ok != e.ok {
			t.Errorf("ProvesReach for %s = %v, %v", e.told, proves, ok)
		}
	}
	// A Trace that stops on its way proves nothing, although it stops at the goal.
	stops := impl.Trace{Rules: []int{2, 7}, Matches: trace.Matches}
	proves, ok := impl.ProvesReach(house(), rules, agent, stops, read(t, "1; room@-1; key@-1 0; sites; 3; outer; inner"))
	wantReport(t, proves, ok, false, "ProvesReach with a Trace that stops at the goal")
	stops = impl.Trace{Rules: []int{7}, Matches: trace.Matches[:1]}
	proves, ok = impl.ProvesReach(house(), rules, agent, stops, agent)
	wantReport(t, proves, ok, false, "ProvesReach with a Trace that stops at once")
	proves, ok = impl.ProvesReach(house(), rules, agent, impl.Trace{}, shuffled(rand.New(rand.NewSource(185)), agent))
	wantReport(t, proves, ok, true, "ProvesReach with an empty Trace")
	for _, bad := range brokenBigraphs() {
		for _, some := range []impl.Trace{{}, trace, stops} {
			wantFailures(t, playCalls(rules, agent, some, bad)[1:], "the goal %v", bad)
		}
	}
}

// checkKept checks KeepsSorting, and returns the conditions that do not hold.
func checkKept(t *testing.T, s impl.Sorting, r impl.Rule) []int {
	t.Helper()
	broken := brokenBy(s, r)
	keeps, ok := impl.KeepsSorting(house(), s, r)
	wantReport(t, keeps, ok, len(broken) == 0, "KeepsSorting(%v, %v), where %v are broken,", s, r, broken)
	return broken
}

func TestRulesThatKeepSortingsInPlainSight(t *testing.T) {
	const (
		dots  = "tops room key door pen dot box; room: room key dot; key:0; door:01 dot; pen:000; dot:; box:2 room key dot; most 1 2 24; apart 0-2"
		mixed = "tops; room: dot; key:0 key dot; door:00 dot; pen:000; dot:; box:1 dot; most 3 24; apart"
	)
	for _, e := range []struct {
		told, sorting, rule string
		broken              []int
	}{
		{"the same Bigraphs", dots, "1; room@-1; key@0 0; sites 0; 0; outer x; inner -> 1; room@-1; key@0 0; sites 0; 0; outer x; inner | 0", nil},
		{"nodes that move", dots, "1; room@-1; dot@0; dot@-1; sites 0; 0; outer; inner -> 1; room@-1; dot@-1; dot@0; dot@0; sites 0; 0; outer; inner | 0", nil},
		{"a site that is dropped", dots, "1; room@-1; dot@-1; sites 0; 0; outer; inner -> 1; dot@-1; dot@-1; sites; 0; outer; inner |", nil},
		{"sites that are exchanged", dots, "1; room@-1; box@-1 0; sites 0 1; 0; outer x; inner -> 1; room@-1; box@-1 0; sites 0 1; 0; outer x; inner | 1 0", nil},
		{"a site that is copied where nothing may be", dots, "1; key@-1 0; sites 0; 0; outer x; inner -> 1; key@-1 0; sites 0 0; 0; outer x; inner | 0 0", []int{copiedTwice}},
		{"a site that is copied", dots, "1; room@-1; sites 0; 0; outer; inner -> 1; room@-1; room@-1; sites 0 1; 0; outer; inner | 0 0", []int{copiedTwice}},
		{"two sites, the other one of which is copied", dots, "1; room@-1; room@-1; sites 0 1; 0; outer; inner -> 1; room@-1; sites 0 0 0; 0; outer; inner | 1 0 1", []int{copiedTwice}},
		{"another Control in a root", dots, "1; room@-1; sites; 0; outer; inner -> 1; dot@-1; sites; 0; outer; inner |", []int{otherTops}},
		{"a Control of a node that is in another one", dots, "1; room@-1; dot@0; sites; 0; outer; inner -> 1; dot@-1; sites; 0; outer; inner |", []int{otherTops}},
		{"a Control of another root", dots, "2; room@-1; dot@-2; sites; 0; outer; inner -> 2; dot@-1; dot@-2; sites; 0; outer; inner |", []int{otherTops}},
		{"Controls of exchanged roots", dots, "2; room@-1; dot@-2; sites; 0; outer; inner -> 2; dot@-1; room@-2; sites; 0; outer; inner |", []int{otherTops}},
		{"more nodes in a root", dots, "2; room@-1; dot@-2; sites; 0; outer; inner -> 2; room@-1; room@-1; dot@-2; dot@-2; sites; 0; outer; inner |", nil},
		{"Tops that allow nothing", mixed, "1; dot@-1; sites; 0; outer; inner -> 1; dot@-1; dot@-1; sites; 0; outer; inner |", nil},
		{"a node that may not be in another one", dots, "1; room@-1; door@-1 0 1; sites; 0; outer x y; inner -> 1; room@-1; door@0 0 1; sites; 0; outer x y; inner |", []int{notInNode}},
		{"a node that may not be in one in a node", dots, "1; room@-1; sites; 0; outer; inner -> 1; room@-1; room@0; key@1 0; dot@2; sites; 1; outer; inner |", []int{notInNode}},
		{"a node that may be in another one", dots, "1; room@-1; sites; 0; outer; inner -> 1; room@-1; room@0; key@1 0; sites; 1; outer; inner |", nil},
		{"a node of the Redex that may not be in another one", dots, "1; key@-1 0; dot@0; sites; 0; outer x; inner -> 1; key@-1 0; sites; 0; outer x; inner |", nil},
		{"a site that comes into a root", dots, "1; room@-1; sites 0; 0; outer; inner -> 1; sites -1; 0; outer; inner | 0", []int{notAtSite}},
		{"a site in which nothing may be that comes into a root", dots, "1; key@-1 0; sites 0; 0; outer x; inner -> 1; sites -1; 0; outer x; inner | 0", nil},
		{"a site in which nothing may be that comes into a node", dots, "1; key@-1 0; room@-1; sites 0; 0; outer x; inner -> 1; room@-1; sites 0; 0; outer x; inner | 0", nil},
		{"a site that comes where less may be", dots, "1; room@-1; door@-1 0 1; sites 0; 0; outer x y; inner -> 1; door@-1 0 1; sites 0; 0; outer x y; inner | 0", []int{notAtSite}},
		{"a site that comes where more may be", dots, "1; room@-1; door@-1 0 1; sites 1; 0; outer x y; inner -> 1; room@-1; sites 0; 0; outer x y; inner | 0", nil},
		{"a site that comes where nothing may be", dots, "1; room@-1; key@-1 0; sites 0; 0; outer x; inner -> 1; key@-1 0; sites 0; 0; outer x; inner | 0", []int{notAtSite}},
		{"one of two sites that comes where less may be", dots, "1; room@-1; door@-1 0 1; sites 1 0; 0; outer x y; inner -> 1; room@-1; door@-1 0 1; sites 0 1; 0; outer x y; inner | 0 1", []int{notAtSite}},
		{"a site that comes where other Controls may be", "tops; room: dot; key:0 key; door:00; pen:000; dot:; box:0; most 24; apart", "1; room@-1; key@-1 0; sites 0; 0; outer x; inner -> 1; key@-1 0; sites 0; 0; outer x; inner | 0", []int{notAtSite}},
		{"an edge with too many ports of a sort", dots, "1; key@-1 0; key@-1 0; sites; 0; outer x; inner -> 1; key@-1 0; key@-1 0; sites; 1; outer x; inner |", []int{faultyEdge}},
		{"an edge with as many ports of a sort as may be", dots, "1; key@-1 0; key@-1 0; sites; 0; outer x; inner -> 1; key@-1 0; key@-1 1; sites; 2; outer x; inner |", nil},
		{"an edge with ports of sorts that are Apart", dots, "1; key@-1 0; box@-1 1; sites; 0; outer x y; inner -> 1; key@-1 0; box@-1 0; sites; 1; outer x y; inner |", []int{faultyEdge}},
		{"an edge with ports of sorts that are not", dots, "1; door@-1 0 1; sites; 0; outer x y; inner -> 1; door@-1 0 0; sites; 1; outer x y; inner |", nil},
		{"a second edge with a fault", dots, "1; key@-1 0; key@-1 0; sites; 0; outer x; inner -> 1; key@-1 0; key@-1 1; key@-1 1; sites; 2; outer x; inner |", []int{faultyEdge}},
		{"an edge of the Redex with a fault", dots, "1; key@-1 0; key@-1 0; sites; 1; outer; inner -> 1; key@-1 0; sites; 1; outer; inner |", nil},
		{"an edge with a fault and a child of a root that is none of the Tops", mixed, "1; key@-1 0; sites; 0; outer x; inner -> 1; key@-1 0; key@-1 0; key@-1 0; key@-1 0; sites; 1; outer x; inner |", []int{faultyEdge}},
		{"idle edges", dots, "1; key@-1 0; sites; 0; outer x; inner -> 1; key@-1 3; sites; 3; outer x; inner |", nil},
		{"more ports on a name", dots, "1; key@-1 0; sites; 0; outer x; inner -> 1; key@-1 0; key@-1 0; sites; 0; outer x; inner |", []int{morePorts}},
		{"ports of another sort on a name", dots, "1; door@-1 0 1; sites; 0; outer x y; inner -> 1; door@-1 1 0; sites; 0; outer x y; inner |", []int{morePorts}},
		{"ports of the same sort on a name", mixed, "1; door@-1 0 1; key@-1 0; sites; 0; outer x y; inner -> 1; door@-1 1 0; sites; 0; outer x y; inner |", nil},
		{"more ports on a second name", dots, "1; key@-1 0; key@-1 1; sites; 0; outer x y; inner -> 1; key@-1 1; key@-1 1; sites; 0; outer x y; inner |", []int{morePorts}},
		{"fewer ports on a name", dots, "1; key@-1 0; key@-1 0; sites; 0; outer x; inner -> 1; key@-1 0; sites; 0; outer x; inner |", nil},
		{"too many ports on a name in both", dots, "1; key@-1 0; key@-1 0; box@-1 0; sites; 0; outer x; inner -> 1; box@-1 0; key@-1 0; key@-1 0; sites; 0; outer x; inner |", nil},
		{"more edges in the Redex", dots, "1; key@-1 0; box@-1 1; door@-1 2 2; sites; 2; outer x; inner -> 1; key@-1 0; door@-1 1 1; sites; 1; outer x; inner |", nil},
		{"everything", dots, "1; room@-1; sites 0; 0; outer; inner -> 1; dot@-1; room@-1; door@1 0 0; key@1 0; key@1 0; sites -1 1; 1; outer; inner | 0 0", []int{copiedTwice, otherTops, notInNode, notAtSite, faultyEdge}},
	} {
		if broken := checkKept(t, sorting(t, e.sorting), ruleOf(t, e.rule)); !slices.Equal(broken, e.broken) {
			t.Errorf("a Rule with %s breaks the conditions %v; want %v", e.told, broken, e.broken)
		}
	}
}

func TestKeptSortingsOfSamples(t *testing.T) {
	t.Parallel()
	r, counts := rand.New(rand.NewSource(186)), map[string]int{}
	for range 6000 {
		rule := randomRule(r, randomRedex(r, 4))
		s := randomSorting(r)
		list := []impl.Sorting{s, looseSorting(s.Sorts, len(s.Most))}
		list = append(list, nearSorting(r, list[1], 3), nearSorting(r, leastAs(s.Sorts, len(s.Most), rule.Redex, rule.Reactum), 1))
		for _, some := range list {
			broken := checkKept(t, some, rule)
			counts[fmt.Sprint("broken ", min(2, len(broken)))]++
			if len(broken) == 1 {
				counts[fmt.Sprint("only ", broken[0])]++
			}
		}
	}
	wantAtLeast(t, counts, 50, "broken 0", "broken 1", "broken 2", "only 0", "only 1", "only 2", "only 3", "only 4", "only 5")
}

func TestKeepsSortingFailsForOthers(t *testing.T) {
	free := sorting(t, freeHouse)
	for _, bad := range brokenSortings(t) {
		keeps, ok := impl.KeepsSorting(house(), bad, ruleOf(t, growDot))
		wantFailures(t, [][]any{{keeps, ok}}, "KeepsSorting(%v)", bad)
	}
	for _, r := range []impl.Rule{{}, {Redex: read(t, oneDot), Reactum: read(t, oneDot), Copies: []int{0}}, {Redex: read(t, oneRoom), Reactum: read(t, oneRoom)}} {
		keeps, ok := impl.KeepsSorting(house(), free, r)
		wantFailures(t, [][]any{{keeps, ok}}, "KeepsSorting(%v)", r)
	}
	checkKept(t, free, ruleOf(t, growDot))
}

func TestRulesFailForInvalidArguments(t *testing.T) {
	dot, m := read(t, oneDot), matchNamed("0 in -1")
	r, g := ruleOf(t, sameDot), impl.Guard{Where: impl.InAgent, Pattern: dot}
	rules := []impl.Rule{r}
	bad := append(brokenBigraphs(), twoRooms(), read(t, oneRoom), read(t, "1; dot@-1; sites; 1; outer; inner x=0"), fullBigraph())
	for _, agent := range bad {
		for _, goal := range []impl.Bigraph{dot, agent} {
			wantFailures(t, stepCalls(house(), rules, agent, m, g, goal), "the agent %v", agent)
		}
		got, ok := impl.InstanceOf(house(), r, agent)
		wantResult(t, got, ok, impl.Bigraph{}, false, "InstanceOf(%v)", agent)
	}
	for i, results := range stepCalls(house(), rules, dot, m, g, dot) {
		if results[len(results)-1] != true {
			t.Errorf("call %d fails for valid arguments: %v", i, results)
		}
	}
}

func TestRulesNeedSignatures(t *testing.T) {
	dot, m := read(t, oneDot), matchNamed("0 in -1")
	r, g := ruleOf(t, sameDot), impl.Guard{Where: impl.InAgent, Pattern: dot}
	for _, sig := range append(badSignatures(), house()[:4], []impl.Control{{Name: "dot"}}) {
		wantFailures(t, ruleCalls(sig, r, impl.Bigraph{}, freeAs(house())), "over %.100v", sig)
		wantFailures(t, stepCalls(sig, []impl.Rule{r}, dot, m, g, dot), "over %.100v", sig)
		wantFailures(t, stepCalls(sig, []impl.Rule{r}, impl.Bigraph{}, m, g, dot), "over %.100v", sig)
	}
	// A valid Rule over a signature is none over one with fewer ports.
	key := ruleOf(t, dropKey)
	for _, sig := range [][]impl.Control{ionControls(), {{Name: "room"}, {Name: "key", Ports: 2}}} {
		wantFailures(t, ruleCalls(sig, key, impl.Bigraph{Roots: 1}, freeAs(sig)), "over %v", sig)
	}
}

// memoryOf lists where the lists in a value begin and end in memory.
func memoryOf(v reflect.Value) [][2]uintptr {
	list := [][2]uintptr{}
	switch v.Kind() {
	case reflect.Interface:
		return memoryOf(v.Elem())
	case reflect.Slice:
		if v.Cap() > 0 {
			list = append(list, [2]uintptr{v.Pointer(), v.Pointer() + uintptr(v.Cap())*v.Type().Elem().Size()})
		}
		for i := range v.Len() {
			list = append(list, memoryOf(v.Index(i))...)
		}
	case reflect.Struct:
		for i := range v.NumField() {
			list = append(list, memoryOf(v.Field(i))...)
		}
	}
	return list
}

// wantOwnMemory checks that no two lists in some values have common memory.
func wantOwnMemory(t *testing.T, values ...any) {
	t.Helper()
	list := memoryOf(reflect.ValueOf(values))
	slices.SortFunc(list, func(x, y [2]uintptr) int { return slices.Compare(x[:], y[:]) })
	for i, next := range list[min(1, len(list)):] {
		if list[i][1] > next[0] {
			t.Fatalf("two lists of %.900v share memory", values)
		}
	}
}

func TestResultsOfRulesAreNew(t *testing.T) {
	t.Parallel()
	r := rand.New(rand.NewSource(187))
	for i, kept := range append(agentSamples(188, 250, 6), linkedTo(2, 14, 8, 16), read(t, oneDot)) {
		cut, found := redexIn(r, kept, 4)
		made := []impl.Rule{randomRule(r, cut), randomRule(r, cut), {Redex: cut, Reactum: cloneOf(cut), Copies: numbersFrom(0, len(cut.Sites))}}
		goal, guard := shuffled(r, kept), randomGuard(r, kept)
		argument := randomInside(r, impl.Bigraph{Roots: len(cut.Sites), Outer: someOf(r, redexWords, 4)}, 3, 0, nil)
		s := randomSorting(r)
		sig, agent, m, other, g, parameter := house(), cloneOf(kept), cloneOfMatch(found), cloneOf(goal), guard, cloneOf(argument)
		g.Pattern = cloneOf(guard.Pattern)
		rules := []impl.Rule{cloneOfRule(made[2]), cloneOfRule(made[i%2])}
		calls := func() [][]any {
			all := stepCalls(sig, rules, agent, m, g, other)
			for _, rule := range rules {
				all = append(all, ruleCalls(sig, rule, parameter, s)...)
				text, _ := impl.RuleText(sig, rule)
				parsed, ok := impl.ParseRule(sig, text)
				all = append(all, []any{parsed, ok})
			}
			return all
		}
		wantOwnMemory(t, calls(), calls(), sig, rules, agent, m, g, other, parameter, s)
		wantNewResults(t, calls(), calls)
		same := isSameRule(rules[0], made[2]) && isSameRule(rules[1], made[i%2]) && isSame(agent, kept) && isSameMatch(m, found)
		if !same || !isSame(other, goal) || !isSame(g.Pattern, guard.Pattern) || !isSame(parameter, argument) || !slices.Equal(sig, house()) {
			t.Fatalf("a call has changed %v, %v or %v, or the results share their memory", rules, agent, m)
		}
	}
}

func TestVastRules(t *testing.T) {
	many, dot, m := 1000000, read(t, oneDot), matchNamed("0 in -1")
	g := impl.Guard{Where: impl.InAgent, Pattern: dot}
	vast := impl.Bigraph{Roots: 1, Nodes: make([]impl.Node, many), Sites: make([]int, many), Outer: slices.Repeat([]string{"x", "y"}, many)}
	room := read(t, oneRoom)
	for _, r := range []impl.Rule{{Redex: dot, Reactum: dot, Copies: make([]int, many)}, {Redex: room, Reactum: room, Copies: make([]int, many)}, {Redex: vast, Reactum: dot}, {Redex: dot, Reactum: vast}, {Redex: vast, Reactum: vast, Copies: make([]int, many)}} {
		wantFailures(t, ruleCalls(house(), r, impl.Bigraph{}, freeAs(house())), "a vast Rule")
		wantFailures(t, stepCalls(house(), []impl.Rule{r}, dot, m, g, dot), "a vast Rule")
	}
	same := ruleOf(t, sameDot)
	wantFailures(t, stepCalls(house(), []impl.Rule{same}, vast, m, g, dot), "a vast agent")
	holds, ok := impl.GuardHolds(house(), impl.Guard{Where: impl.InAgent, Pattern: vast}, same, dot, m)
	applied, fine := impl.ApplyRule(house(), same, dot, impl.Match{Nodes: make([]int, many), Roots: make([]int, many)})
	instance, again := impl.InstanceOf(house(), same, vast)
	wantFailures(t, [][]any{{holds, ok}, {applied, fine}, {instance, again}}, "vast arguments")
}

func TestHardGuards(t *testing.T) {
	// A Pattern whose last node only tells that there is no Match, in an agent with many Matches.
	keys, pattern := []string{}, []string{}
	for k := range 8 {
		keys, pattern = append(keys, fmt.Sprintf("key@-1 %d", k)), append(pattern, fmt.Sprintf("key@-1 %d", k%7))
	}
	agent := inOneRoot(t, 8, keys...)
	none := repeated(t, "sites; 0; outer a b c d e f g; inner", pattern...)
	rest := repeated(t, "sites; 0; outer a b c d; inner", append(pattern[:4:4], "key@-1 0")...)
	three := repeated(t, "sites; 0; outer a b c; inner", pattern[:3]...)
	r := impl.Rule{Redex: three, Reactum: three}
	g := impl.GuardedRule{Rule: r}
	for _, where := range []int{impl.InAgent, impl.InRest, impl.InAgent, impl.InRest} {
		g.Guards = append(g.Guards, impl.Guard{Where: where, Not: true, Pattern: none})
	}
	g.Guards[3].Pattern = rest
	steps, ok := impl.GuardedSteps(house(), slices.Repeat([]impl.GuardedRule{g}, 6), agent)
	if !ok || len(steps) != 6*336 {
		t.Errorf("GuardedSteps = %d steps, %v", len(steps), ok)
	}
}

func TestConstantsOfRules(t *testing.T) {
	got := []int{impl.MaxRules, impl.MaxGuards, impl.MaxPriority, impl.MaxSteps, impl.InAgent, impl.InRest, impl.InParameter}
	if want := []int{6, 4, 9, 20, 1, 2, 3}; !slices.Equal(got, want) {
		t.Error("the constants are", got)
	}
}
