package tests

import (
	"fmt"
	"math"
	"math/rand"
	"reflect"
	"slices"
	"strings"
	"testing"

	"loop.example/g01082/impl"
)

// wantMatches checks the Matches that a call returns, or that it fails.
func wantMatches(t *testing.T, got []impl.Match, ok bool, want []impl.Match, possible bool, call string, args ...any) {
	t.Helper()
	if !possible {
		want = nil
	}
	if ok != possible || !slices.EqualFunc(got, want, isSameMatch) {
		t.Fatalf("%.600s = %v, %v; want %v, %v", fmt.Sprintf(call, args...), got, ok, want, possible)
	}
}

// checkMatch checks all that is said of one Match, which need not be valid.
func checkMatch(t *testing.T, redex impl.Bigraph, agent impl.Bigraph, m impl.Match) bool {
	t.Helper()
	told := fmt.Sprintf("(%v, %v, %v)", redex, agent, m)
	valid := isMatchAs(redex, agent, m)
	is, ok := impl.IsMatch(house(), redex, agent, m)
	wantReport(t, is, ok, valid, "IsMatch%s", told)
	if !valid {
		wantFailures(t, callsOfMatch(house(), redex, agent, m)[1:], "%s", told)
		return false
	}
	active, ok := impl.IsActiveMatch(house(), redex, agent, m)
	wantReport(t, active, ok, isActiveAs(house(), agent, m), "IsActiveMatch%s", told)
	links, ok := impl.MatchLinks(house(), redex, agent, m)
	wantInts(t, links, ok, matchLinksAs(redex, agent, m), true, "MatchLinks%s", told)
	wantPassed, wantNames, possible := passedAs(redex, agent, m)
	passed, names, ok := impl.PassedLinks(house(), redex, agent, m)
	wantInts(t, passed, ok, wantPassed, possible, "PassedLinks%s", told)
	if !slices.Equal(names, wantNames) {
		t.Fatalf("the names of PassedLinks%s are %v; want %v", told, names, wantNames)
	}
	context, contextOK := impl.MatchContext(house(), redex, agent, m)
	parameter, parameterOK := impl.MatchParameter(house(), redex, agent, m)
	want, fine := contextAs(redex, agent, m)
	wantResult(t, context, contextOK, want, possible, "MatchContext%s", told)
	want, again := parameterAs(redex, agent, m)
	wantResult(t, parameter, parameterOK, want, possible, "MatchParameter%s", told)
	if fine != possible || again != possible {
		t.Fatalf("the context %v and the parameter %v of %s are not valid", fine, again, told)
	}
	return true
}

// checkMatches checks all that is said of all Matches of a redex in an agent.
func checkMatches(t *testing.T, redex impl.Bigraph, agent impl.Bigraph) []impl.Match {
	t.Helper()
	all, active := matchesAs(redex, agent), 0
	got, ok := impl.AllMatches(house(), redex, agent)
	wantMatches(t, got, ok, all, len(all) <= 400, "AllMatches(%v, %v)", redex, agent)
	first, ok := impl.FirstMatch(house(), redex, agent)
	if want := append(slices.Clone(all), impl.Match{})[0]; !isSameMatch(first, want) || ok != (len(all) > 0) {
		t.Fatalf("FirstMatch(%v, %v) = %v, %v; want %v", redex, agent, first, ok, want)
	}
	for _, m := range all[:min(len(all), 30)] {
		checkMatch(t, redex, agent, m)
	}
	for _, m := range all {
		if isActiveAs(house(), agent, m) {
			active++
		}
	}
	sets, ok := impl.ImageSets(house(), redex, agent)
	n, count, fine := impl.CountActive(house(), redex, agent)
	if len(all) > 400 {
		wantFailures(t, [][]any{{sets, ok, n, count, fine}}, "ImageSets and CountActive(%v, %v)", redex, agent)
		return all
	}
	if want := setsAs(all); !ok || fmt.Sprint(sets) != fmt.Sprint(want) {
		t.Fatalf("ImageSets(%v, %v) = %v, %v; want %v", redex, agent, sets, ok, want)
	}
	if !fine || n != active || count != len(all) {
		t.Fatalf("CountActive(%v, %v) = %d, %d, %v; want %d, %d", redex, agent, n, count, fine, active, len(all))
	}
	return all
}

// callsOfMatch calls each function of the chapter that takes a Match, and tells all results.
func callsOfMatch(sig []impl.Control, redex impl.Bigraph, agent impl.Bigraph, m impl.Match) [][]any {
	all := [][]any{}
	tell := func(results ...any) { all = append(all, results) }
	is, ok := impl.IsMatch(sig, redex, agent, m)
	tell(is, ok)
	active, ok := impl.IsActiveMatch(sig, redex, agent, m)
	tell(active, ok)
	links, ok := impl.MatchLinks(sig, redex, agent, m)
	tell(links, ok)
	passed, names, ok := impl.PassedLinks(sig, redex, agent, m)
	tell(passed, names, ok)
	context, ok := impl.MatchContext(sig, redex, agent, m)
	tell(context, ok)
	parameter, ok := impl.MatchParameter(sig, redex, agent, m)
	tell(parameter, ok)
	return all
}

// matchingCalls calls each function of the chapter that takes a redex and an agent alone.
func matchingCalls(sig []impl.Control, redex impl.Bigraph, agent impl.Bigraph) [][]any {
	all := [][]any{}
	tell := func(results ...any) { all = append(all, results) }
	matches, ok := impl.AllMatches(sig, redex, agent)
	tell(matches, ok)
	first, ok := impl.FirstMatch(sig, redex, agent)
	tell(first, ok)
	sets, ok := impl.ImageSets(sig, redex, agent)
	tell(sets, ok)
	active, count, ok := impl.CountActive(sig, redex, agent)
	tell(active, count, ok)
	return all
}

func TestNamedEdgeCasesOfRedexes(t *testing.T) {
	for _, e := range []struct {
		told, text string
		is         bool
	}{
		{"two roots, two sites, an edge and a name", "2; room@-1; key@0 0; door@-2 0 1; room@2; sites 3 0; 1; outer x; inner", true},
		{"an inner name of an edge", "2; room@-1; key@0 0; door@-2 0 1; room@2; sites 3 0; 1; outer x; inner a=0", false},
		{"an inner name of an outer name", "2; room@-1; key@0 0; door@-2 0 1; room@2; sites 3 0; 1; outer x; inner x=1", false},
		{"a root without a node", "3; room@-1; key@0 0; door@-2 0 1; room@2; sites 3 0; 1; outer x; inner", false},
		{"a first root without a node", "2; room@-2; sites; 0; outer; inner", false},
		{"a root with a site and a node", "2; room@-1; key@0 0; door@-2 0 1; room@2; sites 3 -1; 1; outer x; inner", false},
		{"a root with a site alone", "3; room@-1; key@0 0; door@-2 0 1; room@2; sites 3 0 -3; 1; outer x; inner", false},
		{"a node with two sites", "2; room@-1; key@0 0; door@-2 0 1; room@2; sites 3 3; 1; outer x; inner", false},
		{"a node with two sites, and another one with one", "2; room@-1; key@0 0; door@-2 0 1; room@2; sites 0 3 0; 1; outer x; inner", false},
		{"an idle edge", "2; room@-1; key@0 0; door@-2 0 2; room@2; sites 3 0; 2; outer x; inner", false},
		{"an idle outer name", "2; room@-1; key@0 0; door@-2 0 1; room@2; sites 3 0; 1; outer x y; inner", false},
		{"a name that is only an inner and an outer one", "2; room@-1; key@0 0; door@-2 0 1; room@2; sites 3 0; 1; outer x y; inner a=2", false},
		{"no roots", nothing, false},
		{"no roots, but a name", "0; sites; 0; outer x; inner", false},
		{"a root and nothing else", "1; sites; 0; outer; inner", false},
		{"a root and a site in it", "1; sites -1; 0; outer; inner", false},
		{"one room", emptyRoom, true},
		{"one room with a site", oneRoom, true},
		{"one room with two sites", "1; room@-1; sites 0 0; 0; outer; inner", false},
		{"a site beside a node in a node", "1; room@-1; room@0; sites 0; 0; outer; inner", true},
		{"a key on a name", keyOfX, true},
		{"a key on an edge", "1; key@-1 0; sites; 1; outer; inner", true},
		{"four roots with nodes", "4; dot@-4; dot@-2; dot@-1; dot@-3; sites; 0; outer; inner", true},
		{"four roots with nodes that are in three", "4; dot@-4; dot@-2; dot@-1; dot@-1; sites; 0; outer; inner", false},
		{"four sites in four nodes", "1; room@-1; room@0; room@1; room@2; sites 2 0 3 1; 0; outer; inner", true},
		{"four sites, two of them in one node", "1; room@-1; room@0; room@1; room@2; sites 2 0 3 0; 0; outer; inner", false},
	} {
		redex := read(t, e.text)
		is, ok := impl.IsRedex(house(), redex)
		wantReport(t, is, ok, e.is, "IsRedex of a Bigraph with %s", e.told)
		agent := withoutInner(redex)
		agent.Sites = nil
		if got := isRedexAs(redex); got != e.is {
			t.Errorf("a Bigraph with %s is a redex: %v", e.told, got)
		} else if !is {
			wantFailures(t, matchingCalls(house(), redex, agent), "%s", e.told)
			for _, m := range []impl.Match{{}, {Nodes: numbersFrom(0, len(agent.Nodes)), Roots: negatives(numbersFrom(0, redex.Roots))}} {
				wantFailures(t, callsOfMatch(house(), redex, agent, m), "%s", e.told)
			}
			for _, context := range []impl.Bigraph{{}, identityAs(redex.Roots, redex.Outer)} {
				whole, ok := impl.RecomposeMatch(house(), redex, context, impl.Bigraph{Roots: len(redex.Sites)})
				wantResult(t, whole, ok, impl.Bigraph{}, false, "RecomposeMatch with %s", e.told)
			}
		}
	}
}

func TestRedexesOfSamples(t *testing.T) {
	t.Parallel()
	r, counts := rand.New(rand.NewSource(130)), map[string]int{}
	list := slices.Concat(tinyBigraphs(), sampleBigraphs(), formSamples())
	for range 200 {
		redex := randomRedex(r, 5)
		list = append(append(list, redex), allSlightChanges(redex)...)
	}
	for _, b := range list {
		is, ok := impl.IsRedex(house(), b)
		wantReport(t, is, ok, isRedexAs(b), "IsRedex(%v)", b)
		counts[fmt.Sprint(is)]++
		if !is {
			wantFailures(t, matchingCalls(house(), b, impl.Bigraph{Roots: 1}), "%v", b)
		}
	}
	wantAtLeast(t, counts, 1000, "true", "false")
}

// tellMatches counts what the Matches of a redex in an agent show.
func tellMatches(redex impl.Bigraph, agent impl.Bigraph, all []impl.Match, counts map[string]int) {
	counts[fmt.Sprint(min(len(all), 2), " matches")]++
	for _, m := range all[:min(len(all), 30)] {
		links, seen := matchLinksAs(redex, agent, m), map[string]bool{}
		seen[fmt.Sprint("active ", isActiveAs(house(), agent, m))] = true
		places := len(slices.Compact(slices.Sorted(slices.Values(m.Roots))))
		seen["roots with one place"] = places < len(m.Roots)
		seen["roots with different places"] = places > 1
		seen["links with one image"] = len(slices.Compact(slices.Sorted(slices.Values(links)))) < len(links)
		seen["names that are edges"] = slices.ContainsFunc(links[redex.Edges:], func(link int) bool { return link < agent.Edges })
		seen["names that are names"] = slices.ContainsFunc(links[redex.Edges:], func(link int) bool { return link >= agent.Edges })
		seen["edges"] = redex.Edges > 0
		passed, names, _ := passedAs(redex, agent, m)
		seen["passed edges"] = len(passed) > 0 && passed[0] < agent.Edges
		seen["passed names"] = len(passed) > 0 && passed[len(passed)-1] >= agent.Edges
		seen["passed names that leave some out"] = len(names) > 0 && names[len(names)-1] != fmt.Sprintf("z%c", 'a'+len(names)-1)
		rest, _, parameter := partsOf(agent, m)
		seen["a rest and a parameter"] = len(rest) > 0 && len(parameter) > 0
		seen["several sites"] = len(redex.Sites) > 1
		countSeen(seen, counts)
	}
}

func countSeen(seen map[string]bool, counts map[string]int) {
	for name, is := range seen {
		if is {
			counts[name]++
		}
	}
}

func TestMatchesOfSamples(t *testing.T) {
	t.Parallel()
	r, counts := rand.New(rand.NewSource(131)), map[string]int{}
	for _, agent := range append(agentSamples(132, 1500, 6), agentSamples(133, 150, 8)...) {
		for _, redex := range redexesFor(r, agent, 6) {
			tellMatches(redex, agent, checkMatches(t, redex, agent), counts)
		}
	}
	wantAtLeast(t, counts, 100, "0 matches", "1 matches", "2 matches", "active true", "active false", "roots with one place", "roots with different places",
		"links with one image", "names that are edges", "names that are names", "edges", "passed edges", "passed names", "passed names that leave some out", "a rest and a parameter", "several sites")
}

func TestMatchesOfSmallBigraphs(t *testing.T) {
	t.Parallel()
	r, counts, redexes, agents := rand.New(rand.NewSource(134)), map[string]int{}, []impl.Bigraph{}, []impl.Bigraph{}
	for _, names := range [][]string{nil, {"x"}, {"x", "y"}} {
		for edges := range 2 {
			for roots := 1; roots <= 2; roots++ {
				for _, b := range slices.Concat(smallBigraphs(roots, 1, edges, names), smallBigraphs(roots, 2, edges, names)) {
					redexes = append(redexes, b)
					for _, parents := range [][]int{{0}, {1}, {1, 0}} {
						open := cloneOf(b)
						open.Sites = parents
						redexes = append(redexes, open)
					}
				}
				agents = append(agents, smallBigraphs(roots, 3, edges, names)...)
			}
		}
	}
	redexes = slices.DeleteFunc(redexes, func(b impl.Bigraph) bool { return !isFine(house(), b) || !isRedexAs(b) })
	for range 40000 {
		counts[fmt.Sprint(min(2, len(checkMatches(t, pick(r, redexes), pick(r, agents)))), " matches")]++
	}
	wantAtLeast(t, counts, 500, "0 matches", "1 matches", "2 matches")
}

// matchExample tells the texts of a redex and an agent over house, and all Matches in short.
type matchExample struct{ redex, agent, want string }

func checkMatchExamples(t *testing.T, examples []matchExample) {
	t.Helper()
	for _, e := range examples {
		if got := matchWords(checkMatches(t, read(t, e.redex), read(t, e.agent))); got != e.want {
			t.Errorf("the Matches of %s in %s are %q; want %q", e.redex, e.agent, got, e.want)
		}
	}
}

func TestChildrenOfImages(t *testing.T) {
	nested := "1; room@-1; room@0; dot@1; room@-1; sites; 0; outer; inner"
	full := "1; room@-1; dot@0; dot@0; key@0 0; sites; 1; outer; inner"
	checkMatchExamples(t, []matchExample{
		{emptyRoom, nested, "3 in -1"},
		{oneRoom, nested, "0 in -1; 1 in 0; 3 in -1"},
		{"1; room@-1; dot@0; sites; 0; outer; inner", nested, "1 2 in 0"},
		{"1; room@-1; dot@0; sites 0; 0; outer; inner", nested, "1 2 in 0"},
		{"1; room@-1; room@0; sites; 0; outer; inner", nested, ""},
		{"1; room@-1; room@0; sites 0; 0; outer; inner", nested, ""},
		{"1; room@-1; room@0; sites 1; 0; outer; inner", nested, "0 1 in -1"},
		{"1; room@-1; room@0; sites 0 1; 0; outer; inner", nested, "0 1 in -1"},
		{"1; room@-1; room@0; sites 1 0; 0; outer; inner", nested, "0 1 in -1"},
		{"1; room@-1; room@-1; sites 0; 0; outer; inner", nested, "0 3 in -1"},
		{"1; room@-1; room@-1; sites 1 0; 0; outer; inner", nested, "0 3 in -1; 3 0 in -1"},
		{"1; room@-1; dot@0; key@0 0; sites; 0; outer x; inner", full, ""},
		{"1; room@-1; dot@0; key@0 0; sites 0; 0; outer x; inner", full, "0 1 3 in -1; 0 2 3 in -1"},
		{"1; room@-1; dot@0; key@0 0; dot@0; sites; 0; outer x; inner", full, "0 1 3 2 in -1; 0 2 3 1 in -1"},
		{"1; room@-1; dot@0; key@0 0; dot@0; dot@0; sites 0; 0; outer x; inner", full, ""},
		{"1; key@-1 0; sites; 0; outer x; inner", full, "3 in 0"},
		{"1; key@-1 0; sites 0; 0; outer x; inner", full, "3 in 0"},
	})
}

func TestPlacesOfRoots(t *testing.T) {
	dots := "2; dot@-1; dot@-2; sites; 0; outer; inner"
	pair := "2; room@-1; dot@-2; sites 0; 0; outer; inner"
	checkMatchExamples(t, []matchExample{
		{"1; dot@-1; sites; 0; outer; inner", "2; dot@-2; room@-1; dot@1; sites; 0; outer; inner", "0 in -2; 2 in 1"},
		{"1; dot@-1; dot@-1; sites; 0; outer; inner", "2; dot@-2; dot@-1; sites; 0; outer; inner", ""},
		{"1; dot@-1; dot@-1; sites; 0; outer; inner", "2; dot@-2; room@-1; dot@1; dot@1; sites; 0; outer; inner", "2 3 in 1; 3 2 in 1"},
		{dots, "1; dot@-1; dot@-1; sites; 0; outer; inner", "0 1 in -1 -1; 1 0 in -1 -1"},
		{dots, "2; dot@-1; dot@-2; sites; 0; outer; inner", "0 1 in -1 -2; 1 0 in -2 -1"},
		{dots, "3; room@-3; dot@0; room@-2; dot@2; sites; 0; outer; inner", "1 3 in 0 2; 3 1 in 2 0"},
		{dots, "1; dot@-1; room@-1; dot@1; sites; 0; outer; inner", "0 2 in -1 1; 2 0 in 1 -1"},
		{dots, "1; dot@-1; sites; 0; outer; inner", ""},
		{"3; dot@-1; dot@-3; dot@-2; dot@-1; sites; 0; outer; inner", "1; dot@-1; dot@-1; room@-1; dot@2; dot@2; sites; 0; outer; inner", "0 3 4 1 in -1 2 2; 0 4 3 1 in -1 2 2; 1 3 4 0 in -1 2 2; 1 4 3 0 in -1 2 2; 3 0 1 4 in 2 -1 -1; 3 1 0 4 in 2 -1 -1; 4 0 1 3 in 2 -1 -1; 4 1 0 3 in 2 -1 -1"},
		// The dot is in the room, or in a room in it, so that its root would be in an image.
		{pair, "1; room@-1; dot@0; sites; 0; outer; inner", ""},
		{pair, "1; room@-1; key@0 0; dot@1; sites; 1; outer; inner", ""},
		{pair, "1; room@-1; room@0; dot@1; sites; 0; outer; inner", ""},
		{pair, "1; room@-1; room@0; dot@0; sites; 0; outer; inner", "1 2 in 0 0"},
		{pair, "1; room@-1; room@0; dot@-1; sites; 0; outer; inner", "0 2 in -1 -1; 1 2 in 0 -1"},
		{pair, "1; room@-1; dot@0; room@0; room@2; sites; 0; outer; inner", "2 1 in 0 0; 3 1 in 2 0"},
		{"2; dot@-1; room@-2; sites 1; 0; outer; inner", "1; room@-1; dot@0; room@0; sites; 0; outer; inner", "1 2 in 0 0"},
		// Without a site, the dot would be a child that is an image, but its root is an image too.
		{"2; room@-1; dot@-2; sites; 0; outer; inner", "1; room@-1; dot@0; sites; 0; outer; inner", ""},
		{"2; room@-1; room@-2; sites 0 1; 0; outer; inner", "1; room@-1; room@0; sites; 0; outer; inner", ""},
		{"2; room@-1; room@-2; sites 1 0; 0; outer; inner", "1; room@-1; room@0; room@-1; sites; 0; outer; inner", "0 2 in -1 -1; 1 2 in 0 -1; 2 0 in -1 -1; 2 1 in -1 0"},
	})
}

func TestEdgesOfRedexes(t *testing.T) {
	one, two := "1; key@-1 0; sites; 1; outer; inner", "1; key@-1 0; key@-1 0; sites; 1; outer; inner"
	checkMatchExamples(t, []matchExample{
		{one, "1; key@-1 0; sites; 1; outer; inner", "0 in -1"},
		{one, "1; key@-1 0; sites; 0; outer x; inner", ""},
		{one, "1; key@-1 1; sites; 1; outer x; inner", ""},
		{one, "1; key@-1 1; key@-1 0; sites; 2; outer; inner", "0 in -1; 1 in -1"},
		{one, "1; key@-1 0; key@-1 0; sites; 1; outer; inner", ""},
		{one, "2; key@-1 0; key@-2 0; key@-1 1; sites; 2; outer; inner", "2 in -1"},
		{one, "1; key@-1 0; door@-1 0 1; sites; 2; outer; inner", ""},
		{"1; key@-1 0; sites 0; 1; outer; inner", "1; key@-1 0; key@0 0; sites; 1; outer; inner", ""},
		{"1; key@-1 0; sites 0; 1; outer; inner", "1; key@-1 0; key@0 1; sites; 2; outer; inner", "0 in -1; 1 in 0"},
		{two, "1; key@-1 0; key@-1 0; sites; 1; outer; inner", "0 1 in -1; 1 0 in -1"},
		{two, "1; key@-1 1; key@-1 1; key@-1 0; sites; 2; outer; inner", "0 1 in -1; 1 0 in -1"},
		{two, "1; key@-1 0; key@-1 0; key@-1 0; sites; 1; outer; inner", ""},
		{two, "1; key@-1 0; key@-1 1; sites; 2; outer; inner", ""},
		{two, "1; key@-1 0; key@-1 0; sites; 0; outer x; inner", ""},
		{"1; door@-1 0 0; sites; 1; outer; inner", "1; door@-1 0 0; door@-1 1 2; door@-1 3 3; door@-1 2 1; sites; 4; outer; inner", "0 in -1; 2 in -1"},
		{"1; door@-1 0 1; sites; 1; outer x; inner", "1; door@-1 0 1; door@-1 2 0; sites; 3; outer; inner", "1 in -1"},
		{"1; door@-1 0 1; sites; 1; outer x; inner", "1; door@-1 0 0; sites; 1; outer; inner", ""},
		{"1; door@-1 1 0; sites; 1; outer x; inner", "1; door@-1 0 1; sites; 1; outer x; inner", ""},
		{"1; door@-1 0 1; sites; 2; outer; inner", "1; door@-1 1 0; sites; 2; outer; inner", "0 in -1"},
		{"1; door@-1 0 1; sites; 2; outer; inner", "1; door@-1 0 0; sites; 2; outer; inner", ""},
		{"1; pen@-1 0 1 0; sites; 2; outer; inner", "1; pen@-1 1 0 1; pen@-1 2 2 3; sites; 4; outer; inner", "0 in -1"},
	})
}

func TestSharedLinks(t *testing.T) {
	names, same := "1; key@-1 0; key@-1 1; sites; 0; outer x y; inner", "1; key@-1 0; key@-1 0; sites; 0; outer x; inner"
	checkMatchExamples(t, []matchExample{
		{names, "1; key@-1 0; key@-1 0; sites; 1; outer; inner", "0 1 in -1; 1 0 in -1"},
		{names, "1; key@-1 0; key@-1 0; sites; 0; outer x; inner", "0 1 in -1; 1 0 in -1"},
		{names, "1; key@-1 0; key@-1 1; sites; 1; outer x; inner", "0 1 in -1; 1 0 in -1"},
		{"1; key@-1 0; key@-1 1; sites; 1; outer x; inner", "1; key@-1 0; key@-1 0; sites; 1; outer; inner", ""},
		{"1; key@-1 0; key@-1 1; sites; 1; outer x; inner", "1; key@-1 1; key@-1 0; sites; 2; outer; inner", "0 1 in -1; 1 0 in -1"},
		{"1; key@-1 0; key@-1 1; sites; 2; outer; inner", "1; key@-1 0; key@-1 0; sites; 2; outer; inner", ""},
		{"1; door@-1 0 1; sites; 0; outer x y; inner", "1; door@-1 0 0; sites; 1; outer; inner", "0 in -1"},
		{"1; pen@-1 2 1 0; sites; 0; outer x y z; inner", "1; pen@-1 0 0 0; pen@-1 0 1 1; sites; 1; outer w; inner", "0 in -1; 1 in -1"},
		{same, "1; key@-1 0; key@-1 1; sites; 2; outer; inner", ""},
		{same, "1; key@-1 0; key@-1 1; sites; 0; outer x y; inner", ""},
		{same, "1; key@-1 0; key@-1 1; sites; 1; outer x; inner", ""},
		{same, "1; key@-1 0; key@-1 1; key@-1 0; sites; 1; outer x; inner", "0 2 in -1; 2 0 in -1"},
		{same, "1; key@-1 0; key@-1 1; key@-1 1; sites; 1; outer x; inner", "1 2 in -1; 2 1 in -1"},
		{"1; door@-1 0 0; sites; 0; outer x; inner", "1; door@-1 0 1; door@-1 1 1; sites; 1; outer x; inner", "1 in -1"},
		{"2; key@-1 0; key@-2 0; sites; 0; outer x; inner", "2; key@-1 0; key@-2 0; key@-2 1; sites; 2; outer; inner", "0 1 in -1 -2; 1 0 in -2 -1"},
		{"1; pen@-1 0 1 0; sites; 0; outer x y; inner", "1; pen@-1 0 0 1; pen@-1 0 1 0; pen@-1 1 1 1; sites; 1; outer x; inner", "1 in -1; 2 in -1"},
	})
}

func TestControlsOfImages(t *testing.T) {
	checkMatchExamples(t, []matchExample{
		{"1; key@-1 0; sites; 0; outer x; inner", "1; box@-1 0; key@-1 0; sites; 1; outer; inner", "1 in -1"},
		{"1; room@-1; sites 0; 0; outer; inner", "1; dot@-1; sites; 0; outer; inner", ""},
		{"1; dot@-1; sites; 0; outer; inner", nothing, ""},
		{"1; dot@-1; sites; 0; outer; inner", "4; sites; 3; outer a b; inner", ""},
		{"1; dot@-1; dot@-1; sites; 0; outer; inner", "1; dot@-1; sites; 0; outer; inner", ""},
	})
}

func TestListsThatAreNoMatches(t *testing.T) {
	t.Parallel()
	counts := map[string]int{}
	for _, e := range [][2]string{
		{"1; room@-1; sites 0; 0; outer; inner", "2; room@-1; room@0; dot@1; room@-2; sites; 0; outer; inner"},
		{"1; dot@-1; sites; 0; outer; inner", "1; dot@-1; room@-1; dot@1; sites; 0; outer; inner"},
		{"2; room@-1; dot@-2; sites 0; 0; outer; inner", "1; room@-1; room@0; dot@0; sites; 0; outer; inner"},
		{"1; key@-1 0; key@-1 1; sites; 1; outer x; inner", "1; key@-1 1; key@-1 0; key@-1 2; sites; 2; outer x; inner"},
		{"1; room@-1; key@0 0; sites 1; 0; outer x; inner", "1; room@-1; key@0 0; room@1; sites; 1; outer; inner"},
	} {
		redex, agent := read(t, e[0]), read(t, e[1])
		places := listsOfNumbers(-agent.Roots-1, len(agent.Nodes), redex.Roots+1)
		for _, nodes := range listsOfNumbers(-1, len(agent.Nodes), len(redex.Nodes)+1) {
			for _, roots := range places {
				is := checkMatch(t, redex, agent, impl.Match{Nodes: nodes, Roots: roots})
				counts[fmt.Sprint(len(nodes)-len(redex.Nodes), " ", len(roots)-redex.Roots, " ", is)]++
			}
		}
		all := matchesAs(redex, agent)
		for _, n := range append(extremes(), math.MinInt/2, math.MaxInt/2) {
			for _, m := range all {
				for k := range m.Nodes {
					other := cloneOfMatch(m)
					other.Nodes[k] = n
					checkMatch(t, redex, agent, other)
				}
				for root := range m.Roots {
					other := cloneOfMatch(m)
					other.Roots[root] = n
					checkMatch(t, redex, agent, other)
				}
			}
		}
		if len(all) == 0 {
			t.Errorf("%v has no Matches", e)
		}
	}
	wantAtLeast(t, counts, 1, "0 0 true")
	wantAtLeast(t, counts, 10, "0 0 false", "-1 0 false", "1 0 false", "0 -1 false", "0 1 false", "-1 -1 false", "1 1 false")
}

func TestChangedMatchesOfSamples(t *testing.T) {
	t.Parallel()
	r, counts := rand.New(rand.NewSource(135)), map[string]int{}
	for _, agent := range agentSamples(136, 1000, 8) {
		redex, m := redexIn(r, agent, 8)
		if !checkMatch(t, redex, agent, m) {
			t.Fatalf("%v is no Match of %v in %v", m, redex, agent)
		}
		for range 10 {
			other := cloneOfMatch(m)
			switch r.Intn(4) {
			case 0:
				other.Nodes[r.Intn(len(other.Nodes))] = r.Intn(len(agent.Nodes))
			case 1:
				i, j := r.Intn(len(other.Nodes)), r.Intn(len(other.Nodes))
				other.Nodes[i], other.Nodes[j] = other.Nodes[j], other.Nodes[i]
			case 2:
				other.Roots[r.Intn(len(other.Roots))] = r.Intn(len(agent.Nodes)+agent.Roots) - agent.Roots
			case 3:
				i, j := r.Intn(len(other.Roots)), r.Intn(len(other.Roots))
				other.Roots[i], other.Roots[j] = other.Roots[j], other.Roots[i]
			}
			counts[fmt.Sprint(checkMatch(t, redex, agent, other))]++
		}
	}
	wantAtLeast(t, counts, 500, "true", "false")
}

func TestVastMatches(t *testing.T) {
	redex, agent, many := read(t, oneRoom), read(t, emptyRoom), 1000000
	for _, m := range []impl.Match{
		{Nodes: make([]int, many), Roots: []int{-1}},
		{Nodes: numbersFrom(0, many), Roots: []int{-1}},
		{Nodes: []int{0}, Roots: slices.Repeat([]int{-1}, many)},
		{Nodes: make([]int, many), Roots: make([]int, many)},
	} {
		is, ok := impl.IsMatch(house(), redex, agent, m)
		wantReport(t, is, ok, false, "IsMatch of a vast Match")
		wantFailures(t, callsOfMatch(house(), redex, agent, m)[1:], "a vast Match")
	}
	names := slices.Repeat([]string{"x", "y"}, many)
	vast := impl.Bigraph{Roots: 1, Nodes: make([]impl.Node, many), Outer: names}
	wires := impl.Bigraph{Roots: 1, Edges: 1, Inner: make([]impl.Wire, many)}
	for _, e := range [][3]impl.Bigraph{{vast, wires, vast}, {redex, wires, vast}, {redex, wires, {Roots: 1}}, {redex, identityAs(1, nil), vast}, {vast, identityAs(1, nil), agent}} {
		whole, ok := impl.RecomposeMatch(house(), e[0], e[1], e[2])
		wantResult(t, whole, ok, impl.Bigraph{}, false, "RecomposeMatch of vast Bigraphs")
		wantFailures(t, matchingCalls(house(), vast, e[1]), "a vast redex")
		wantFailures(t, matchingCalls(house(), e[0], vast), "a vast agent")
	}
}

func TestActiveMatches(t *testing.T) {
	dot, dots := "1; dot@-1; sites; 0; outer; inner", "2; dot@-1; dot@-2; sites; 0; outer; inner"
	for _, e := range []struct{ redex, agent, active, all string }{
		{dot, "1; box@-1 0; dot@0; dot@-1; room@0; dot@3; sites; 1; outer; inner", "2 in -1", "1 in 0; 2 in -1; 4 in 3"},
		{dot, "1; room@-1; door@0 0 0; room@1; dot@2; dot@0; dot@1; sites; 1; outer; inner", "4 in 0", "3 in 2; 4 in 0; 5 in 1"},
		{dot, "1; room@-1; key@0 0; dot@1; box@1 0; sites; 0; outer x; inner", "2 in 1", "2 in 1"},
		{dot, "1; box@-1 0; sites; 1; outer; inner", "", ""},
		{"1; box@-1 0; dot@0; sites; 0; outer x; inner", "1; box@-1 0; dot@0; sites; 1; outer; inner", "0 1 in -1", "0 1 in -1"},
		{"1; box@-1 0; sites 0; 0; outer x; inner", "1; box@-1 0; box@0 0; box@1 0; sites; 1; outer; inner", "0 in -1", "0 in -1; 1 in 0; 2 in 1"},
		{dots, "1; box@-1 0; dot@0; dot@-1; sites; 1; outer; inner", "", "1 2 in 0 -1; 2 1 in -1 0"},
		{dots, "1; dot@-1; box@-1 0; dot@1; dot@-1; sites; 1; outer; inner", "0 3 in -1 -1; 3 0 in -1 -1", "0 2 in -1 1; 0 3 in -1 -1; 2 0 in 1 -1; 2 3 in 1 -1; 3 0 in -1 -1; 3 2 in -1 1"},
	} {
		redex, agent, active := read(t, e.redex), read(t, e.agent), []impl.Match{}
		all := checkMatches(t, redex, agent)
		for _, m := range all {
			if is, _ := impl.IsActiveMatch(house(), redex, agent, m); is {
				active = append(active, m)
			}
		}
		if one, two := matchWords(active), matchWords(all); one != e.active || two != e.all {
			t.Errorf("the active Matches of %s in %s are %q of %q; want %q of %q", e.redex, e.agent, one, two, e.active, e.all)
		}
	}
}

func TestActiveMatchesByKinds(t *testing.T) {
	t.Parallel()
	r, counts := rand.New(rand.NewSource(137)), map[string]int{}
	for _, agent := range agentSamples(138, 600, 7) {
		redex, _ := redexIn(r, agent, 4)
		all := matchesAs(redex, agent)
		for share := range 4 {
			sig, active := house(), 0
			for c := range sig {
				if sig[c].Kind != impl.KindAtomic {
					sig[c].Kind = impl.KindActive
					if r.Intn(3) < share {
						sig[c].Kind = impl.KindPassive
					}
				}
			}
			for _, m := range all {
				want := isActiveAs(sig, agent, m)
				is, ok := impl.IsActiveMatch(sig, redex, agent, m)
				wantReport(t, is, ok, want, "IsActiveMatch(%v, %v, %v, %v)", sig, redex, agent, m)
				if want {
					active++
				}
				counts[fmt.Sprint(share, " ", want)]++
			}
			n, count, ok := impl.CountActive(sig, redex, agent)
			if len(all) <= 400 && (!ok || n != active || count != len(all)) {
				t.Fatalf("CountActive(%v, %v, %v) = %d, %d, %v; want %d, %d", sig, redex, agent, n, count, ok, active, len(all))
			}
		}
	}
	if counts["0 false"] > 0 {
		t.Error("a Match is not active without Controls of KindPassive")
	}
	wantAtLeast(t, counts, 100, "0 true", "1 true", "1 false", "2 true", "2 false", "3 true", "3 false")
}

func TestManyMatches(t *testing.T) {
	for n := 1; n <= 8; n++ {
		agent := repeated(t, "sites; 0; outer; inner", times(n, "dot@-1")...)
		count, sets := 1, 1
		for k := 1; k <= n; k++ {
			count, sets = count*(n+1-k), sets*(n+1-k)/k
			redex := repeated(t, "sites; 0; outer; inner", times(k, "dot@-1")...)
			checkMany(t, redex, agent, count, sets)
		}
	}
}

func TestMaxMatchesAndOneMore(t *testing.T) {
	dots := read(t, "3; dot@-1; dot@-2; dot@-3; dot@-2; sites; 0; outer; inner")
	checkMany(t, dots, read(t, "4; dot@-4; dot@-4; dot@-4; dot@-2; dot@-4; dot@-1; dot@-4; sites; 0; outer; inner"), 400, 35)
	pens := read(t, "1; pen@-1 2 1 3; pen@-1 3 5 4; pen@-1 6 2 2; pen@-1 7 0 0; sites; 0; outer a b c d e f g h; inner")
	checkMany(t, pens, read(t, "1; pen@-1 1 1 1; pen@-1 1 1 1; pen@-1 0 1 1; pen@-1 1 0 1; pen@-1 0 0 0; pen@-1 1 0 0; pen@-1 0 1 1; pen@-1 1 1 1; sites; 0; outer x y; inner"), 401, 70)
	room := read(t, emptyRoom)
	if all := checkMatches(t, room, read(t, "4; dot@-1; room@-2; key@1 0; sites; 1; outer; inner")); len(all) > 0 {
		t.Error("there are Matches of a room that is empty:", all)
	}
}

// checkMany checks for a redex and an agent with many Matches whether these are too many.
func checkMany(t *testing.T, redex impl.Bigraph, agent impl.Bigraph, count int, sets int) {
	t.Helper()
	all, want := checkMatches(t, redex, agent), 0
	if count <= 400 {
		want = count
	}
	got, ok := impl.AllMatches(house(), redex, agent)
	if len(all) != count || len(got) != want || ok != (want > 0) {
		t.Errorf("AllMatches(%v, %v) = %d Matches, %v; want %d", redex, agent, len(got), ok, count)
	}
	images, ok := impl.ImageSets(house(), redex, agent)
	if len(setsAs(all)) != sets || want > 0 && len(images) != sets || ok != (want > 0) {
		t.Errorf("ImageSets(%v, %v) = %d sets, %v; want %d", redex, agent, len(images), ok, sets)
	}
	first, ok := impl.FirstMatch(house(), redex, agent)
	if !ok || !isSameMatch(first, all[0]) {
		t.Errorf("FirstMatch(%v, %v) = %v, %v; want %v", redex, agent, first, ok, all[0])
	}
	checkMatch(t, redex, agent, all[len(all)-1])
}

// linkedTo is an agent with a node that has all its ports on the first link, and pens in it with
// so many different links.
func linkedTo(control int, links int, edges int, outer int) impl.Bigraph {
	b := impl.Bigraph{Roots: 1, Edges: edges, Outer: namesUpTo(outer)}
	b.Nodes = append(b.Nodes, impl.Node{Control: control, Parent: -1, Links: make([]int, house()[control].Ports)})
	for k := range 7 {
		pen := impl.Node{Control: 3, Parent: 0}
		for i := range 3 {
			pen.Links = append(pen.Links, edges+outer-1-(3*k+i)%max(links, 1))
		}
		if links > 0 {
			b.Nodes = append(b.Nodes, pen)
		}
	}
	return b
}

func TestPassedNamesUpToTheLimit(t *testing.T) {
	m, counts := impl.Match{Nodes: []int{0}, Roots: []int{-1}}, map[string]int{}
	for links := range 22 {
		for _, edges := range []int{5, 8} {
			for _, e := range [][2]string{
				{"1; room@-1; sites 0; 0; outer; inner", ""},
				{"1; key@-1 0; sites 0; 0; outer x; inner", "x"},
				{"1; key@-1 0; sites 0; 0; outer za; inner", "za"},
				{"1; key@-1 0; sites 0; 0; outer zp; inner", "zp"},
				{"1; door@-1 0 0; sites 0; 0; outer zc; inner", "zc"},
				{"1; door@-1 0 1; sites 0; 0; outer a b; inner", "a b"},
				{"1; door@-1 0 1; sites 0; 0; outer za zc; inner", "za zc"},
				{"1; door@-1 1 0; sites 0; 0; outer zb zq; inner", "zb zq"},
			} {
				redex := read(t, e[0])
				agent, names := linkedTo(redex.Nodes[0].Control, links, edges, 16), len(redex.Outer)
				if !checkMatch(t, redex, agent, m) {
					t.Fatalf("%s has no Match in %v", e[0], agent)
				}
				passed, words, ok := impl.PassedLinks(house(), redex, agent, m)
				if ok != (links+names <= 16) || ok && (len(passed) != links || haveCommon(words, redex.Outer)) {
					t.Errorf("PassedLinks of %d links and %d names = %v, %v", links, names, words, ok)
				}
				counts[fmt.Sprint(links+names, " ", ok)]++
			}
		}
	}
	wantAtLeast(t, counts, 1, "0 true")
	wantAtLeast(t, counts, 10, "16 true", "17 false")
}

func TestPassedNames(t *testing.T) {
	pens, room := []string{}, "room@-1"
	for k := range 4 {
		pens = append(pens, fmt.Sprintf("pen@-1 %d %d %d", 3*k, 3*k+1, 3*k+2))
	}
	twelve := "outer za zb zc zd ze zf zg zh zi zj zk zl; inner"
	redex := repeated(t, "sites 4; 0; "+twelve, append(pens, room)...)
	m := impl.Match{Nodes: numbersFrom(0, 5), Roots: []int{-1}}
	for _, e := range []struct{ inside, passed, names string }{
		{"dot@4; dot@4", "[]", "[]"},
		{"pen@4 0 0 0; dot@4", "[0]", "[zm]"},
		{"key@4 11; pen@5 1 8 3", "[1 3 8 11]", "[zm zn zo zp]"},
		{"pen@4 0 1 2; pen@4 3 4 0", "[]", "[]"},
		{"pen@4 2 2 3; door@4 10 11", "[2 3 10 11]", "[zm zn zo zp]"},
	} {
		agent := repeated(t, "sites; 0; "+twelve, append(append(slices.Clone(pens), room), e.inside)...)
		checkMatch(t, redex, agent, m)
		passed, names, ok := impl.PassedLinks(house(), redex, agent, m)
		if fits := e.inside != "pen@4 0 1 2; pen@4 3 4 0"; fmt.Sprint(passed) != e.passed || fmt.Sprint(names) != e.names || ok != fits {
			t.Errorf("PassedLinks with %s in the room = %v, %v, %v", e.inside, passed, names, ok)
		}
	}
	sixteen := strings.Replace(twelve, "zl;", "zl zm zn zo zp;", 1)
	full := append(slices.Clone(pens), "pen@-1 12 13 14", "key@-1 15", room)
	redex, m = repeated(t, "sites 6; 0; "+sixteen, full...), impl.Match{Nodes: numbersFrom(0, 7), Roots: []int{-1}}
	for inside, fits := range map[string]bool{"dot@6": true, "box@6 3": false} {
		agent := repeated(t, "sites; 0; "+sixteen, append(slices.Clone(full), inside)...)
		checkMatch(t, redex, agent, m)
		if _, _, ok := impl.PassedLinks(house(), redex, agent, m); ok != fits {
			t.Errorf("PassedLinks with 16 names and %s in the room = %v", inside, ok)
		}
	}
}

func TestExampleOfContextAndParameter(t *testing.T) {
	redex := read(t, "2; room@-2; key@0 0; door@-1 2 1; sites 2 0; 1; outer x za; inner")
	agent := read(t, "1; room@-1; room@0; key@1 1; dot@1; pen@1 0 4 2; door@-1 4 4; box@5 2; dot@6; sites; 4; outer u v; inner")
	m := impl.Match{Nodes: []int{1, 2, 5}, Roots: []int{-1, 0}}
	checkMatch(t, redex, agent, m)
	links, _ := impl.MatchLinks(house(), redex, agent, m)
	passed, names, _ := impl.PassedLinks(house(), redex, agent, m)
	if got := fmt.Sprint(links, passed, names); got != "[1 4 4] [0 2 4] [zb zc zd]" {
		t.Error("the images, passed links and passed names are", got)
	}
	context, ok := impl.MatchContext(house(), redex, agent, m)
	wantResult(t, context, ok, read(t, "1; room@-1; sites -1 0; 3; outer u v; inner x=3 za=3 zb=0 zc=1 zd=3"), true, "MatchContext")
	parameter, ok := impl.MatchParameter(house(), redex, agent, m)
	wantResult(t, parameter, ok, read(t, "2; dot@-2; pen@-2 0 2 1; box@-1 1; dot@2; sites; 0; outer zb zc zd; inner"), true, "MatchParameter")
	whole, ok := impl.RecomposeMatch(house(), redex, context, parameter)
	wantResult(t, whole, ok, read(t, "1; room@-1; room@0; key@1 3; door@-1 4 4; dot@1; pen@1 0 4 1; box@3 1; dot@6; sites; 4; outer u v; inner"), true, "RecomposeMatch")
}

func checkRecomposed(t *testing.T, redex impl.Bigraph, context impl.Bigraph, parameter impl.Bigraph) bool {
	t.Helper()
	whole, ok := impl.RecomposeMatch(house(), redex, context, parameter)
	want, possible := recomposedAs(redex, context, parameter)
	wantResult(t, whole, ok, want, possible, "RecomposeMatch(%v, %v, %v)", redex, context, parameter)
	return ok
}

func TestRecomposedOfSamples(t *testing.T) {
	t.Parallel()
	r, counts := rand.New(rand.NewSource(139)), map[string]int{}
	for range 4000 {
		redex := randomRedex(r, 4)
		context, parameter := frameFor(r, redex, 1+r.Intn(3))
		if checkRecomposed(t, redex, context, parameter) {
			counts["fit"]++
		}
		for _, other := range slightChanges(r, context, 2) {
			counts[fmt.Sprint("context ", checkRecomposed(t, redex, other, parameter))]++
		}
		for _, other := range slightChanges(r, parameter, 2) {
			counts[fmt.Sprint("parameter ", checkRecomposed(t, redex, context, other))]++
		}
		for _, other := range slightChanges(r, redex, 2) {
			counts[fmt.Sprint("redex ", checkRecomposed(t, other, context, parameter))]++
		}
	}
	wantAtLeast(t, counts, 500, "fit", "context true", "context false", "parameter true", "parameter false", "redex true", "redex false")
}

func TestRecomposedExamples(t *testing.T) {
	redex := "1; room@-1; key@0 0; sites 0; 0; outer x; inner"
	context, parameter := "1; room@-1; sites 0; 1; outer y; inner a=1 x=0", "1; dot@-1; key@-1 0; sites; 0; outer a; inner"
	rooms := strings.Repeat("; room@-1", 5)
	for _, e := range []struct{ told, redex, context, parameter, want string }{
		{"all parts", redex, context, parameter, "1; room@-1; room@0; key@1 0; dot@1; key@1 1; sites; 1; outer y; inner"},
		{"a context with a site less", redex, "1; room@-1; sites; 1; outer y; inner a=1 x=0", parameter, ""},
		{"a context with a site more", redex, "1; room@-1; sites 0 -1; 1; outer y; inner a=1 x=0", parameter, ""},
		{"a context without the name of the redex", redex, "1; room@-1; sites 0; 1; outer y; inner a=1", parameter, ""},
		{"a context without the name of the parameter", redex, "1; room@-1; sites 0; 1; outer y; inner x=1", parameter, ""},
		{"a context with a name more", redex, "1; room@-1; sites 0; 1; outer y; inner a=1 b=1 x=0", parameter, ""},
		{"a context and a parameter with a name more", redex, "1; room@-1; sites 0; 1; outer y; inner a=1 b=1 x=0", "1; dot@-1; key@-1 0; sites; 0; outer a b; inner", "1; room@-1; room@0; key@1 0; dot@1; key@1 1; sites; 1; outer y; inner"},
		{"names of one link", redex, "1; room@-1; sites 0; 1; outer y; inner a=0 x=0", parameter, "1; room@-1; room@0; key@1 0; dot@1; key@1 0; sites; 1; outer y; inner"},
		{"a parameter with a root less", redex, context, "0; sites; 0; outer a; inner", ""},
		{"a parameter with a root more", redex, context, "2; dot@-1; key@-1 0; sites; 0; outer a; inner", ""},
		{"a parameter without its name", redex, context, "1; dot@-1; sites; 0; outer; inner", ""},
		{"a parameter with another name", redex, context, "1; dot@-1; key@-1 0; sites; 0; outer b; inner", ""},
		{"a parameter with a name of the redex", redex, context, "1; dot@-1; key@-1 0; sites; 0; outer a x; inner", ""},
		{"a parameter with an idle name", redex, context, "1; dot@-1; sites; 0; outer a; inner", "1; room@-1; room@0; key@1 0; dot@1; sites; 1; outer y; inner"},
		{"a parameter with an edge", redex, context, "1; box@-1 0; sites; 1; outer a; inner", "1; room@-1; room@0; key@1 0; box@1 1; sites; 2; outer y; inner"},
		{"a parameter with an inner face", redex, context, "1; key@-1 0; sites 0 -1; 0; outer a; inner q=0", "1; room@-1; room@0; key@1 0; key@1 1; sites 3 1; 1; outer y; inner q=1"},
		{"eight nodes", redex, "1" + rooms + "; sites 0; 1; outer y; inner a=1 x=0", "1; dot@-1; sites; 0; outer a; inner", "1" + rooms + "; room@0; key@5 0; dot@5; sites; 1; outer y; inner"},
		{"nine nodes", redex, "1" + rooms + "; sites 0; 1; outer y; inner a=1 x=0", parameter, ""},
		{"eight edges", "1; key@-1 0; sites; 1; outer; inner", "1; sites -1; 7; outer; inner", nothing, "1; key@-1 7; sites; 8; outer; inner"},
		{"nine edges", "1; key@-1 0; sites; 1; outer; inner", "1; sites -1; 8; outer; inner", nothing, ""},
		{"a redex with an idle name", "1; room@-1; key@0 0; sites 0; 0; outer w x; inner", "1; room@-1; sites 0; 1; outer y; inner a=1 w=0 x=0", parameter, ""},
		{"a redex with an idle edge", "1; room@-1; key@0 1; sites 0; 1; outer x; inner", context, parameter, ""},
		{"no redex, but a site in a root", "1; room@-1; key@0 0; sites -1; 0; outer x; inner", context, parameter, ""},
		{"no redex, but nothing", nothing, nothing, nothing, ""},
	} {
		list := []impl.Bigraph{read(t, e.redex), read(t, e.context), read(t, e.parameter)}
		checkRecomposed(t, list[0], list[1], list[2])
		whole, ok := impl.RecomposeMatch(house(), list[0], list[1], list[2])
		if want, possible := bigraphOf(house(), e.want); !isSame(whole, want) || ok != possible {
			t.Errorf("RecomposeMatch with %s = %v, %v; want %s", e.told, whole, ok, e.want)
		}
	}
}

func TestRecomposedWithAllNames(t *testing.T) {
	names := namesUpTo(17)
	for n := range 18 {
		context, parameter := impl.Bigraph{Roots: 1, Edges: 1, Sites: []int{-1}}, impl.Bigraph{Outer: names[1:max(n, 1)]}
		for _, name := range names[:n] {
			context.Inner = append(context.Inner, impl.Wire{Name: name})
		}
		redex := impl.Bigraph{Roots: 1, Nodes: []impl.Node{{Control: 1, Parent: -1, Links: []int{0}}}, Outer: names[:1]}
		whole, ok := impl.RecomposeMatch(house(), redex, context, parameter)
		want := impl.Bigraph{Roots: 1, Nodes: []impl.Node{{Control: 1, Parent: -1, Links: []int{0}}}, Edges: 1}
		wantResult(t, whole, ok, want, 1 <= n && n <= 16, "RecomposeMatch with %d names", n)
	}
}

func TestMatchingFailsForInvalidArguments(t *testing.T) {
	redex, agent, m := read(t, keyOfX), read(t, "1; key@-1 0; sites; 1; outer; inner"), impl.Match{Nodes: []int{0}, Roots: []int{-1}}
	context, parameter := identityAs(1, []string{"x"}), impl.Bigraph{}
	agents := []impl.Bigraph{{}, {Roots: 1}, agent, redex}
	recomposed := func(sig []impl.Control, a impl.Bigraph, b impl.Bigraph, c impl.Bigraph) [][]any {
		whole, ok := impl.RecomposeMatch(sig, a, b, c)
		return [][]any{{whole, ok}}
	}
	broken := func(bad impl.Bigraph) {
		t.Helper()
		for _, good := range append(agents, bad) {
			wantFailures(t, matchingCalls(house(), bad, good), "%v in %v", bad, good)
			wantFailures(t, callsOfMatch(house(), bad, good, m), "%v in %v", bad, good)
		}
		wantFailures(t, matchingCalls(house(), redex, bad), "in %v", bad)
		for _, other := range []impl.Match{m, {}, {Nodes: []int{0}}, {Roots: []int{-1}}} {
			wantFailures(t, callsOfMatch(house(), redex, bad, other), "in %v", bad)
			wantFailures(t, callsOfMatch(house(), bad, bad, other), "%v in itself", bad)
		}
	}
	for _, bad := range brokenBigraphs() {
		is, ok := impl.IsRedex(house(), bad)
		wantFailures(t, [][]any{{is, ok}}, "IsRedex(%v)", bad)
		broken(bad)
		wantFailures(t, recomposed(house(), bad, context, parameter), "the redex %v", bad)
		wantFailures(t, recomposed(house(), redex, bad, parameter), "the context %v", bad)
		wantFailures(t, recomposed(house(), redex, context, bad), "the parameter %v", bad)
	}
	for _, bad := range []impl.Bigraph{twoRooms(), {Roots: 1, Sites: []int{-1}}, {Edges: 1, Inner: []impl.Wire{{Name: "x"}}}, identityAs(1, []string{"x"}), fullBigraph()} {
		broken(bad)
	}
	for _, text := range []string{"1; key@-1 0; sites 0; 1; outer; inner", "1; key@-1 0; sites -1; 1; outer; inner", "1; key@-1 0; sites; 1; outer; inner x=0"} {
		bad := read(t, text)
		wantFailures(t, matchingCalls(house(), redex, bad), "in %s", text)
		wantFailures(t, callsOfMatch(house(), redex, bad, m), "in %s", text)
	}
	if !checkMatch(t, redex, agent, m) || !checkRecomposed(t, redex, context, parameter) {
		t.Error("the valid arguments are not valid")
	}
}

func TestMatchingNeedsSignatures(t *testing.T) {
	redex, agent, m := read(t, keyOfX), read(t, "1; key@-1 0; sites; 1; outer; inner"), impl.Match{Nodes: []int{0}, Roots: []int{-1}}
	for _, sig := range append(badSignatures(), house()[:1], []impl.Control{{Name: "room"}, {Name: "key", Ports: 2}}) {
		is, ok := impl.IsRedex(sig, redex)
		whole, fine := impl.RecomposeMatch(sig, redex, identityAs(1, []string{"x"}), impl.Bigraph{})
		wantFailures(t, [][]any{{is, ok}, {whole, fine}}, "over %v", sig)
		wantFailures(t, matchingCalls(sig, redex, agent), "over %v", sig)
		wantFailures(t, callsOfMatch(sig, redex, agent, m), "over %v", sig)
		wantFailures(t, matchingCalls(sig, redex, impl.Bigraph{}), "over %v", sig)
	}
}

func TestResultsOfMatchingAreNew(t *testing.T) {
	t.Parallel()
	r := rand.New(rand.NewSource(140))
	for _, kept := range append(agentSamples(141, 300, 7), linkedTo(2, 14, 8, 16)) {
		cut, found := redexIn(r, kept, 6)
		sig, redex, agent, m := house(), cloneOf(cut), cloneOf(kept), cloneOfMatch(found)
		over, inside := frameFor(r, cut, 2)
		context, parameter := cloneOf(over), cloneOf(inside)
		calls := func() [][]any {
			whole, ok := impl.RecomposeMatch(sig, redex, context, parameter)
			is, fine := impl.IsRedex(sig, redex)
			all := append(matchingCalls(sig, redex, agent), callsOfMatch(sig, redex, agent, m)...)
			return append(all, []any{whole, ok}, []any{is, fine})
		}
		wantNewResults(t, calls(), calls)
		if !isSame(redex, cut) || !isSame(agent, kept) || !isSameMatch(m, found) || !isSame(context, over) || !isSame(parameter, inside) || !slices.Equal(sig, house()) {
			t.Fatalf("a call has changed %v, %v or %v, or the results share their memory", redex, agent, m)
		}
		for _, results := range calls() {
			for _, result := range results {
				switch list := result.(type) {
				case impl.Bigraph:
					checkOwnLists(t, list)
				case []impl.Match:
					checkOwnMatches(t, list)
				}
			}
		}
	}
}

// checkOwnMatches overwrites one Match after the other, and looks at those behind it.
func checkOwnMatches(t *testing.T, all []impl.Match) {
	t.Helper()
	for i, m := range all {
		roots, rest := fmt.Sprint(m.Roots), fmt.Sprint(all[i+1:])
		spoil(reflect.ValueOf(m.Nodes))
		if fmt.Sprint(m.Roots) != roots {
			t.Fatal("Nodes and Roots of a Match share memory")
		}
		spoil(reflect.ValueOf(m.Roots))
		if fmt.Sprint(all[i+1:]) != rest {
			t.Fatal("Matches share memory")
		}
	}
}

func TestConstantsOfMatching(t *testing.T) {
	if impl.MaxMatches != 400 {
		t.Error("MaxMatches is", impl.MaxMatches)
	}
}
