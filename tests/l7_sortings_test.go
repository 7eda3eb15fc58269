package tests

import (
	"fmt"
	"math"
	"math/rand"
	"slices"
	"strings"
	"testing"

	"loop.example/g01082/impl"
)

// Sortings over house: one of four sorts, of which the last one is not allowed on any link, and
// one that allows nothing.
const (
	strictHouse = "tops room door; room: room key dot; key:0 key; door:01 pen; pen:112; dot:; box:3; most 2 1 2 0; apart 0-1 1-2"
	emptyHouse  = "tops; room:; key:0; door:00; pen:000; dot:; box:0; most 0; apart"
	freeHouse   = "tops room key door pen dot box; room: room key door pen dot box; key:0 room key door pen dot box; door:00 room key door pen dot box; pen:000; dot:; box:0 room key door pen dot box; most 24; apart"
)

// sorting returns the Sorting over house with a text.
func sorting(t *testing.T, text string) impl.Sorting {
	t.Helper()
	s, ok := sortingOfText(house(), text)
	if !ok {
		t.Fatal("the example is not valid:", text)
	}
	return s
}

// wantSorting checks the Sorting that a call returns, or that it fails.
func wantSorting(t *testing.T, got impl.Sorting, ok bool, want impl.Sorting, possible bool, call string, args ...any) {
	t.Helper()
	if !possible {
		want = impl.Sorting{}
	}
	if ok != possible || !isSameSorting(got, want) {
		t.Fatalf("%.600s = %v, %v; want %v, %v", fmt.Sprintf(call, args...), got, ok, want, possible)
	}
}

// sortingCalls calls each function of the chapter that takes two Sortings or two Bigraphs, and
// tells all results.
func sortingCalls(sig []impl.Control, s impl.Sorting, u impl.Sorting, a impl.Bigraph, b impl.Bigraph) [][]any {
	all := [][]any{}
	tell := func(results ...any) { all = append(all, results) }
	finer, ok := impl.IsFiner(sig, s, u)
	tell(finer, ok)
	meet, ok := impl.MeetOf(sig, s, u)
	tell(meet, ok)
	join, ok := impl.JoinOf(sig, s, u)
	tell(join, ok)
	fits, ok := impl.FitsSorted(sig, s, a, b)
	tell(fits, ok)
	return all
}

// sortedCalls calls each function of the chapter that takes a Sorting and a Bigraph.
func sortedCalls(sig []impl.Control, s impl.Sorting, b impl.Bigraph, n int) [][]any {
	all := [][]any{}
	tell := func(results ...any) { all = append(all, results) }
	faults, ok := impl.FaultsOf(sig, s, b)
	tell(faults, ok)
	is, ok := impl.IsSorted(sig, s, b)
	tell(is, ok)
	inside, ok := impl.IsSortedInside(sig, s, b)
	tell(inside, ok)
	counts, ok := impl.SortsOn(sig, s, b, n)
	tell(counts, ok)
	choices, ok := impl.ChoicesIn(sig, s, b, n)
	tell(choices, ok)
	return all
}

// checkSorting checks whether a Sorting over a signature is valid, and its text.
func checkSorting(t *testing.T, sig []impl.Control, s impl.Sorting) bool {
	t.Helper()
	valid := isSortingAs(sig, s)
	if is := impl.IsSorting(sig, s); is != valid {
		t.Fatalf("IsSorting(%v, %.600s) = %v", sig, fmt.Sprint(s), is)
	}
	text, ok := impl.SortingText(sig, s)
	if !valid {
		wantText(t, text, ok, "", false, "SortingText(%v, %v)", sig, s)
		wantFailures(t, sortingCalls(sig, s, s, impl.Bigraph{}, impl.Bigraph{}), "%v", s)
		wantFailures(t, sortedCalls(sig, s, impl.Bigraph{Roots: 1, Edges: 1}, 0), "%v", s)
		wantFailures(t, sortedCalls(sig, s, impl.Bigraph{Roots: 1}, -1), "%v", s)
		return false
	}
	wantText(t, text, ok, sortingWords(sig, s), true, "SortingText(%v, %v)", sig, s)
	again, ok := impl.ParseSorting(sig, text)
	wantSorting(t, again, ok, s, true, "ParseSorting(%v, %s)", sig, text)
	finer, ok := impl.IsFiner(sig, s, s)
	wantReport(t, finer, ok, true, "IsFiner(%v, itself)", s)
	return true
}

// smallSignatures have Controls of all Kinds.
func smallSignatures() [][]impl.Control {
	return [][]impl.Control{
		ionControls(),
		{{Name: "k", Ports: 2, Kind: impl.KindAtomic}},
		{{Name: "r", Ports: 1}, {Name: "s", Ports: 1, Kind: impl.KindPassive}, {Name: "t", Kind: impl.KindAtomic}},
		house(),
	}
}

// goodSortings are valid Sortings over a signature with different numbers of sorts.
func goodSortings(sig []impl.Control) []impl.Sorting {
	list := []impl.Sorting{}
	for many := 1; many <= 4; many++ {
		loose := impl.Sorting{Tops: numbersFrom(0, len(sig)), Most: slices.Repeat([]int{24}, many)}
		for c, control := range sig {
			nest := numbersFrom(0, len(sig))
			if control.Kind == impl.KindAtomic {
				nest = nil
			}
			loose.Nest = append(loose.Nest, nest)
			loose.Sorts = append(loose.Sorts, slices.Repeat([]int{c % many}, control.Ports))
		}
		strict := cloneOfSorting(loose)
		strict.Tops, strict.Nest, strict.Most, strict.Apart = nil, make([][]int, len(sig)), make([]int, many), allPairs(many)
		list = append(list, loose, strict)
	}
	return list
}

func TestFieldsOfSortings(t *testing.T) {
	counts := map[string]int{}
	check := func(field string, sig []impl.Control, s impl.Sorting, change func(*impl.Sorting)) {
		t.Helper()
		s = cloneOfSorting(s)
		change(&s)
		counts[fmt.Sprint(field, " ", checkSorting(t, sig, s))]++
	}
	for _, sig := range smallSignatures() {
		for _, s := range goodSortings(sig) {
			check("unchanged", sig, s, func(*impl.Sorting) {})
			for _, list := range listsOfNumbers(-1, min(len(sig), 4), 3) {
				check("tops", sig, s, func(o *impl.Sorting) { o.Tops = list })
				for c := range sig {
					check("nest", sig, s, func(o *impl.Sorting) { o.Nest[c] = list })
				}
			}
			for c := range sig {
				for _, list := range listsOfNumbers(-1, 4, 3) {
					check("sorts", sig, s, func(o *impl.Sorting) { o.Sorts[c] = list })
				}
			}
		}
	}
	wantAtLeast(t, counts, 30, "unchanged true", "tops true", "tops false", "nest true", "nest false", "sorts true", "sorts false")
}

func TestNumbersOfMost(t *testing.T) {
	counts := map[string]int{}
	for _, sig := range [][]impl.Control{{{Name: "k"}}, house()} {
		s := goodSortings(sig)[0]
		for _, list := range listsOfNumbers(0, 4, 5) {
			s.Most = []int{}
			for _, n := range list {
				s.Most = append(s.Most, []int{-1, 0, 1, 24, 25}[n])
			}
			counts[fmt.Sprint("most ", checkSorting(t, sig, s))]++
		}
		for _, n := range extremes() {
			s.Most = []int{n}
			counts[fmt.Sprint("one ", checkSorting(t, sig, s))]++
		}
	}
	wantAtLeast(t, counts, 50, "most true", "most false", "one true")
}

func TestPairsOfApart(t *testing.T) {
	counts := map[string]int{}
	pairs := [][2]int{{0, math.MaxInt}, {math.MinInt, 0}, {-1, 0}}
	for x := range 5 {
		for y := range 5 {
			pairs = append(pairs, [2]int{x, y})
		}
	}
	for _, s := range goodSortings(house()) {
		for _, list := range listsOfNumbers(0, len(pairs)-1, 2) {
			s.Apart = nil
			for _, n := range list {
				s.Apart = append(s.Apart, pairs[n])
			}
			counts[fmt.Sprint(len(s.Apart), " pairs ", checkSorting(t, house(), s))]++
		}
		for _, list := range listsOfNumbers(0, 5, 4) {
			s.Apart = nil
			for _, n := range list {
				s.Apart = append(s.Apart, allPairs(4)[n])
			}
			counts[fmt.Sprint(len(s.Apart), " pairs ", checkSorting(t, house(), s))]++
		}
	}
	for n := 1; n <= 4; n++ {
		wantAtLeast(t, counts, 10, fmt.Sprintf("%d pairs true", n), fmt.Sprintf("%d pairs false", n))
	}
}

func TestNamedEdgeCasesOfSortings(t *testing.T) {
	for _, e := range []struct {
		told   string
		valid  bool
		change func(*impl.Sorting)
	}{
		{"nothing is changed", true, func(*impl.Sorting) {}},
		{"no Tops", true, func(s *impl.Sorting) { s.Tops = nil }},
		{"no Controls in a list of Nest", true, func(s *impl.Sorting) { s.Nest[0] = []int{} }},
		{"no Controls in any list of Nest", true, func(s *impl.Sorting) { s.Nest = make([][]int, 6) }},
		{"a Control in itself alone", true, func(s *impl.Sorting) { s.Nest[0] = []int{0} }},
		{"a list of Nest for a Control of KindAtomic", false, func(s *impl.Sorting) { s.Nest[3] = []int{0} }},
		{"a list of Nest for the other Control of KindAtomic", false, func(s *impl.Sorting) { s.Nest[4] = []int{4} }},
		{"a list of Nest for a Control of KindPassive", true, func(s *impl.Sorting) { s.Nest[5] = []int{0, 5} }},
		{"Tops with a Control twice", false, func(s *impl.Sorting) { s.Tops = []int{0, 0} }},
		{"Tops that descend", false, func(s *impl.Sorting) { s.Tops = []int{1, 0} }},
		{"Tops that are no Controls", false, func(s *impl.Sorting) { s.Tops = []int{6} }},
		{"Tops below 0", false, func(s *impl.Sorting) { s.Tops = []int{-1, 0} }},
		{"a list of Nest with a Control twice", false, func(s *impl.Sorting) { s.Nest[0] = []int{2, 2} }},
		{"a list of Nest that descends", false, func(s *impl.Sorting) { s.Nest[5] = []int{5, 0} }},
		{"a list of Nest with 6", false, func(s *impl.Sorting) { s.Nest[5] = []int{0, 6} }},
		{"one list of Nest less", false, func(s *impl.Sorting) { s.Nest = s.Nest[:5] }},
		{"one list of Nest more", false, func(s *impl.Sorting) { s.Nest = append(s.Nest, nil) }},
		{"no lists of Nest", false, func(s *impl.Sorting) { s.Nest = nil }},
		{"one list of Sorts less", false, func(s *impl.Sorting) { s.Sorts = s.Sorts[:5] }},
		{"one list of Sorts more", false, func(s *impl.Sorting) { s.Sorts = append(s.Sorts, nil) }},
		{"no lists of Sorts", false, func(s *impl.Sorting) { s.Sorts = nil }},
		{"one sort less than ports", false, func(s *impl.Sorting) { s.Sorts[2] = []int{0} }},
		{"one sort more than ports", false, func(s *impl.Sorting) { s.Sorts[1] = []int{0, 0} }},
		{"a sort without ports", false, func(s *impl.Sorting) { s.Sorts[0] = []int{0} }},
		{"the last sort", true, func(s *impl.Sorting) { s.Sorts[1] = []int{3} }},
		{"a sort that is out of range", false, func(s *impl.Sorting) { s.Sorts[1] = []int{4} }},
		{"a sort below 0", false, func(s *impl.Sorting) { s.Sorts[2] = []int{0, -1} }},
		{"sorts without any port", true, func(s *impl.Sorting) { s.Sorts = goodSortings(house())[0].Sorts }},
		{"no sorts", false, func(s *impl.Sorting) { s.Most, s.Apart = nil, nil }},
		{"one sort more than MaxSorts", false, func(s *impl.Sorting) { s.Most = append(s.Most, 0) }},
		{"fewer sorts than ports have", false, func(s *impl.Sorting) { s.Most = s.Most[:3] }},
		{"numbers of Most that are 0", true, func(s *impl.Sorting) { s.Most = make([]int, 4) }},
		{"numbers of Most that are MaxOnLink", true, func(s *impl.Sorting) { s.Most = []int{24, 24, 24, 24} }},
		{"a number of Most that is one more", false, func(s *impl.Sorting) { s.Most[2] = 25 }},
		{"a number of Most below 0", false, func(s *impl.Sorting) { s.Most[3] = -1 }},
		{"no pairs of Apart", true, func(s *impl.Sorting) { s.Apart = nil }},
		{"all pairs of Apart", true, func(s *impl.Sorting) { s.Apart = allPairs(4) }},
		{"pairs that descend", false, func(s *impl.Sorting) { s.Apart = [][2]int{{1, 2}, {0, 1}} }},
		{"pairs whose second sorts descend", false, func(s *impl.Sorting) { s.Apart = [][2]int{{0, 2}, {0, 1}} }},
		{"pairs whose second sorts alone descend", true, func(s *impl.Sorting) { s.Apart = [][2]int{{0, 3}, {1, 2}} }},
		{"a pair twice", false, func(s *impl.Sorting) { s.Apart = [][2]int{{0, 1}, {0, 1}} }},
		{"a pair with the greater sort first", false, func(s *impl.Sorting) { s.Apart = [][2]int{{1, 0}} }},
		{"a pair with the same sort twice", false, func(s *impl.Sorting) { s.Apart = [][2]int{{1, 1}} }},
		{"a pair with a sort that is out of range", false, func(s *impl.Sorting) { s.Apart = [][2]int{{0, 4}} }},
		{"a pair with a sort below 0", false, func(s *impl.Sorting) { s.Apart = [][2]int{{-1, 0}} }},
	} {
		s := cloneOfSorting(sorting(t, strictHouse))
		e.change(&s)
		if got := checkSorting(t, house(), s); got != e.valid {
			t.Errorf("IsSorting = %v if the Sorting has %s", got, e.told)
		}
	}
	if impl.IsSorting(house(), impl.Sorting{}) || impl.IsSorting(nil, impl.Sorting{Most: []int{0}}) {
		t.Error("IsSorting = true for nothing")
	}
}

func TestVastSortings(t *testing.T) {
	many := 1000000
	for _, change := range []func(*impl.Sorting){
		func(s *impl.Sorting) { s.Tops = make([]int, many) },
		func(s *impl.Sorting) { s.Tops = numbersFrom(0, many) },
		func(s *impl.Sorting) { s.Nest = make([][]int, many) },
		func(s *impl.Sorting) { s.Nest[0] = numbersFrom(0, many) },
		func(s *impl.Sorting) { s.Sorts = make([][]int, many) },
		func(s *impl.Sorting) { s.Sorts[1] = make([]int, many) },
		func(s *impl.Sorting) { s.Most = make([]int, many) },
		func(s *impl.Sorting) { s.Apart = make([][2]int, many) },
		func(s *impl.Sorting) { s.Apart = slices.Repeat([][2]int{{0, 1}}, many) },
	} {
		s := sorting(t, strictHouse)
		change(&s)
		if impl.IsSorting(house(), s) {
			t.Error("IsSorting = true for a vast list")
		}
		wantFailures(t, sortingCalls(house(), s, s, impl.Bigraph{}, impl.Bigraph{}), "a vast list")
		wantFailures(t, sortedCalls(house(), s, impl.Bigraph{Roots: 1}, -1), "a vast list")
	}
}

func TestFreeSorting(t *testing.T) {
	for _, sig := range append(smallSignatures(), []impl.Control{{Name: "tops"}}, []impl.Control{{Name: "most", Ports: 3}, {Name: "b", Kind: impl.KindAtomic}}) {
		free, ok := impl.FreeSorting(sig)
		if !ok || !checkSorting(t, sig, free) {
			t.Fatalf("FreeSorting(%v) = %v, %v", sig, free, ok)
		}
		wantSorting(t, free, ok, freeAs(sig), true, "FreeSorting(%v)", sig)
	}
	free, ok := impl.FreeSorting(house())
	text, fine := impl.SortingText(house(), free)
	wantText(t, text, ok && fine, freeHouse, true, "SortingText of FreeSorting")
	one := []impl.Control{{Name: "k", Ports: 2, Kind: impl.KindAtomic}}
	free, ok = impl.FreeSorting(one)
	text, fine = impl.SortingText(one, free)
	wantText(t, text, ok && fine, "tops k; k:00; most 24; apart", true, "SortingText of FreeSorting")
	for _, b := range append(formSamples(), pensUnder(8, 16, 8, 1), pensOn(8)) {
		sorted, ok := impl.IsSorted(house(), sorting(t, freeHouse), b)
		wantReport(t, sorted, ok, true, "IsSorted(%v)", b)
	}
}

// freeAs allows everything, with the sort 0 for all ports.
func freeAs(sig []impl.Control) impl.Sorting {
	free := goodSortings(sig)[0]
	for c, list := range free.Sorts {
		free.Sorts[c] = make([]int, len(list))
	}
	return free
}

// pensOn has so many pens whose ports are all on the outer name x.
func pensOn(n int) impl.Bigraph {
	return impl.Bigraph{Roots: 1, Nodes: slices.Repeat([]impl.Node{{Control: 3, Parent: -1, Links: []int{0, 0, 0}}}, n), Outer: []string{"x"}}
}

// faultWords writes faults in short.
func faultWords(faults []impl.Fault) string {
	words := []string{}
	for _, f := range faults {
		kind := []string{"none", "top", "nest", "many", "apart"}[f.Kind]
		words = append(words, fmt.Sprintf("%s %d %d", kind, f.At, f.With))
	}
	return strings.Join(words, ", ")
}

func TestFaultExamples(t *testing.T) {
	for _, e := range []struct{ rules, b, faults string }{
		{strictHouse, nothing, ""},
		{strictHouse, "0; sites; 8; outer x y; inner a=0 b=0 c=8", ""},
		{strictHouse, "4; sites -1 -2 -3 -3; 0; outer; inner", ""},
		{strictHouse, oneRoom, ""},
		{strictHouse, "1; room@-1; key@0 0; sites 0 1; 1; outer; inner", ""},
		{strictHouse, "1; room@-1; key@0 0; sites; 0; outer x; inner a=0 b=0 c=0", ""},
		{strictHouse, keyOfX, "top 0 0"},
		{strictHouse, "3; room@-1; key@-3 0; dot@-3; room@-2; sites; 0; outer x; inner", "top 1 2, top 2 2"},
		{strictHouse, "4; dot@-4; sites; 0; outer; inner", "top 0 3"},
		{strictHouse, "1; room@-1; door@0 0 1; sites; 2; outer; inner", "nest 1 0"},
		{strictHouse, "1; room@-1; room@0; door@1 0 1; sites; 2; outer; inner", "nest 2 1"},
		{strictHouse, "2; room@-1; dot@-2; key@0 0; dot@2; key@-2 0; sites; 1; outer; inner", "top 1 1, nest 3 2, top 4 1"},
		{strictHouse, "1; room@-1; key@0 0; key@1 0; sites; 1; outer; inner", ""},
		{strictHouse, "1; room@-1; key@0 0; key@1 0; key@2 0; sites; 1; outer; inner", "many 0 0"},
		{strictHouse, "1; room@-1; key@0 1; key@1 1; key@2 1; sites; 1; outer x; inner", "many 1 0"},
		{strictHouse, "1; door@-1 0 0; sites; 1; outer; inner", "apart 0 0"},
		{strictHouse, "1; door@-1 0 1; pen@0 2 2 3; sites; 3; outer x; inner", "many 2 1"},
		{strictHouse, "1; door@-1 0 1; pen@0 2 3 4; pen@0 5 6 4; sites; 8; outer x; inner", ""},
		{strictHouse, "1; door@-1 0 1; pen@0 2 2 2; sites; 2; outer x; inner", "many 2 1, apart 2 1"},
		{strictHouse, "1; box@-1 0; sites; 1; outer; inner", "top 0 0, many 0 3"},
		{strictHouse, "1; door@-1 0 0; door@-1 0 0; door@-1 1 0; sites; 2; outer; inner", "many 0 1, apart 0 0"},
		{strictHouse, "1; door@-1 0 1; door@-1 0 1; door@-1 0 1; pen@2 2 2 1; sites; 2; outer x; inner", "many 0 0, many 1 1, apart 1 1, many 2 1"},
		{strictHouse, "1; room@-1; key@0 0; pen@0 0 0 0; sites; 1; outer; inner", "nest 2 0, many 0 1, apart 0 0, apart 0 1"},
		{emptyHouse, "4; sites -1 -4; 8; outer a; inner q=8", ""},
		{emptyHouse, "1; room@-1; sites; 0; outer; inner", "top 0 0"},
		{emptyHouse, "1; box@-1 1; room@0; sites; 1; outer x; inner", "top 0 0, nest 1 0, many 1 0"},
		{freeHouse, "2; box@-1 0; room@0; pen@1 0 0 0; sites; 1; outer; inner", ""},
	} {
		s, b := sorting(t, e.rules), read(t, e.b)
		faults, ok := impl.FaultsOf(house(), s, b)
		if got := faultWords(faults); got != e.faults || !ok {
			t.Errorf("FaultsOf(%s, %s) = %s, %v; want %s", e.rules, e.b, got, ok, e.faults)
		}
		checkFaults(t, s, b)
	}
}

// checkFaults checks all that is said of a Sorting and a Bigraph over house.
func checkFaults(t *testing.T, s impl.Sorting, b impl.Bigraph) string {
	t.Helper()
	want := faultsAs(s, b)
	faults, ok := impl.FaultsOf(house(), s, b)
	if !slices.Equal(faults, want) || !ok {
		t.Fatalf("FaultsOf(%v, %v) = %v, %v; want %v", s, b, faults, ok, want)
	}
	sorted, ok := impl.IsSorted(house(), s, b)
	wantReport(t, sorted, ok, len(want) == 0, "IsSorted(%v, %v)", s, b)
	inside, ok := impl.IsSortedInside(house(), s, b)
	wantReport(t, inside, ok, isSortedInsideAs(s, b), "IsSortedInside(%v, %v)", s, b)
	switch {
	case sorted:
		return "sorted"
	case inside:
		return "inside"
	}
	return "faults"
}

// checkNumbers checks the ports of all links, and the choices in all places, and that there are
// no others.
func checkNumbers(t *testing.T, s impl.Sorting, b impl.Bigraph) {
	t.Helper()
	for _, n := range extremes() {
		isLink := 0 <= n && n < b.Edges+len(b.Outer)
		counts, ok := impl.SortsOn(house(), s, b, n)
		wantInts(t, counts, ok, sortsAs(s, b, n), isLink, "SortsOn(%v, %v, %d)", s, b, n)
		choices, ok := impl.ChoicesIn(house(), s, b, n)
		want, isPlace := s.Tops, -b.Roots <= n && n < len(b.Nodes)
		if isPlace && n >= 0 {
			want = s.Nest[b.Nodes[n].Control]
		}
		wantInts(t, choices, ok, want, isPlace, "ChoicesIn(%v, %v, %d)", s, b, n)
	}
}

func TestFaultsOfSamples(t *testing.T) {
	t.Parallel()
	r, counts := rand.New(rand.NewSource(100)), map[string]int{}
	for i, b := range append(formSamples(), alikeSamples(101, 1000, 8)...) {
		s := randomSorting(r)
		counts[checkFaults(t, s, b)]++
		if i%4 == 0 {
			checkNumbers(t, s, b)
			// Almost all that b needs, or a little more.
			near := nearSorting(r, leastAs(s.Sorts, len(s.Most), b), r.Intn(4))
			counts["near "+checkFaults(t, near, b)]++
		}
		for _, f := range faultsAs(s, b) {
			counts[fmt.Sprint("kind ", f.Kind)]++
		}
	}
	wantAtLeast(t, counts, 100, "sorted", "inside", "faults", "near sorted", "near inside", "near faults", "kind 1", "kind 2", "kind 3", "kind 4")
}

func TestLinksWithAllPorts(t *testing.T) {
	for n := range 9 {
		for _, rules := range []string{freeHouse, emptyHouse, strictHouse} {
			s, b := sorting(t, rules), pensOn(n)
			for most := range 25 {
				s.Most[0] = most
				checkFaults(t, s, b)
			}
			checkNumbers(t, s, b)
		}
	}
	s := sorting(t, freeHouse)
	if sorted, ok := impl.IsSorted(house(), s, pensOn(8)); !sorted || !ok {
		t.Error("24 ports are too many")
	}
	s.Most[0] = 23
	faults, ok := impl.FaultsOf(house(), s, pensOn(8))
	if got := faultWords(faults); got != "many 0 0" || !ok {
		t.Error("24 ports where 23 are allowed:", got)
	}
	for _, n := range []int{0, 1, 7} {
		checkNumbers(t, sorting(t, strictHouse), impl.Bigraph{Edges: n, Outer: namesUpTo(2 * n)})
	}
}

func TestPortsAndChoicesExamples(t *testing.T) {
	s, b := sorting(t, strictHouse), read(t, "2; room@-1; key@0 0; door@-2 0 1; pen@2 1 1 1; dot@0; box@-1 4; sites; 4; outer x y; inner q=5")
	for link, want := range [][]int{{2, 0, 0, 0}, {0, 3, 1, 0}, {0, 0, 0, 0}, {0, 0, 0, 0}, {0, 0, 0, 1}, {0, 0, 0, 0}} {
		counts, ok := impl.SortsOn(house(), s, b, link)
		wantInts(t, counts, ok, want, true, "SortsOn(%d)", link)
	}
	for place, want := range map[int][]int{-2: {0, 2}, -1: {0, 2}, 0: {0, 1, 4}, 1: {1}, 2: {3}, 3: {}, 4: {}, 5: {}} {
		choices, ok := impl.ChoicesIn(house(), s, b, place)
		wantInts(t, choices, ok, want, true, "ChoicesIn(%d)", place)
	}
	for _, n := range []int{-3, 6, math.MinInt, math.MaxInt} {
		wantFailures(t, sortedCalls(house(), s, b, n)[3:], "the number %d", n)
	}
	counts, ok := impl.SortsOn(house(), s, b, -1)
	wantInts(t, counts, ok, nil, false, "SortsOn(-1)")
	choices, ok := impl.ChoicesIn(house(), s, impl.Bigraph{}, -1)
	wantInts(t, choices, ok, nil, false, "ChoicesIn without roots")
	counts, ok = impl.SortsOn(house(), s, impl.Bigraph{Roots: 4}, 0)
	wantInts(t, counts, ok, nil, false, "SortsOn without links")
}

// checkFits checks FitsSorted for two Bigraphs over house.
func checkFits(t *testing.T, s impl.Sorting, a impl.Bigraph, b impl.Bigraph) string {
	t.Helper()
	want, possible := fitsSortedAs(s, a, b)
	fits, ok := impl.FitsSorted(house(), s, a, b)
	if fits != want || ok != possible {
		t.Fatalf("FitsSorted(%v, %v, %v) = %v, %v; want %v, %v", s, a, b, fits, ok, want, possible)
	}
	if !ok {
		return "fails"
	}
	return fmt.Sprint(fits)
}

func TestFitsSortedExamples(t *testing.T) {
	for _, e := range []struct{ told, a, b, want string }{
		{"nothing", nothing, nothing, "true"},
		{"a site under a root", "1; sites -1; 0; outer; inner", "1; room@-1; sites; 0; outer; inner", "true"},
		{"a site under a root, which a key may not be under", "1; sites -1; 0; outer; inner", "1; key@-1 0; sites; 1; outer; inner", "false"},
		{"a site in a node", oneRoom, "1; key@-1 0; sites; 1; outer; inner", "true"},
		{"a site in a node, which a door may not be in", oneRoom, "1; door@-1 0 1; sites; 2; outer; inner", "false"},
		{"a site in a node that allows nothing", "1; room@-1; key@0 0; sites 1; 1; outer; inner", "1; dot@-1; sites; 0; outer; inner", "false"},
		{"nothing in a node that allows nothing", "1; room@-1; key@0 0; sites 1; 1; outer; inner", "1; sites -1; 0; outer; inner", "true"},
		{"a site under another one", oneRoom, "1; room@-1; sites -1 0; 0; outer; inner", "true"},
		{"sites in their order", "1; room@-1; sites 0 -1; 0; outer; inner", "2; key@-1 0; door@-2 1 2; sites; 3; outer; inner", "true"},
		{"sites in the other order", "1; room@-1; sites -1 0; 0; outer; inner", "2; key@-1 0; door@-2 1 2; sites; 3; outer; inner", "false"},
		{"the last child is wrong", oneRoom, "1; room@-1; key@-1 0; dot@-1; door@-1 1 2; sites; 3; outer; inner", "false"},
		{"two sites in one node", "1; room@-1; sites 0 0; 0; outer; inner", "2; key@-1 0; dot@-2; sites; 1; outer; inner", "true"},
		{"nodes under nodes are not looked at again", "1; room@-1; sites 0; 0; outer; inner", "1; room@-1; key@0 0; key@1 0; sites; 1; outer; inner", "true"},

		{"two ports on an edge", "1; room@-1; key@0 0; sites 0; 1; outer; inner x=0", keyOfX, "true"},
		{"three ports on an edge", "1; room@-1; key@0 0; sites 0; 1; outer; inner x=0", "1; key@-1 0; key@-1 0; sites; 0; outer x; inner", "false"},
		{"three ports on an outer name", "1; room@-1; key@0 0; sites 0; 0; outer y; inner x=0", "1; key@-1 0; key@-1 0; sites; 0; outer x; inner", "false"},
		{"two outer names that come to one link", "1; room@-1; sites 0; 1; outer; inner x=0 y=0", "1; key@-1 0; key@-1 1; sites; 0; outer x y; inner", "true"},
		{"two outer names with too many ports together", "1; room@-1; sites 0; 1; outer; inner x=0 y=0", "1; key@-1 0; key@-1 0; key@-1 1; sites; 0; outer x y; inner", "false"},
		{"two outer names that stay apart", "1; room@-1; sites 0; 2; outer; inner x=0 y=1", "1; key@-1 0; key@-1 0; key@-1 1; sites; 0; outer x y; inner", "true"},
		{"three outer names with too many ports together", "1; room@-1; sites 0; 0; outer o; inner x=0 y=0 z=0", "1; key@-1 0; key@-1 1; key@-1 2; sites; 0; outer x y z; inner", "false"},
		{"edges of b have their own ports", "1; room@-1; key@0 0; key@0 0; sites 0; 1; outer; inner", "1; key@-1 0; key@-1 0; sites; 1; outer; inner", "true"},
		{"an edge of b before its outer name", "1; room@-1; key@0 0; key@0 0; sites 0; 1; outer; inner x=0", "1; key@-1 0; key@-1 0; sites; 1; outer x; inner", "true"},
		{"an outer name behind an edge of b", "1; room@-1; key@0 0; key@0 0; sites 0; 1; outer; inner x=0", "1; key@-1 0; key@-1 1; sites; 1; outer x; inner", "false"},
		{"inner names of b have no sorts", "1; room@-1; key@0 0; key@0 0; sites 0; 1; outer; inner x=0", "1; sites; 0; outer x; inner p=0 q=0", "true"},
		{"sorts that may be together", "1; room@-1; door@-1 0 1; sites 0; 2; outer; inner x=0", keyOfX, "true"},
		{"sorts of a and b that are apart", "1; room@-1; door@-1 0 1; sites 0; 2; outer; inner x=1", keyOfX, "false"},
		{"sorts of two outer names that are apart", "2; room@-1; sites 0 -2; 1; outer; inner x=0 y=0 z=0", "2; key@-1 0; door@-2 1 2; sites; 0; outer x y z; inner", "false"},
		{"sorts of two outer names on two links", "2; room@-1; sites 0 -2; 2; outer; inner x=0 y=0 z=1", "2; key@-1 0; door@-2 1 2; sites; 0; outer x y z; inner", "true"},
		{"a wiring after a wiring", "0; sites; 1; outer; inner x=0 y=0", "0; sites; 0; outer x y; inner a=0", "true"},
		{"more nodes than a Bigraph has", "1; room@-1; room@0; room@0; room@0; room@0; sites 0; 0; outer; inner", "1; room@-1; room@0; room@0; room@0; room@0; sites; 0; outer; inner", "true"},
		{"more edges than a Bigraph has", "1; room@-1; sites 0; 5; outer; inner", "1; dot@-1; sites; 5; outer; inner", "true"},

		{"a site more than roots", "1; room@-1; sites 0 0; 0; outer; inner", "1; dot@-1; sites; 0; outer; inner", "fails"},
		{"a root more than sites", emptyRoom, "1; dot@-1; sites; 0; outer; inner", "fails"},
		{"an outer name more", oneRoom, keyOfX, "fails"},
		{"an inner name more", "1; room@-1; sites 0; 1; outer; inner x=0 y=0", keyOfX, "fails"},
		{"another name", "1; room@-1; sites 0; 1; outer; inner y=0", keyOfX, "fails"},
		{"a is not sorted at its top", "1; key@-1 0; sites 0; 1; outer; inner", "1; key@-1 0; sites; 1; outer; inner", "fails"},
		{"a is not sorted inside", "1; room@-1; key@0 0; dot@1; sites 0; 1; outer; inner", "1; dot@-1; sites; 0; outer; inner", "fails"},
		{"a has a link that is not sorted", "1; room@-1; door@-1 0 0; sites 0; 1; outer; inner", "1; dot@-1; sites; 0; outer; inner", "fails"},
		{"b is not sorted inside", oneRoom, "1; key@-1 0; dot@0; sites; 1; outer; inner", "fails"},
		{"b has an edge with too many ports", oneRoom, "1; key@-1 0; key@-1 0; key@-1 0; sites; 1; outer; inner", "fails"},
		{"b has an outer name with too many ports", "1; room@-1; sites 0; 1; outer; inner x=0", "1; key@-1 0; key@-1 0; key@-1 0; sites; 0; outer x; inner", "fails"},
		{"b has an edge with sorts that are apart", "1; sites -1; 0; outer; inner", "1; door@-1 0 0; sites; 1; outer; inner", "fails"},
		{"b is not sorted inside, and does not fit", oneRoom, "2; key@-1 0; dot@0; sites; 1; outer; inner", "fails"},
	} {
		if got := checkFits(t, sorting(t, strictHouse), read(t, e.a), read(t, e.b)); got != e.want {
			t.Errorf("%s: FitsSorted(%s, %s) = %s", e.told, e.a, e.b, got)
		}
	}
}

func TestFitsSortedFor24Ports(t *testing.T) {
	// Three times 24 ports on one link are too many for all numbers of Most.
	names := []string{"x", "y"}
	b := impl.Bigraph{Roots: 1, Outer: names}
	for k := range 8 {
		b.Nodes = append(b.Nodes, impl.Node{Control: 3, Parent: -1, Links: slices.Repeat([]int{k % 2}, 3)})
	}
	a := pensOn(8)
	a.Sites, a.Inner = []int{-1}, []impl.Wire{{Name: "x"}, {Name: "y"}}
	s := sorting(t, freeHouse)
	if got := checkFits(t, s, a, b); got != "false" {
		t.Error("48 ports on one link:", got)
	}
	a.Nodes = nil
	if got := checkFits(t, s, a, b); got != "true" {
		t.Error("24 ports on one link:", got)
	}
	s.Most[0] = 23
	if got := checkFits(t, s, a, b); got != "false" {
		t.Error("24 ports where 23 are allowed:", got)
	}
}

func TestFitsSortedForSamples(t *testing.T) {
	t.Parallel()
	r, counts := rand.New(rand.NewSource(102)), map[string]int{}
	for range 2500 {
		c := randomChain(r, 2, 1+r.Intn(8), 4, pick(r, chainWords()))
		many := 1 + r.Intn(4)
		sorts := randomSorts(r, many)
		whole := drawnAfter(c[0], c[1]).numbered()
		near := nearSorting(r, leastAs(sorts, many, c[0], whole), r.Intn(9))
		// Without roots, there are no tops that leastAs must allow.
		inside := cloneOf(c[1])
		inside.Roots = 0
		strict := nearSorting(r, leastAs(sorts, many, c[0], inside), r.Intn(3))
		counts["near "+checkFits(t, near, c[0], c[1])]++
		counts["strict "+checkFits(t, strict, c[0], c[1])]++
		counts["free "+checkFits(t, looseSorting(sorts, many), c[0], c[1])]++
		counts["any "+checkFits(t, randomSorting(r), c[0], c[1])]++
		counts["unfit "+checkFits(t, near, c[1], c[0])]++
	}
	wantAtLeast(t, counts, 80, "near false", "any false")
	wantAtLeast(t, counts, 300, "near true", "near fails", "strict true", "strict false", "strict fails", "free true", "any true", "any fails", "unfit fails")
}

func TestLeastSortingExamples(t *testing.T) {
	for _, e := range []struct {
		bigraphs []string
		many     int
		want     string
	}{
		{[]string{nothing}, 1, emptyHouse},
		{[]string{nothing, "4; sites -1 -2; 8; outer x; inner y=0"}, 1, emptyHouse},
		{[]string{nothing}, 3, "tops; room:; key:0; door:00; pen:000; dot:; box:0; most 0 0 0; apart 0-1 0-2 1-2"},
		{[]string{emptyRoom}, 1, "tops room; room:; key:0; door:00; pen:000; dot:; box:0; most 0; apart"},
		{[]string{keyOfX}, 2, "tops key; room:; key:0; door:00; pen:000; dot:; box:0; most 1 0; apart 0-1"},
		{[]string{keyOfX, emptyRoom}, 1, "tops room key; room:; key:0; door:00; pen:000; dot:; box:0; most 1; apart"},
		{[]string{emptyRoom, keyOfX}, 1, "tops room key; room:; key:0; door:00; pen:000; dot:; box:0; most 1; apart"},
		{[]string{keyOfX, nothing, "1; room@-1; key@0 0; key@0 0; dot@1; sites; 1; outer; inner"}, 4, "tops room key; room: key; key:0 dot; door:00; pen:000; dot:; box:0; most 2 0 0 0; apart 0-1 0-2 0-3 1-2 1-3 2-3"},
		{[]string{"2; box@-2 0; box@0 0; pen@1 1 1 1; sites; 2; outer; inner"}, 1, "tops box; room:; key:0; door:00; pen:000; dot:; box:0 pen box; most 3; apart"},
		{slices.Repeat([]string{keyOfX}, 8), 1, "tops key; room:; key:0; door:00; pen:000; dot:; box:0; most 1; apart"},
	} {
		list := []impl.Bigraph{}
		for _, text := range e.bigraphs {
			list = append(list, read(t, text))
		}
		want := sorting(t, e.want)
		got, ok := impl.LeastSorting(house(), want.Sorts, e.many, list)
		wantSorting(t, got, ok, want, true, "LeastSorting of %v", e.bigraphs)
	}
}

func TestLeastSortingOfSorts(t *testing.T) {
	sorts := sorting(t, strictHouse).Sorts
	for _, e := range []struct{ b, want string }{
		{"1; door@-1 0 1; sites; 2; outer; inner", "most 1 1 0 0; apart 0-1 0-2 0-3 1-2 1-3 2-3"},
		{"1; door@-1 0 0; sites; 2; outer; inner", "most 1 1 0 0; apart 0-2 0-3 1-2 1-3 2-3"},
		{"1; pen@-1 0 0 1; sites; 2; outer; inner", "most 0 2 1 0; apart 0-1 0-2 0-3 1-2 1-3 2-3"},
		{"1; pen@-1 0 0 0; key@-1 0; sites; 1; outer; inner", "most 1 2 1 0; apart 0-3 1-3 2-3"},
		{"1; box@-1 0; key@-1 0; key@-1 0; door@-1 1 0; sites; 1; outer x; inner", "most 2 1 0 1; apart 0-2 1-2 2-3"},
		{"1; key@-1 0; key@-1 0; key@-1 1; key@-1 1; key@-1 1; sites; 1; outer x; inner", "most 3 0 0 0; apart 0-1 0-2 0-3 1-2 1-3 2-3"},
	} {
		got, ok := impl.LeastSorting(house(), sorts, 4, []impl.Bigraph{read(t, e.b)})
		text := sortingWords(house(), got)
		if _, last, _ := strings.Cut(text, "; most "); !ok || "most "+last != e.want {
			t.Errorf("LeastSorting of %s = %s, %v; want %s", e.b, text, ok, e.want)
		}
	}
}

func TestLeastSortingOfSamples(t *testing.T) {
	t.Parallel()
	r, samples := rand.New(rand.NewSource(103)), append(formSamples(), alikeSamples(104, 500, 8)...)
	for i := range 1500 {
		many, list := 1+r.Intn(4), []impl.Bigraph{}
		sorts := randomSorts(r, many)
		for range 1 + i%8 {
			list = append(list, pick(r, samples))
		}
		got, ok := impl.LeastSorting(house(), sorts, many, list)
		wantSorting(t, got, ok, leastAs(sorts, many, list...), true, "LeastSorting(%v, %d, %v)", sorts, many, list)
		checkSorting(t, house(), got)
	}
}

func TestLeastSortingFails(t *testing.T) {
	good, sorts := read(t, keyOfX), sorting(t, freeHouse).Sorts
	check := func(told string, sig []impl.Control, sorts [][]int, many int, list []impl.Bigraph, possible bool) {
		t.Helper()
		got, ok := impl.LeastSorting(sig, sorts, many, list)
		want := impl.Sorting{}
		if possible {
			want = leastAs(sorts, many, list...)
		}
		wantSorting(t, got, ok, want, possible, "LeastSorting of %s", told)
	}
	for _, n := range []int{0, 1, 7, 8, 9, 100000} {
		check(fmt.Sprint(n, " Bigraphs"), house(), sorts, 1, slices.Repeat([]impl.Bigraph{good}, n), 1 <= n && n <= 8)
	}
	for _, many := range extremes() {
		check(fmt.Sprint(many, " sorts"), house(), sorts, many, []impl.Bigraph{good}, 1 <= many && many <= 4)
	}
	for i := range 8 {
		for _, bad := range brokenBigraphs() {
			list := slices.Repeat([]impl.Bigraph{good}, 8)
			list[i] = bad
			check("a Bigraph that is not valid", house(), sorts, 1, list, false)
		}
	}
	last := sorting(t, strictHouse).Sorts
	for many := 1; many <= 5; many++ {
		check("the last sort", house(), last, many, []impl.Bigraph{good}, many == 4)
	}
	for _, n := range []int{-1, 1, 2, math.MaxInt, math.MinInt} {
		other := cloneOfLists(sorts)
		other[3][1] = n
		check(fmt.Sprint("a port of the sort ", n), house(), other, 2, []impl.Bigraph{good}, n == 1)
	}
	for c := range sorts {
		less, more := cloneOfLists(sorts), cloneOfLists(sorts)
		more[c] = append(more[c], 0)
		check("a sort too many", house(), more, 1, []impl.Bigraph{good}, false)
		if len(less[c]) > 0 {
			less[c] = less[c][1:]
			check("a sort too few", house(), less, 1, []impl.Bigraph{good}, false)
		}
	}
	for _, lists := range [][][]int{nil, sorts[:5], append(cloneOfLists(sorts), nil), make([][]int, 1000000)} {
		check("another number of Sorts", house(), lists, 1, []impl.Bigraph{{}}, false)
	}
	for _, sig := range badSignatures() {
		check("no signature", sig, make([][]int, len(sig)), 1, []impl.Bigraph{{}}, false)
	}
	check("another signature", ionControls(), [][]int{{0}}, 1, []impl.Bigraph{good, twoRooms()}, false)
}

func TestFinerSortingExamples(t *testing.T) {
	base := sorting(t, "tops room key; room: room key; key:0; door:01 key; pen:012; dot:; box:0 dot box; most 1 24 0; apart 0-1 1-2")
	for _, e := range []struct {
		told                 string
		change               func(*impl.Sorting)
		finer, coarser, same bool
	}{
		{"nothing else", func(*impl.Sorting) {}, true, true, true},
		{"one of the Tops less", func(s *impl.Sorting) { s.Tops = []int{1} }, true, false, true},
		{"no Tops", func(s *impl.Sorting) { s.Tops = nil }, true, false, true},
		{"one of the Tops more", func(s *impl.Sorting) { s.Tops = []int{0, 1, 5} }, false, true, true},
		{"another one of the Tops", func(s *impl.Sorting) { s.Tops = []int{0, 2} }, false, false, true},
		{"a Control less in a list of Nest", func(s *impl.Sorting) { s.Nest[5] = []int{5} }, true, false, true},
		{"no Controls in a list of Nest", func(s *impl.Sorting) { s.Nest[2] = nil }, true, false, true},
		{"a Control in an empty list of Nest", func(s *impl.Sorting) { s.Nest[1] = []int{3} }, false, true, true},
		{"another Control in a list of Nest", func(s *impl.Sorting) { s.Nest[2] = []int{0} }, false, false, true},
		{"a less number of Most", func(s *impl.Sorting) { s.Most[1] = 23 }, true, false, true},
		{"a greater number of Most", func(s *impl.Sorting) { s.Most[2] = 1 }, false, true, true},
		{"a greater and a less number of Most", func(s *impl.Sorting) { s.Most = []int{0, 24, 1} }, false, false, true},
		{"a pair of Apart more", func(s *impl.Sorting) { s.Apart = allPairs(3) }, true, false, true},
		{"a pair of Apart less", func(s *impl.Sorting) { s.Apart = [][2]int{{1, 2}} }, false, true, true},
		{"no pairs of Apart", func(s *impl.Sorting) { s.Apart = nil }, false, true, true},
		{"another pair of Apart", func(s *impl.Sorting) { s.Apart = [][2]int{{0, 2}, {1, 2}} }, false, false, true},
		{"Tops less and a list of Nest more", func(s *impl.Sorting) { s.Tops, s.Nest[1] = nil, []int{0} }, false, false, true},
		{"Tops more and a pair of Apart more", func(s *impl.Sorting) { s.Tops, s.Apart = []int{0, 1, 2}, allPairs(3) }, false, false, true},
		{"everything less", func(s *impl.Sorting) {
			s.Tops, s.Nest, s.Most, s.Apart = nil, make([][]int, 6), make([]int, 3), allPairs(3)
		}, true, false, true},
		{"another sort of a port", func(s *impl.Sorting) { s.Sorts[3] = []int{0, 2, 2} }, false, false, false},
		{"another sort of a port, and everything less", func(s *impl.Sorting) {
			s.Sorts[1], s.Tops, s.Nest, s.Most, s.Apart = []int{1}, nil, make([][]int, 6), make([]int, 3), allPairs(3)
		}, false, false, false},
		{"a sort more", func(s *impl.Sorting) { s.Most = append(s.Most, 0) }, false, false, false},
	} {
		other := cloneOfSorting(base)
		e.change(&other)
		finer, ok := impl.IsFiner(house(), other, base)
		wantReport(t, finer, ok, e.finer, "IsFiner with %s", e.told)
		coarser, ok := impl.IsFiner(house(), base, other)
		wantReport(t, coarser, ok, e.coarser, "IsFiner of one with %s", e.told)
		checkLattice(t, other, base)
		if got := isAlikeAs(other, base); got != e.same {
			t.Errorf("with %s, the Sorts are the same: %v", e.told, got)
		}
	}
}

// checkLattice checks IsFiner, MeetOf and JoinOf for two valid Sortings over house.
func checkLattice(t *testing.T, s impl.Sorting, u impl.Sorting) string {
	t.Helper()
	alike, want := isAlikeAs(s, u), isFinerAs(s, u)
	finer, ok := impl.IsFiner(house(), s, u)
	wantReport(t, finer, ok, want, "IsFiner(%v, %v)", s, u)
	meet, meetOK := impl.MeetOf(house(), s, u)
	join, joinOK := impl.JoinOf(house(), s, u)
	if !alike {
		wantSorting(t, meet, meetOK, impl.Sorting{}, false, "MeetOf(%v, %v)", s, u)
		wantSorting(t, join, joinOK, impl.Sorting{}, false, "JoinOf(%v, %v)", s, u)
		return "others"
	}
	wantSorting(t, meet, meetOK, meetAs(s, u), true, "MeetOf(%v, %v)", s, u)
	wantSorting(t, join, joinOK, joinAs(s, u), true, "JoinOf(%v, %v)", s, u)
	return fmt.Sprint(finer)
}

func TestFinerSortingsMeetsAndJoinsOfSamples(t *testing.T) {
	t.Parallel()
	r, counts := rand.New(rand.NewSource(105)), map[string]int{}
	for range 3000 {
		s := randomSorting(r)
		near := nearSorting(r, s, r.Intn(4))
		other := randomSortingWith(r, s.Sorts, len(s.Most))
		counts["near "+checkLattice(t, s, near)]++
		counts["near "+checkLattice(t, near, s)]++
		counts["other "+checkLattice(t, s, other)]++
		counts["any "+checkLattice(t, s, randomSorting(r))]++
	}
	wantAtLeast(t, counts, 300, "near true", "near false", "other false", "any others")
}

func TestMeetAndJoinExamples(t *testing.T) {
	s := "tops room key; room: room dot; key:0; door:01 key pen; pen:012; dot:; box:0; most 1 24 0; apart 0-1 1-2"
	u := "tops room dot; room:; key:0 room; door:01 pen box; pen:012; dot:; box:0; most 2 3 0; apart 0-2 1-2"
	meet, ok := impl.MeetOf(house(), sorting(t, s), sorting(t, u))
	wantSorting(t, meet, ok, sorting(t, "tops room; room:; key:0; door:01 pen; pen:012; dot:; box:0; most 1 3 0; apart 0-1 0-2 1-2"), true, "MeetOf")
	join, ok := impl.JoinOf(house(), sorting(t, s), sorting(t, u))
	wantSorting(t, join, ok, sorting(t, "tops room key dot; room: room dot; key:0 room; door:01 key pen box; pen:012; dot:; box:0; most 2 24 0; apart 1-2"), true, "JoinOf")
	disjoint, ok := impl.MeetOf(house(), sorting(t, strings.Replace(emptyHouse, "tops", "tops room", 1)), sorting(t, strings.Replace(emptyHouse, "tops", "tops key", 1)))
	wantSorting(t, disjoint, ok, sorting(t, emptyHouse), true, "MeetOf without common Tops")
}

// checkParsedSorting checks whether a text is read.
func checkParsedSorting(t *testing.T, sig []impl.Control, text string) bool {
	t.Helper()
	want, possible := sortingOfText(sig, text)
	s, ok := impl.ParseSorting(sig, text)
	wantSorting(t, s, ok, want, possible, "ParseSorting(%v, %q)", sig, text)
	return ok
}

func TestTextsOfSortings(t *testing.T) {
	t.Parallel()
	r := rand.New(rand.NewSource(106))
	for range 2000 {
		checkSorting(t, house(), randomSorting(r))
	}
	for _, text := range []string{strictHouse, emptyHouse, freeHouse} {
		if s := sorting(t, text); !checkParsedSorting(t, house(), text) || sortingWords(house(), s) != text {
			t.Errorf("%s is not read", text)
		}
	}
	words := []impl.Control{{Name: "tops", Ports: 1}, {Name: "most"}, {Name: "o"}, {Name: "apar", Kind: impl.KindAtomic}}
	for _, text := range []string{
		"tops; tops:0; most:; o:; apar:; most 0; apart",
		"tops tops most o apar; tops:1 tops most o apar; most: tops; o: o; apar:; most 24 0; apart 0-1",
	} {
		if !checkParsedSorting(t, words, text) {
			t.Errorf("%s is not read", text)
		}
	}
}

func TestTextsThatAreNoSortings(t *testing.T) {
	for _, text := range []string{
		"", " ", ";", "; ", "tops", "tops; apart", "tops; most 0; apart", "tops; k:0; most 0", "tops; k:0; apart", "k:0; most 0; apart",
		"tops; k:0; k:0; most 0; apart", "tops; j:0; most 0; apart", "tops j; k:0; most 0; apart", "tops k k; k:0; most 0; apart", "tops; k:0 j; most 0; apart", "tops; k:0 k k; most 0; apart",
		"top; k:0; most 0; apart", "Tops; k:0; most 0; apart", "tops; k:0; mos 0; apart", "tops; k:0; most 0; apar", "tops; k:0; most 0; apart ", " tops; k:0; most 0; apart", "tops ; k:0; most 0; apart",
		"tops; k:0 ; most 0; apart", "tops; k:0; most 0 ; apart", "tops;  k:0; most 0; apart", "tops;k:0;most 0;apart", "tops; k:0; most  0; apart", "tops  k; k:0; most 0; apart",
		"tops; k; most 0; apart", "tops; k:; most 0; apart", "tops; k: 0; most 0; apart", "tops; :0; most 0; apart", "tops; k:00; most 0; apart", "tops; k0; most 0; apart", "tops; k::0; most 0; apart", "tops; k:0:; most 0; apart",
		"tops; k:1; most 0; apart", "tops; k:4; most 0 0 0 0; apart", "tops; k:4; most 0 0 0 0 0; apart", "tops; k:-; most 0; apart", "tops; k:-1; most 0; apart", "tops; k:k; most 0; apart", "tops; k:a; most 0; apart", "tops; k:/; most 0; apart", "tops; k:\x00; most 0; apart", "tops; k:\xff; most 0; apart", "tops; k:０; most 0; apart",
		"tops; k:0; most; apart", "tops; k:0; most 25; apart", "tops; k:0; most -1; apart", "tops; k:0; most -0; apart", "tops; k:0; most 00; apart", "tops; k:0; most 01; apart", "tops; k:0; most +1; apart", "tops; k:0; most x; apart", "tops; k:0; most 1000000; apart", "tops; k:0; most 0 0 0 0 0; apart",
		"tops; k:0; most 0 0; apart 0", "tops; k:0; most 0 0; apart 0-", "tops; k:0; most 0 0; apart -1", "tops; k:0; most 0 0; apart 1-0", "tops; k:0; most 0 0; apart 0-0", "tops; k:0; most 0 0; apart 0-2", "tops; k:0; most 0 0; apart 0-1 0-1", "tops; k:0; most 0 0; apart 0-1-", "tops; k:0; most 0 0; apart 0-1-1", "tops; k:0; most 0 0; apart 0--1", "tops; k:0; most 0 0; apart -0-1", "tops; k:0; most 0 0; apart 00-1", "tops; k:0; most 0 0; apart 0-01", "tops; k:0; most 0 0; apart 0 1", "tops; k:0; most 0 0; apart 01",
		"tops; k:0; most 0 0 0; apart 1-2 0-1", "tops; k:0; most 0 0 0; apart 0-2 0-1", "tops; k:0; most 0; apart 0-1",
		"tops; k:0; apart; most 0", "most 0; k:0; tops; apart", "tops; k:0; most 0; apart; ", "tops; k:0; most 0; apart;", "tops; k:0; most 0; apart\n", "tops; k:0; most 0; apart\x00", "tops\tk; k:0; most 0; apart",
	} {
		if checkParsedSorting(t, ionControls(), text) {
			t.Errorf("ParseSorting reads %q", text)
		}
	}
	for _, text := range []string{"tops; k:0; most 0; apart", "tops k; k:0 k; most 24 0; apart 0-1"} {
		if !checkParsedSorting(t, ionControls(), text) {
			t.Errorf("ParseSorting does not read %q", text)
		}
	}
	for _, text := range []string{"tops key room; room:; key:0; door:00; pen:000; dot:; box:0; most 0; apart", "tops; key:0; room:; door:00; pen:000; dot:; box:0; most 0; apart", strings.Replace(emptyHouse, "dot:", "dot: room", 1), strings.Replace(emptyHouse, "room:", "room: key room", 1)} {
		if checkParsedSorting(t, house(), text) {
			t.Errorf("ParseSorting reads %q", text)
		}
	}
	for _, text := range []string{strings.Repeat("tops; ", 300000), "tops" + strings.Repeat(" room", 200000), emptyHouse + strings.Repeat(" 0-1", 100000), strings.Repeat("\xff", 1000000)} {
		if s, ok := impl.ParseSorting(house(), text); ok || !isSameSorting(s, impl.Sorting{}) {
			t.Error("ParseSorting of a vast text =", s, ok)
		}
	}
}

func TestChangedTextsOfSortings(t *testing.T) {
	t.Parallel()
	read := 0
	for _, text := range []string{strictHouse, emptyHouse} {
		for i := range len(text) + 1 {
			for _, c := range []byte(" ;:-0134ackortz\x00\xff") {
				changes := []string{text[:i] + string([]byte{c}) + text[i:]}
				if i < len(text) {
					changes = append(changes, text[:i]+string([]byte{c})+text[i+1:], text[:i]+text[i+1:], text[:i])
				}
				for _, other := range changes {
					if checkParsedSorting(t, house(), other) {
						read++
					}
				}
			}
		}
	}
	if read < 50 {
		t.Error("only so many changed texts are read:", read)
	}
}

// brokenSortings are Sortings that are not valid over house.
func brokenSortings(t *testing.T) []impl.Sorting {
	list := []impl.Sorting{{}, {Most: []int{0}}, goodSortings(ionControls())[0]}
	for _, change := range []func(*impl.Sorting){
		func(s *impl.Sorting) { s.Tops = []int{6} },
		func(s *impl.Sorting) { s.Tops = []int{0, 0} },
		func(s *impl.Sorting) { s.Nest = s.Nest[:5] },
		func(s *impl.Sorting) { s.Nest[3] = []int{0} },
		func(s *impl.Sorting) { s.Nest[0] = []int{1, 0} },
		func(s *impl.Sorting) { s.Sorts = s.Sorts[:3] },
		func(s *impl.Sorting) { s.Sorts[1] = nil },
		func(s *impl.Sorting) { s.Sorts[1] = []int{4} },
		func(s *impl.Sorting) { s.Sorts[1] = []int{math.MinInt} },
		func(s *impl.Sorting) { s.Most = nil },
		func(s *impl.Sorting) { s.Most = s.Most[:2] },
		func(s *impl.Sorting) { s.Most[0] = 25 },
		func(s *impl.Sorting) { s.Most = append(s.Most, 1) },
		func(s *impl.Sorting) { s.Apart = [][2]int{{1, 0}} },
		func(s *impl.Sorting) { s.Apart = [][2]int{{0, math.MaxInt}} },
	} {
		s := sorting(t, strictHouse)
		change(&s)
		list = append(list, s)
	}
	return list
}

func TestSortingsFailForInvalidArguments(t *testing.T) {
	good, free := sorting(t, strictHouse), sorting(t, freeHouse)
	one := impl.Bigraph{Roots: 1, Sites: []int{-1}, Edges: 1}
	for _, bad := range brokenSortings(t) {
		if impl.IsSorting(house(), bad) {
			t.Fatalf("IsSorting(%v) = true", bad)
		}
		for _, s := range []impl.Sorting{good, free, bad} {
			wantFailures(t, sortingCalls(house(), bad, s, one, impl.Bigraph{Roots: 1}), "%v", bad)
			wantFailures(t, sortingCalls(house(), s, bad, one, impl.Bigraph{Roots: 1})[:3], "%v", bad)
		}
		for _, b := range []impl.Bigraph{{}, one, twoRooms(), fullBigraph()} {
			for n := -1; n <= 1; n++ {
				wantFailures(t, sortedCalls(house(), bad, b, n), "%v", bad)
			}
		}
		text, ok := impl.SortingText(house(), bad)
		wantText(t, text, ok, "", false, "SortingText(%v)", bad)
	}
	for _, bad := range brokenBigraphs() {
		for n := -1; n <= 1; n++ {
			wantFailures(t, sortedCalls(house(), free, bad, n), "%v", bad)
		}
		for _, b := range []impl.Bigraph{{}, one, {Roots: 1}, bad} {
			wantFailures(t, sortingCalls(house(), free, free, bad, b)[3:], "%v and %v", bad, b)
			wantFailures(t, sortingCalls(house(), free, free, b, bad)[3:], "%v and %v", b, bad)
		}
	}
}

func TestSortingsNeedSignatures(t *testing.T) {
	one := impl.Bigraph{Roots: 1, Sites: []int{-1}, Edges: 1}
	for _, sig := range badSignatures() {
		sortings := []impl.Sorting{{}, {Most: []int{0}, Nest: make([][]int, len(sig)), Sorts: make([][]int, len(sig))}, sorting(t, emptyHouse)}
		for _, s := range sortings {
			wantFailures(t, sortingCalls(sig, s, s, one, impl.Bigraph{Roots: 1}), "%v", sig)
			wantFailures(t, sortedCalls(sig, s, one, -1), "%v", sig)
			wantFailures(t, sortedCalls(sig, s, one, 0), "%v", sig)
			text, ok := impl.SortingText(sig, s)
			wantText(t, text, ok, "", false, "SortingText over %v", sig)
			if impl.IsSorting(sig, s) {
				t.Fatalf("IsSorting(%.300s) = true", fmt.Sprint(sig))
			}
		}
		free, ok := impl.FreeSorting(sig)
		wantSorting(t, free, ok, impl.Sorting{}, false, "FreeSorting")
		for _, text := range []string{"tops; most 0; apart", emptyHouse} {
			parsed, ok := impl.ParseSorting(sig, text)
			wantSorting(t, parsed, ok, impl.Sorting{}, false, "ParseSorting")
		}
	}
	for _, sig := range [][]impl.Control{house()[:5], ionControls()} {
		s := sorting(t, emptyHouse)
		wantFailures(t, sortedCalls(sig, s, impl.Bigraph{Roots: 1}, -1), "another signature")
		wantFailures(t, sortedCalls(sig, goodSortings(sig)[0], twoRooms(), 0), "a Bigraph over another signature")
	}
}

// checkOwnSortingLists puts a mark into each list of a Sorting in turn, and looks at all others.
func checkOwnSortingLists(t *testing.T, s impl.Sorting) {
	t.Helper()
	lists := append(slices.Concat(s.Nest, s.Sorts), s.Tops, s.Most)
	for i, list := range lists {
		told := []string{}
		for j, other := range lists {
			if j != i {
				told = append(told, fmt.Sprint(other))
			}
		}
		_ = append(list[:len(list):cap(list)], slices.Repeat([]int{-99}, cap(list)-len(list))...)
		for k := range list {
			list[k] = -99
		}
		for j, other := range slices.Delete(slices.Clone(lists), i, i+1) {
			if fmt.Sprint(other) != told[j] {
				t.Fatalf("the list %d of %v is also a part of another one", i, s)
			}
		}
	}
}

func TestResultsOfSortingsAreNew(t *testing.T) {
	t.Parallel()
	r := rand.New(rand.NewSource(107))
	for range 300 {
		c := randomChain(r, 2, 4, 4, pick(r, chainWords()))
		kept := randomSorting(r)
		near := nearSorting(r, kept, 3)
		loose := looseSorting(kept.Sorts, len(kept.Most))
		sig, s, u, a, b := house(), cloneOfSorting(kept), cloneOfSorting(near), cloneOf(c[0]), cloneOf(c[1])
		free := cloneOfSorting(loose)
		calls := func() [][]any {
			all := append(sortingCalls(sig, s, u, a, b), sortingCalls(sig, free, s, a, b)...)
			all = append(all, sortedCalls(sig, s, b, 0)...)
			all = append(all, sortedCalls(sig, s, b, -1)...)
			least, ok := impl.LeastSorting(sig, s.Sorts, len(s.Most), []impl.Bigraph{a, b})
			text, fine := impl.SortingText(sig, s)
			parsed, again := impl.ParseSorting(sig, text)
			some, possible := impl.FreeSorting(sig)
			return append(all, []any{least, ok}, []any{text, fine}, []any{parsed, again}, []any{some, possible})
		}
		wantNewResults(t, calls(), calls)
		if !isSameSorting(s, kept) || !isSameSorting(u, near) || !isSameSorting(free, loose) || !isSame(a, c[0]) || !isSame(b, c[1]) || !slices.Equal(sig, house()) {
			t.Fatalf("a call has changed %v and %v to %v and %v, or the results share their memory", kept, near, s, u)
		}
		for _, results := range calls() {
			for _, result := range results {
				if one, ok := result.(impl.Sorting); ok {
					checkOwnSortingLists(t, one)
				}
			}
		}
	}
}

func TestConstantsOfSortings(t *testing.T) {
	got := []int{impl.MaxSorts, impl.MaxOnLink, impl.FaultTop, impl.FaultNest, impl.FaultMany, impl.FaultApart}
	if want := []int{4, 24, 1, 2, 3, 4}; !slices.Equal(got, want) {
		t.Error("the constants are", got)
	}
}
