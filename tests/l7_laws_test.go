package tests

import (
	"fmt"
	"math/rand"
	"slices"
	"testing"

	"loop.example/g01082/impl"
)

func isSorted(t *testing.T, s impl.Sorting, b impl.Bigraph) bool {
	t.Helper()
	sorted, ok := impl.IsSorted(house(), s, b)
	if !ok {
		t.Fatalf("IsSorted(%v, %v) fails", s, b)
	}
	return sorted
}

func isFiner(t *testing.T, s impl.Sorting, u impl.Sorting) bool {
	t.Helper()
	finer, ok := impl.IsFiner(house(), s, u)
	if !ok {
		t.Fatalf("IsFiner(%v, %v) fails", s, u)
	}
	return finer
}

// mustSort returns a Sorting that should not have failed.
func mustSort(t *testing.T, told string) func(impl.Sorting, bool) impl.Sorting {
	return func(s impl.Sorting, ok bool) impl.Sorting {
		t.Helper()
		if !ok || !impl.IsSorting(house(), s) {
			t.Fatalf("%s = %v, %v", told, s, ok)
		}
		return s
	}
}

func meetOf(t *testing.T, s impl.Sorting, u impl.Sorting) impl.Sorting {
	t.Helper()
	return mustSort(t, "MeetOf")(impl.MeetOf(house(), s, u))
}

func joinOf(t *testing.T, s impl.Sorting, u impl.Sorting) impl.Sorting {
	t.Helper()
	return mustSort(t, "JoinOf")(impl.JoinOf(house(), s, u))
}

func leastOf(t *testing.T, s impl.Sorting, list ...impl.Bigraph) impl.Sorting {
	t.Helper()
	return mustSort(t, "LeastSorting")(impl.LeastSorting(house(), s.Sorts, len(s.Most), list))
}

// wantEqualSortings checks that both sides of a law are the same.
func wantEqualSortings(t *testing.T, law string, got impl.Sorting, want impl.Sorting) {
	t.Helper()
	wantSorting(t, got, true, want, true, "%s", law)
}

func TestWholesAreSortedExactlyIfPartsFit(t *testing.T) {
	t.Parallel()
	r, counts := rand.New(rand.NewSource(110)), map[string]int{}
	for range 4000 {
		c := randomChain(r, 2, 1+r.Intn(4), 4, pick(r, chainWords()))
		whole, ok := composition(c[0], c[1])
		if !ok {
			continue
		}
		s := randomSorting(r)
		near := nearSorting(r, leastOf(t, s, c[0], whole), r.Intn(4))
		for _, rules := range []impl.Sorting{s, near, leastOf(t, s, c[0], c[1]), leastOf(t, s, whole)} {
			fits, ok := impl.FitsSorted(house(), rules, c[0], c[1])
			if sorted := isSorted(t, rules, whole); sorted != fits {
				t.Fatalf("by %v, %v after %v is sorted: %v; FitsSorted = %v, %v", rules, c[0], c[1], sorted, fits, ok)
			}
			// The parts of a sorted whole are sorted, and sorted inside.
			inside, _ := impl.IsSortedInside(house(), rules, c[1])
			if possible := isSorted(t, rules, c[0]) && inside; ok != possible {
				t.Fatalf("FitsSorted(%v, %v, %v) = %v, %v", rules, c[0], c[1], fits, ok)
			}
			counts[fmt.Sprint(fits, " ", ok)]++
		}
	}
	wantAtLeast(t, counts, 500, "true true", "false true", "false false")
}

func TestIdentitiesFitSortedBigraphs(t *testing.T) {
	r, counts := rand.New(rand.NewSource(111)), map[string]int{}
	for _, b := range append(sampleBigraphs(), alikeSamples(112, 500, 8)...) {
		s := randomSorting(r)
		for _, rules := range []impl.Sorting{s, nearSorting(r, leastOf(t, s, b), 1)} {
			sorted := isSorted(t, rules, b)
			above, aboveOK := impl.FitsSorted(house(), rules, identityAs(b.Roots, b.Outer), b)
			inside, ok := impl.IsSortedInside(house(), rules, b)
			if above != sorted || aboveOK != inside || !ok {
				t.Fatalf("the identity after %v: FitsSorted = %v, %v by %v", b, above, aboveOK, rules)
			}
			below, belowOK := impl.FitsSorted(house(), rules, b, identityAs(len(b.Sites), innerOf(b)))
			if below != sorted || belowOK != sorted {
				t.Fatalf("%v after the identity: FitsSorted = %v, %v by %v", b, below, belowOK, rules)
			}
			counts[fmt.Sprint(sorted, inside)]++
		}
	}
	wantAtLeast(t, counts, 100, "true true", "false true", "false false")
}

func TestSortedByMeetExactlyIfByBoth(t *testing.T) {
	t.Parallel()
	r, counts := rand.New(rand.NewSource(113)), map[string]int{}
	for _, b := range append(formSamples(), alikeSamples(114, 1000, 6)...) {
		s := randomSorting(r)
		least := leastOf(t, s, b)
		for _, pair := range [][2]impl.Sorting{
			{s, randomSortingWith(r, s.Sorts, len(s.Most))},
			{nearSorting(r, least, 1), nearSorting(r, least, 1)},
			{s, nearSorting(r, least, 1)},
		} {
			one, two := isSorted(t, pair[0], b), isSorted(t, pair[1], b)
			meet, join := meetOf(t, pair[0], pair[1]), joinOf(t, pair[0], pair[1])
			if got := isSorted(t, meet, b); got != (one && two) {
				t.Fatalf("%v is sorted by MeetOf(%v, %v): %v; by both: %v, %v", b, pair[0], pair[1], got, one, two)
			}
			if got := isSorted(t, join, b); !got && (one || two) {
				t.Fatalf("%v is not sorted by JoinOf(%v, %v), but by one", b, pair[0], pair[1])
			}
			counts[fmt.Sprint(one, " ", two)]++
		}
	}
	wantAtLeast(t, counts, 300, "true true", "true false", "false true", "false false")
}

func TestFinerSortingsSortLess(t *testing.T) {
	t.Parallel()
	r, counts := rand.New(rand.NewSource(115)), map[string]int{}
	for _, b := range append(sampleBigraphs(), alikeSamples(116, 1500, 6)...) {
		s := randomSorting(r)
		least := leastOf(t, s, b)
		one := nearSorting(r, least, r.Intn(3))
		two := nearSorting(r, one, r.Intn(3))
		sortedOne, sortedTwo := isSorted(t, one, b), isSorted(t, two, b)
		if isFiner(t, one, two) {
			if sortedOne && !sortedTwo {
				t.Fatalf("%v is sorted by %v, but not by %v", b, one, two)
			}
			counts[fmt.Sprint("finer ", sortedOne, " ", sortedTwo)]++
		}
		// A Bigraph is sorted by just those Sortings that its least one is finer than.
		for _, rules := range []impl.Sorting{one, two, randomSortingWith(r, s.Sorts, len(s.Most))} {
			if got := isFiner(t, least, rules); got != isSorted(t, rules, b) {
				t.Fatalf("LeastSorting of %v is finer than %v: %v", b, rules, got)
			}
			counts[fmt.Sprint("least ", isSorted(t, rules, b))]++
		}
	}
	wantAtLeast(t, counts, 20, "finer false true")
	wantAtLeast(t, counts, 100, "finer true true", "finer false false", "least true", "least false")
}

func TestSortingsAreALattice(t *testing.T) {
	t.Parallel()
	r, counts := rand.New(rand.NewSource(117)), map[string]int{}
	for range 2000 {
		s := randomSorting(r)
		u, v := randomSortingWith(r, s.Sorts, len(s.Most)), nearSorting(r, s, r.Intn(4))
		wantEqualSortings(t, "meet of itself", meetOf(t, s, s), s)
		wantEqualSortings(t, "join of itself", joinOf(t, s, s), s)
		wantEqualSortings(t, "meets exchanged", meetOf(t, s, u), meetOf(t, u, s))
		wantEqualSortings(t, "joins exchanged", joinOf(t, s, u), joinOf(t, u, s))
		wantEqualSortings(t, "meets of three", meetOf(t, meetOf(t, s, u), v), meetOf(t, s, meetOf(t, u, v)))
		wantEqualSortings(t, "joins of three", joinOf(t, joinOf(t, s, u), v), joinOf(t, s, joinOf(t, u, v)))
		wantEqualSortings(t, "meet with a join", meetOf(t, s, joinOf(t, s, u)), s)
		wantEqualSortings(t, "join with a meet", joinOf(t, s, meetOf(t, s, u)), s)
		wantEqualSortings(t, "meet over joins", meetOf(t, s, joinOf(t, u, v)), joinOf(t, meetOf(t, s, u), meetOf(t, s, v)))
		for _, pair := range [][2]impl.Sorting{{s, u}, {s, v}, {v, s}, {meetOf(t, s, u), u}, {u, joinOf(t, s, u)}} {
			finer := isFiner(t, pair[0], pair[1])
			if finer != isSameSorting(meetOf(t, pair[0], pair[1]), pair[0]) || finer != isSameSorting(joinOf(t, pair[0], pair[1]), pair[1]) {
				t.Fatalf("IsFiner%v = %v, unlike the meet or the join", pair, finer)
			}
			if finer && isFiner(t, pair[1], pair[0]) != isSameSorting(pair[0], pair[1]) {
				t.Fatalf("%v are both finer, but not the same, or the same and not both finer", pair)
			}
			counts[fmt.Sprint(finer)]++
		}
		if isFiner(t, s, v) && isFiner(t, v, joinOf(t, u, v)) && !isFiner(t, s, joinOf(t, u, v)) {
			t.Fatalf("finer than a finer one is not finer: %v, %v, %v", s, v, joinOf(t, u, v))
		}
	}
	wantAtLeast(t, counts, 1000, "true", "false")
}

func TestLeastSortingsAreJoins(t *testing.T) {
	t.Parallel()
	r, samples := rand.New(rand.NewSource(118)), append(sampleBigraphs(), alikeSamples(119, 500, 6)...)
	for range 1000 {
		s, list := randomSorting(r), []impl.Bigraph{}
		for range 1 + r.Intn(8) {
			list = append(list, pick(r, samples))
		}
		all, joined := leastOf(t, s, list...), leastOf(t, s, list[0])
		for _, b := range list {
			if !isSorted(t, all, b) {
				t.Fatalf("%v is not sorted by LeastSorting of %v", b, list)
			}
			joined = joinOf(t, joined, leastOf(t, s, b))
		}
		wantEqualSortings(t, "LeastSorting of a list", all, joined)
		slices.Reverse(list)
		wantEqualSortings(t, "LeastSorting of a list from its end", leastOf(t, s, list...), all)
		if !isFiner(t, all, looseSorting(s.Sorts, len(s.Most))) {
			t.Fatalf("%v is not finer than the one that allows everything", all)
		}
	}
}

func TestOtherNumbersHaveAsManyFaults(t *testing.T) {
	t.Parallel()
	r, counts := rand.New(rand.NewSource(120)), map[string]int{}
	for _, b := range append(sampleBigraphs(), alikeSamples(121, 800, 8)...) {
		s := randomSorting(r)
		to, edges := randomNumbers(r, b)
		other := renumbered(b, to, edges)
		want := []impl.Fault{}
		faults, _ := impl.FaultsOf(house(), s, b)
		for _, f := range faults {
			switch {
			case f.Kind == impl.FaultTop:
				f.At = to[f.At]
			case f.Kind == impl.FaultNest:
				f.At, f.With = to[f.At], to[f.With]
			case f.At < b.Edges:
				f.At = edges[f.At]
			}
			want = append(want, f)
		}
		got, ok := impl.FaultsOf(house(), s, other)
		if !ok || faultSet(got) != faultSet(want) {
			t.Fatalf("the faults of %v are %v; want %v in any order", other, got, want)
		}
		counts[fmt.Sprint(len(got) > 0)]++
	}
	wantAtLeast(t, counts, 100, "true", "false")
}

// faultSet writes faults in an order of their own.
func faultSet(faults []impl.Fault) string {
	words := []string{}
	for _, f := range faults {
		words = append(words, fmt.Sprint(f))
	}
	slices.Sort(words)
	return fmt.Sprint(words)
}

func TestAllChoicesAreSorted(t *testing.T) {
	r, counts := rand.New(rand.NewSource(122)), map[string]int{}
	for _, b := range sampleBigraphs() {
		s := randomSorting(r)
		// With so many ports allowed, only the places of nodes make faults.
		s.Most, s.Apart = slices.Repeat([]int{24}, len(s.Most)), nil
		for parent := -b.Roots; parent < len(b.Nodes); parent++ {
			if len(b.Nodes) == 8 || b.Edges == 0 || parent >= 0 && house()[b.Nodes[parent].Control].Kind == impl.KindAtomic {
				continue
			}
			choices, ok := impl.ChoicesIn(house(), s, b, parent)
			for c, control := range house() {
				more := cloneOf(b)
				more.Nodes = append(more.Nodes, impl.Node{Control: c, Parent: parent, Links: make([]int, control.Ports)})
				before, _ := impl.FaultsOf(house(), s, b)
				after, fine := impl.FaultsOf(house(), s, more)
				allowed := len(after) == len(before)
				if !ok || !fine || allowed != slices.Contains(choices, c) {
					t.Fatalf("ChoicesIn(%v, %v, %d) = %v; a node of the Control %d is sorted: %v", s, b, parent, choices, c, allowed)
				}
				counts[fmt.Sprint(allowed)]++
			}
		}
	}
	wantAtLeast(t, counts, 300, "true", "false")
}

func TestPortsOnLinksAddUp(t *testing.T) {
	r := rand.New(rand.NewSource(123))
	for _, b := range append(sampleBigraphs(), alikeSamples(124, 300, 8)...) {
		s := randomSorting(r)
		sums, want := make([]int, len(s.Most)), make([]int, len(s.Most))
		for link := range b.Edges + len(b.Outer) {
			counts, ok := impl.SortsOn(house(), s, b, link)
			if !ok || len(counts) != len(sums) {
				t.Fatalf("SortsOn(%v, %v, %d) = %v, %v", s, b, link, counts, ok)
			}
			ports, _, _ := impl.PointsOf(house(), b, link)
			total := 0
			for sort, n := range counts {
				sums[sort] += n
				total += n
			}
			if total != len(ports) {
				t.Fatalf("SortsOn(%v, %v, %d) = %v, of %d ports", s, b, link, counts, len(ports))
			}
		}
		for _, node := range b.Nodes {
			for _, sort := range s.Sorts[node.Control] {
				want[sort]++
			}
		}
		wantInts(t, sums, true, want, true, "the ports of %v on all links by sorts", b)
	}
}
