package tests

import (
	"fmt"
	"math/rand"
	"slices"
	"testing"

	"loop.example/g01082/impl"
)

// lawSamples are Bigraphs of all sizes.
func lawSamples() []impl.Bigraph {
	list := append(alikeSamples(60, 3000, 8), sampleBigraphs()...)
	return append(list, twoRooms(), roomsIn(8))
}

func canonicalOf(t *testing.T, b impl.Bigraph) impl.Bigraph {
	t.Helper()
	return must(t, fmt.Sprint("CanonicalOf ", b))(impl.CanonicalOf(house(), b))
}

func symmetryCount(t *testing.T, b impl.Bigraph) int {
	t.Helper()
	count, ok := impl.CountSymmetries(house(), b)
	if !ok || count < 1 {
		t.Fatalf("CountSymmetries(%v) = %d, %v", b, count, ok)
	}
	return count
}

func keyOf(t *testing.T, b impl.Bigraph) int {
	t.Helper()
	key, ok := impl.KeyOf(house(), b)
	if !ok {
		t.Fatalf("KeyOf(%v) fails", b)
	}
	return key
}

// leadsTo checks that a translation of a to b is found, and turns a into b.
func leadsTo(t *testing.T, a impl.Bigraph, b impl.Bigraph) []int {
	t.Helper()
	nodes, ok := impl.FindTranslation(house(), a, b)
	edges, fine := impl.EdgesOfTranslation(house(), a, b, nodes)
	if !ok || !fine {
		t.Fatalf("no translation of %v to %v: %v %v, %v %v", a, b, nodes, ok, edges, fine)
	}
	got, ok := impl.RenumberNodes(house(), a, nodes, edges)
	wantResult(t, got, ok, b, true, "RenumberNodes(%v, %v, %v)", a, nodes, edges)
	is, ok := impl.IsTranslation(house(), a, b, nodes)
	wantReport(t, is, ok, true, "IsTranslation(%v, %v, %v)", a, b, nodes)
	return nodes
}

func TestOtherNumbersHaveTheSameCanonicalForm(t *testing.T) {
	r := rand.New(rand.NewSource(61))
	for _, b := range lawSamples() {
		form, key := canonicalOf(t, b), keyOf(t, b)
		wantResult(t, canonicalOf(t, form), true, form, true, "CanonicalOf the canonical form of %v", b)
		if !impl.IsCanonical(house(), form) {
			t.Fatalf("%v is the canonical form of %v, and not canonical", form, b)
		}
		leadsTo(t, b, form)
		leadsTo(t, form, b)
		for range 3 {
			to, edges := randomNumbers(r, b)
			other := must(t, "RenumberNodes")(impl.RenumberNodes(house(), b, to, edges))
			wantResult(t, canonicalOf(t, other), true, form, true, "CanonicalOf(%v)", other)
			if keyOf(t, other) != key {
				t.Fatalf("the keys of %v and %v are not the same", b, other)
			}
			leadsTo(t, b, other)
			for _, f := range []func([]impl.Control, impl.Bigraph, impl.Bigraph) (bool, bool){impl.AreIsomorphic, impl.AreLeanEqual} {
				are, ok := f(house(), b, other)
				wantReport(t, are, ok, true, "isomorphic(%v, %v)", b, other)
			}
		}
	}
}

func TestOrdersLeadToCanonicalForms(t *testing.T) {
	for _, b := range lawSamples() {
		form := canonicalOf(t, b)
		order, ok := impl.CanonicalOrder(house(), b)
		if !ok || !hasEach(order) || len(order) != len(b.Nodes) {
			t.Fatalf("CanonicalOrder(%v) = %v, %v", b, order, ok)
		}
		edges, ok := impl.EdgesOfTranslation(house(), b, form, inverseOf(order))
		if !ok {
			t.Fatalf("the order %v does not lead from %v to %v", order, b, form)
		}
		got, ok := impl.RenumberNodes(house(), b, inverseOf(order), edges)
		wantResult(t, got, ok, form, true, "RenumberNodes(%v, %v, %v)", b, inverseOf(order), edges)
		code, _ := impl.CodeOf(house(), b)
		least, _ := impl.CodeOf(house(), form)
		if slices.Compare(least, code) > 0 {
			t.Fatalf("the code of %v is less than that of its canonical form %v", b, form)
		}
	}
}

// In each family, the Bigraphs with the same shape, and no others, have the same canonical form.
func TestIsomorphicExactlyIfCanonicalFormsAreEqual(t *testing.T) {
	families := [][]impl.Bigraph{
		smallBigraphs(1, 2, 2, nil), smallBigraphs(2, 2, 1, []string{"x"}), smallBigraphs(1, 3, 1, []string{"x"}),
		smallBigraphs(1, 2, 3, nil), smallBigraphs(2, 3, 1, nil), slices.Concat(tinyBigraphs(), alikeSamples(62, 400, 4)),
	}
	for i, family := range families {
		formOf, shapeFor := map[string]string{}, map[string]string{}
		for _, b := range family {
			shape, form := shapeOf(b), canonicalText(t, b)
			if known, ok := formOf[shape]; ok && known != form {
				t.Fatalf("%v is isomorphic to others, but has the canonical form %s instead of %s", b, form, known)
			}
			if known, ok := shapeFor[form]; ok && known != shape {
				t.Fatalf("%v has the canonical form %s of others that are not isomorphic", b, form)
			}
			formOf[shape], shapeFor[form] = form, shape
		}
		if len(formOf) == len(family) || len(formOf) < 20 {
			t.Errorf("family %d has %d shapes of %d Bigraphs", i, len(formOf), len(family))
		}
	}
}

func TestIsomorphicPairs(t *testing.T) {
	r, counts := rand.New(rand.NewSource(63)), map[string]int{}
	families := [][]impl.Bigraph{smallBigraphs(1, 2, 2, nil), smallBigraphs(1, 3, 1, nil), smallBigraphs(2, 2, 1, []string{"x"})}
	for _, family := range families {
		for range 3000 {
			a, b := pick(r, family), pick(r, family)
			same := shapeOf(a) == shapeOf(b)
			are, ok := impl.AreIsomorphic(house(), a, b)
			wantReport(t, are, ok, same, "AreIsomorphic(%v, %v)", a, b)
			if equal := isSame(canonicalOf(t, a), canonicalOf(t, b)); equal != same {
				t.Fatalf("the canonical forms of %v and %v: %v; want %v", a, b, equal, same)
			}
			if same && keyOf(t, a) != keyOf(t, b) {
				t.Fatalf("the keys of %v and %v are not the same", a, b)
			}
			counts[fmt.Sprint(same)]++
		}
	}
	wantAtLeast(t, counts, 100, "true", "false")
}

// after makes one list of nodes after another one.
func after(first []int, second []int) []int {
	list := []int{}
	for _, k := range first {
		list = append(list, second[k])
	}
	return list
}

func TestSymmetriesAreClosed(t *testing.T) {
	counts := map[string]int{}
	for _, b := range lawSamples() {
		all, ok := impl.SymmetriesOf(house(), b)
		if count := symmetryCount(t, b); ok != (count <= 24) || ok && count != len(all) {
			t.Fatalf("SymmetriesOf(%v) = %v, %v, and there are %d", b, all, ok, count)
		}
		if !ok {
			counts["many"]++
			continue
		}
		told := map[string]bool{}
		for _, symmetry := range all {
			told[fmt.Sprint(symmetry)] = true
		}
		if !told[fmt.Sprint(numbersFrom(0, len(b.Nodes)))] || len(told) != len(all) {
			t.Fatalf("SymmetriesOf(%v) = %v", b, all)
		}
		for _, x := range all {
			if !told[fmt.Sprint(inverseOf(x))] {
				t.Fatalf("the inverse of %v is no symmetry of %v", x, b)
			}
			for _, y := range all {
				if !told[fmt.Sprint(after(x, y))] {
					t.Fatalf("%v and then %v is no symmetry of %v", x, y, b)
				}
			}
		}
		if len(all) > 1 {
			counts["several"]++
		}
		wantOrbits(t, b, all)
	}
	wantAtLeast(t, counts, 20, "many")
	wantAtLeast(t, counts, 100, "several")
}

// wantOrbits checks that orbits are what symmetries tell, and no larger than classes.
func wantOrbits(t *testing.T, b impl.Bigraph, symmetries [][]int) {
	t.Helper()
	orbits, ok := impl.OrbitsOf(house(), b)
	wantInts(t, orbits, ok, orbitsAs(symmetries), true, "OrbitsOf(%v)", b)
	classes, ok := impl.ClassesOf(house(), b)
	wantInts(t, classes, ok, classesAs(b), true, "ClassesOf(%v)", b)
	for k, orbit := range orbits {
		if classes[k] != classes[orbit] {
			t.Fatalf("the orbits of %v are %v, and the classes are %v", b, orbits, classes)
		}
	}
}

func TestIsomorphicBigraphsHaveAsManySymmetries(t *testing.T) {
	r := rand.New(rand.NewSource(64))
	for _, a := range alikeSamples(65, 300, 7) {
		b := shuffled(r, a)
		if symmetryCount(t, a) != symmetryCount(t, b) {
			t.Fatalf("%v has %d symmetries, and %v has %d", a, symmetryCount(t, a), b, symmetryCount(t, b))
		}
		nodes := leadsTo(t, a, b)
		all, ok := impl.SymmetriesOf(house(), a)
		if !ok {
			continue
		}
		// Each translation is the first one after a symmetry, so these are all in order.
		lists := [][]int{}
		for _, symmetry := range all {
			lists = append(lists, after(symmetry, nodes))
			is, ok := impl.IsTranslation(house(), a, b, after(symmetry, nodes))
			wantReport(t, is, ok, true, "IsTranslation(%v, %v, %v)", a, b, after(symmetry, nodes))
		}
		if first := slices.MinFunc(lists, slices.Compare[[]int]); !slices.Equal(first, nodes) {
			t.Fatalf("FindTranslation(%v, %v) = %v, but %v is less", a, b, nodes, first)
		}
		wantMovedClasses(t, a, b, nodes)
	}
}

// wantMovedClasses checks that a translation leads classes and orbits to classes and orbits.
func wantMovedClasses(t *testing.T, a impl.Bigraph, b impl.Bigraph, nodes []int) {
	t.Helper()
	for _, f := range []func([]impl.Control, impl.Bigraph) ([]int, bool){impl.ClassesOf, impl.OrbitsOf} {
		x, _ := f(house(), a)
		y, _ := f(house(), b)
		for i := range nodes {
			for j := range nodes {
				if (x[i] == x[j]) != (y[nodes[i]] == y[nodes[j]]) {
					t.Fatalf("the translation %v leads %v of %v to %v of %v", nodes, x, a, y, b)
				}
			}
		}
	}
}

func TestTranslationsAreMadeOneAfterTheOther(t *testing.T) {
	r := rand.New(rand.NewSource(66))
	for _, a := range alikeSamples(67, 200, 8) {
		b := shuffled(r, a)
		c := shuffled(r, b)
		there, further := leadsTo(t, a, b), leadsTo(t, b, c)
		is, ok := impl.IsTranslation(house(), a, c, after(there, further))
		wantReport(t, is, ok, true, "IsTranslation(%v, %v, %v)", a, c, after(there, further))
		is, ok = impl.IsTranslation(house(), b, a, inverseOf(there))
		wantReport(t, is, ok, true, "IsTranslation(%v, %v, %v)", b, a, inverseOf(there))
	}
}

func TestIdleEdgesComeLast(t *testing.T) {
	r := rand.New(rand.NewSource(68))
	for _, b := range lawSamples() {
		form := canonicalOf(t, b)
		lean := must(t, "LeanOf")(impl.LeanOf(house(), form))
		wantResult(t, lean, true, canonicalOf(t, leanAs(b)), true, "LeanOf the canonical form of %v", b)
		again := withIdleEdges(lean, b.Edges-lean.Edges)
		wantResult(t, again, true, form, true, "idle edges behind those of %v", lean)
		if b.Edges == 8 {
			continue
		}
		more := shuffled(r, withIdleEdges(b, 1))
		are, ok := impl.AreIsomorphic(house(), b, more)
		wantReport(t, are, ok, false, "AreIsomorphic(%v, %v)", b, more)
		are, ok = impl.AreLeanEqual(house(), b, more)
		wantReport(t, are, ok, true, "AreLeanEqual(%v, %v)", b, more)
		if symmetryCount(t, b) != symmetryCount(t, more) {
			t.Fatalf("an idle edge changes the symmetries of %v", b)
		}
	}
}

func TestIsomorphicPartsMakeIsomorphicWholes(t *testing.T) {
	r, counts := rand.New(rand.NewSource(69)), map[string]int{}
	for range 1000 {
		chain := randomChain(r, 2, 4, 4, sortedWords[:4])
		whole, ok := composition(chain[0], chain[1])
		again, fine := composition(shuffled(r, chain[0]), shuffled(r, chain[1]))
		if ok != fine {
			t.Fatalf("%v is composed: %v, and with other numbers: %v", chain, ok, fine)
		}
		if ok {
			wantResult(t, canonicalOf(t, again), true, canonicalOf(t, whole), true, "composing %v with other numbers", chain)
			counts["composed"]++
		}
		parts := randomParts(r, 2)
		ab, one := merging(parts[0], parts[1])
		ba, two := merging(parts[1], parts[0])
		if one && two && len(ab.Sites) == 0 {
			// Without sites, nothing tells which part was first.
			wantResult(t, canonicalOf(t, ba), true, canonicalOf(t, ab), true, "merging %v", parts)
			counts["merged"]++
		}
	}
	wantAtLeast(t, counts, 200, "composed", "merged")
}
