package tests

import (
	"math/rand"
	"slices"
	"testing"

	"loop.example/g01082/impl"
)

// A product is a function of two Bigraphs over house.
type product func(a, b impl.Bigraph) (impl.Bigraph, bool)

func composition(a, b impl.Bigraph) (impl.Bigraph, bool) {
	return impl.ComposeBigraphs(house(), a, b)
}

func juxtaposition(a, b impl.Bigraph) (impl.Bigraph, bool) { return impl.Juxtapose(house(), a, b) }

func parallel(a, b impl.Bigraph) (impl.Bigraph, bool) { return impl.ParallelProduct(house(), a, b) }

func merging(a, b impl.Bigraph) (impl.Bigraph, bool) { return impl.MergeProduct(house(), a, b) }

// must returns a Bigraph that should not have failed.
func must(t *testing.T, told string) func(impl.Bigraph, bool) impl.Bigraph {
	return func(b impl.Bigraph, ok bool) impl.Bigraph {
		t.Helper()
		if !ok {
			t.Fatal("failed:", told)
		}
		return b
	}
}

// twice makes a product of three Bigraphs, first of the left ones and first of the right ones.
func twice(times product, list []impl.Bigraph) (left, right impl.Bigraph, one, two bool) {
	if first, ok := times(list[0], list[1]); ok {
		left, one = times(first, list[2])
	}
	if last, ok := times(list[1], list[2]); ok {
		right, two = times(list[0], last)
	}
	return left, right, one, two
}

func TestCompositionIsAssociative(t *testing.T) {
	r, counts := rand.New(rand.NewSource(30)), map[string]int{}
	for range 6000 {
		c := randomChain(r, 3, 4, 4, pick(r, chainWords()))
		left, right, one, two := twice(composition, c)
		if one != two || !isSame(left, right) {
			t.Fatalf("composing %v gives %v, %v and %v, %v", c, left, one, right, two)
		}
		if one {
			counts["composed"]++
		} else {
			counts["too large"]++
		}
	}
	wantAtLeast(t, counts, 500, "composed", "too large")
}

func TestProductsAreAssociative(t *testing.T) {
	r, counts := rand.New(rand.NewSource(31)), map[string]int{}
	for range 6000 {
		p := randomParts(r, 3)
		for name, times := range map[string]product{"juxtaposition": juxtaposition, "parallel product": parallel} {
			left, right, one, two := twice(times, p)
			if one != two || !isSame(left, right) {
				t.Fatalf("the %s of %v gives %v, %v and %v, %v", name, p, left, one, right, two)
			}
			if one {
				counts[name]++
			} else {
				counts["no "+name]++
			}
		}
		left, right, one, two := twice(merging, p)
		if one && two && !isSame(left, right) {
			t.Fatalf("merging %v gives %v and %v", p, left, right)
		}
		if one && two {
			counts["merged"]++
		}
	}
	wantAtLeast(t, counts, 300, "juxtaposition", "no juxtaposition", "parallel product", "no parallel product", "merged")
}

// blockNumbers tells the numbers of members of blocks, which follow one another in order, when
// the blocks are put into another order.
func blockNumbers(sizes []int, order []int) []int {
	starts, next := make([]int, len(sizes)), 0
	for _, block := range order {
		starts[block] = next
		next += sizes[block]
	}
	list := []int{}
	for block, size := range sizes {
		list = append(list, numbersFrom(starts[block], size)...)
	}
	return list
}

// wantUpToNumbers checks that two Bigraphs are the same when the nodes and edges that the first
// one has from the Bigraphs of a list, one after the other, are put into another order.
func wantUpToNumbers(t *testing.T, got impl.Bigraph, want impl.Bigraph, list []impl.Bigraph, order []int, told string) {
	t.Helper()
	nodes, edges := []int{}, []int{}
	for _, b := range list {
		nodes, edges = append(nodes, len(b.Nodes)), append(edges, b.Edges)
	}
	again, ok := impl.RenumberNodes(house(), got, blockNumbers(nodes, order), blockNumbers(edges, order))
	if !ok || !isSame(again, want) {
		t.Fatalf("%s of %v: %v, %v; want %v", told, list, again, ok, want)
	}
}

func TestCompositionExchangesWithJuxtaposition(t *testing.T) {
	r, counts := rand.New(rand.NewSource(32)), map[string]int{}
	for range 12000 {
		x := randomChain(r, 2, 2, 2, everySecond(0))
		y := randomChain(r, 2, 2, 2, everySecond(1))
		above, one := juxtaposition(x[0], y[0])
		below, two := juxtaposition(x[1], y[1])
		if !one || !two {
			counts["no juxtaposition"]++
			continue
		}
		whole, three := composition(above, below)
		left, four := composition(x[0], x[1])
		right, five := composition(y[0], y[1])
		both, six := juxtaposition(left, right)
		if three != (four && five && six) {
			t.Fatalf("only one side of %v and %v can be composed", x, y)
		}
		if three {
			wantUpToNumbers(t, whole, both, []impl.Bigraph{x[0], y[0], x[1], y[1]}, []int{0, 2, 1, 3}, "exchanging")
			counts["exchanged"]++
		}
	}
	wantAtLeast(t, counts, 1000, "exchanged")
}

func TestExchangeExample(t *testing.T) {
	room, _ := bigraphOf(house(), oneRoom)
	box, _ := bigraphOf(house(), "1; box@-1 0; sites 0; 1; outer; inner x=0")
	key, _ := bigraphOf(house(), keyOfX)
	dot, _ := bigraphOf(house(), "1; dot@-1; sites; 1; outer; inner")
	outside, inside := must(t, "room, box")(juxtaposition(room, box)), must(t, "dot, key")(juxtaposition(dot, key))
	whole := must(t, "composed")(composition(outside, inside))
	if text := textOf(house(), whole); text != "2; room@-1; box@-2 0; dot@0; key@1 0; sites; 2; outer; inner" {
		t.Error("composed last:", text)
	}
	left, right := must(t, "dot in room")(composition(room, dot)), must(t, "key in box")(composition(box, key))
	both := must(t, "juxtaposed")(juxtaposition(left, right))
	if text := textOf(house(), both); text != "2; room@-1; dot@0; box@-2 1; key@2 1; sites; 2; outer; inner" {
		t.Error("juxtaposed last:", text)
	}
	wantUpToNumbers(t, whole, both, []impl.Bigraph{room, box, dot, key}, []int{0, 2, 1, 3}, "exchanging")
}

func TestNeutralBigraphs(t *testing.T) {
	for _, b := range append(formSamples(), twoRooms()) {
		above, below := identityAs(b.Roots, b.Outer), identityAs(len(b.Sites), innerOf(b))
		wantSame := func(told string, got impl.Bigraph, ok bool) {
			t.Helper()
			wantResult(t, got, ok, b, true, "%s and %v", told, b)
		}
		got, ok := composition(above, b)
		wantSame("the identity", got, ok)
		got, ok = composition(b, below)
		wantSame("the identity below", got, ok)
		for _, times := range []product{juxtaposition, parallel} {
			got, ok = times(impl.Bigraph{}, b)
			wantSame("nothing", got, ok)
			got, ok = times(b, impl.Bigraph{})
			wantSame("nothing behind", got, ok)
		}
		got, ok = parallel(b, impl.Bigraph{Outer: b.Outer})
		wantSame("idle names", got, ok)
	}
}

// beside puts the identity of some names beside a Bigraph.
func beside(t *testing.T, b impl.Bigraph, names []string) impl.Bigraph {
	t.Helper()
	return must(t, "beside an identity")(juxtaposition(b, must(t, "IdentityOf")(impl.IdentityOf(0, names))))
}

func TestMergeProductsAreCompositions(t *testing.T) {
	r, counts := rand.New(rand.NewSource(33)), map[string]int{}
	for range 3000 {
		p := randomParts(r, 2)
		got, ok := merging(p[0], p[1])
		side, possible := parallel(p[0], p[1])
		if ok != possible {
			t.Fatalf("MergeProduct of %v = %v", p, ok)
		}
		if ok {
			merge := must(t, "MergeOf")(impl.MergeOf(side.Roots))
			want := must(t, "composed")(composition(beside(t, merge, side.Outer), side))
			wantResult(t, got, ok, want, true, "MergeProduct of %v", p)
			counts["merged"]++
		}
	}
	wantAtLeast(t, counts, 1000, "merged")
}

func TestNestedBigraphsAreCompositions(t *testing.T) {
	r, counts := rand.New(rand.NewSource(34)), map[string]int{}
	for range 3000 {
		x := randomChain(r, 2, 4, 4, sortedWords[:6])
		a := withWires(x[0])
		around, possible := parallel(a, must(t, "IdentityOf")(impl.IdentityOf(0, x[1].Outer)))
		want, fine := composition(around, x[1])
		got, ok := impl.NestBigraphs(house(), a, x[1])
		wantResult(t, got, ok, want, possible && fine, "NestBigraphs(%v, %v)", a, x[1])
		if ok && haveCommon(a.Outer, x[1].Outer) {
			counts["nested"]++
		}
	}
	wantAtLeast(t, counts, 300, "nested")
}

func TestJoinedNamesAreCompositions(t *testing.T) {
	for _, b := range formSamples() {
		for i, from := range b.Outer {
			to := b.Outer[(i+1)%len(b.Outer)]
			if from == to {
				continue
			}
			others := without(without(b.Outer, from), to)
			joining := must(t, "SubstitutionOf")(impl.SubstitutionOf(distinct([]string{from, to}), []string{to, to}))
			wiring := must(t, "juxtaposed")(juxtaposition(joining, identityAs(b.Roots, others)))
			want := must(t, "composed")(composition(wiring, b))
			got, ok := impl.JoinNames(house(), b, from, to)
			wantResult(t, got, ok, want, true, "JoinNames(%v, %q, %q)", b, from, to)
		}
	}
}

func TestClosedAndAddedNamesAreCompositions(t *testing.T) {
	for _, b := range formSamples() {
		for _, name := range b.Outer {
			if b.Edges == 8 {
				continue
			}
			closure := must(t, "ClosureOf")(impl.ClosureOf([]string{name}))
			closing := must(t, "juxtaposed")(juxtaposition(closure, identityAs(b.Roots, without(b.Outer, name))))
			whole := must(t, "composed")(composition(closing, b))
			closed := must(t, "CloseName")(impl.CloseName(house(), b, name))
			wantUpToNumbers(t, whole, closed, []impl.Bigraph{closing, b}, []int{1, 0}, "closing")
			again, ok := impl.OpenName(house(), closed, b.Edges, name)
			wantResult(t, again, ok, b, true, "%v, closed and opened,", b)
		}
		if name := "zzzy"; len(b.Outer) < 16 && !slices.Contains(b.Outer, name) {
			added := must(t, "AddName")(impl.AddName(house(), b, name))
			want := must(t, "juxtaposed")(juxtaposition(b, must(t, "NewNames")(impl.NewNames([]string{name}))))
			wantResult(t, added, true, want, true, "AddName(%v)", b)
		}
	}
}

func TestOpenedEdgesAreClosed(t *testing.T) {
	for _, b := range formSamples() {
		for edge := range b.Edges {
			opened, ok := impl.OpenName(house(), b, edge, "zzzy")
			if !ok {
				continue
			}
			closed := must(t, "CloseName")(impl.CloseName(house(), opened, "zzzy"))
			to := append(withoutNumber(numbersFrom(0, b.Edges), edge), edge)
			again, ok := impl.RenumberNodes(house(), closed, numbersFrom(0, len(b.Nodes)), to)
			wantResult(t, again, ok, b, true, "%v, with the edge %d opened and closed,", b, edge)
		}
	}
}

// withoutNumber leaves a number out of a list.
func withoutNumber(list []int, n int) []int {
	return slices.DeleteFunc(list, func(other int) bool { return other == n })
}

func TestJuxtapositionIsSymmetric(t *testing.T) {
	r, counts := rand.New(rand.NewSource(35)), map[string]int{}
	for range 3000 {
		p := randomParts(r, 2)
		a, b := p[0], p[1]
		ab, ok := juxtaposition(a, b)
		ba, fine := juxtaposition(b, a)
		if ok != fine {
			t.Fatalf("juxtaposing %v = %v, and %v", p, ok, fine)
		}
		if !ok {
			continue
		}
		above := beside(t, must(t, "SwapOf")(impl.SwapOf(a.Roots, b.Roots)), ab.Outer)
		below := beside(t, must(t, "SwapOf")(impl.SwapOf(len(a.Sites), len(b.Sites))), innerOf(ab))
		left, right := must(t, "swapped")(composition(above, ab)), must(t, "swapped")(composition(ba, below))
		wantUpToNumbers(t, left, right, []impl.Bigraph{a, b}, []int{1, 0}, "swapping")
		counts["swapped"]++
	}
	wantAtLeast(t, counts, 1000, "swapped")
}

func TestShadowsAndWiresAreComposed(t *testing.T) {
	r, counts := rand.New(rand.NewSource(36)), map[string]int{}
	for range 3000 {
		c := randomChain(r, 2, 4, 4, pick(r, chainWords()))
		whole, ok := composition(c[0], c[1])
		if !ok {
			continue
		}
		counts["composed"]++
		parts := [2][2]impl.Bigraph{}
		for i, b := range c {
			parts[0][i] = must(t, "ShadowOf")(impl.ShadowOf(house(), b))
			parts[1][i] = must(t, "WiresOf")(impl.WiresOf(house(), b))
		}
		shadow, one := composition(parts[0][0], parts[0][1])
		wires, two := composition(parts[1][0], parts[1][1])
		want, three := impl.ComposeWirings(house(), parts[1][0], parts[1][1])
		wantResult(t, wires, two, want, three, "the wires of %v", c)
		wholeShadow, _ := impl.ShadowOf(house(), whole)
		wholeWires, _ := impl.WiresOf(house(), whole)
		wantResult(t, wholeShadow, true, shadow, one, "the shadow of %v", c)
		wantResult(t, wholeWires, true, wires, two, "the wires of %v", c)
	}
	wantAtLeast(t, counts, 500, "composed")
}

func TestInversesAreComposed(t *testing.T) {
	r, list := rand.New(rand.NewSource(37)), []impl.Bigraph{}
	for _, to := range permutations() {
		list = append(list, must(t, "PermutationOf")(impl.PermutationOf(to)))
	}
	for i := range 300 {
		list = append(list, randomRenaming(r, i%17))
	}
	for _, b := range list {
		back := must(t, "InverseOf")(impl.InverseOf(house(), b))
		for _, pair := range [][2]impl.Bigraph{{b, back}, {back, b}} {
			whole, ok := composition(pair[0], pair[1])
			wantResult(t, whole, ok, identityAs(b.Roots, pair[0].Outer), true, "composing %v", pair)
		}
	}
}

func TestDiscreteBigraphsAreRecomposed(t *testing.T) {
	for _, b := range append(formSamples(), twoRooms()) {
		wiring, discrete, ok := impl.DiscreteOf(house(), b)
		if !ok {
			continue
		}
		above := must(t, "juxtaposed")(juxtaposition(wiring, identityAs(b.Roots, nil)))
		whole, ok := composition(above, discrete)
		wantResult(t, whole, ok, b, true, "the parts of %v", b)
	}
}

func TestElementsAreComposed(t *testing.T) {
	for control, c := range house() {
		names := []string{"y", "x", "y"}[:c.Ports]
		atom := must(t, "AtomOf")(impl.AtomOf(house(), control, names))
		if ion, ok := impl.IonOf(house(), control, names); ok {
			whole, ok := composition(ion, must(t, "BarrenOf")(impl.BarrenOf(1)))
			wantResult(t, whole, ok, atom, true, "%s after a barren root", c.Name)
			nested, ok := impl.NestBigraphs(house(), ion, atom)
			double := cloneOf(atom)
			double.Nodes = append(double.Nodes, impl.Node{Control: control, Parent: 0, Links: slices.Clone(atom.Nodes[0].Links)})
			wantResult(t, nested, ok, double, true, "%s in itself", c.Name)
		}
	}
	for m := range 5 {
		for n := range 5 {
			merge, barren := must(t, "MergeOf")(impl.MergeOf(m)), must(t, "BarrenOf")(impl.BarrenOf(n))
			whole, ok := composition(merge, barren)
			wantResult(t, whole, ok, impl.Bigraph{Roots: 1}, m == n, "MergeOf(%d) after BarrenOf(%d)", m, n)
		}
	}
}
