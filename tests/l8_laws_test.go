package tests

import (
	"fmt"
	"math/rand"
	"slices"
	"testing"

	"loop.example/g01082/impl"
)

// allOf returns all Matches of a redex in an agent where they are not too many.
func allOf(t *testing.T, redex impl.Bigraph, agent impl.Bigraph) []impl.Match {
	t.Helper()
	all, ok := impl.AllMatches(house(), redex, agent)
	first, found := impl.FirstMatch(house(), redex, agent)
	if ok && found != (len(all) > 0) || !ok && !found {
		t.Fatalf("AllMatches(%v, %v) = %v, %v, and FirstMatch = %v, %v", redex, agent, all, ok, first, found)
	}
	return all
}

func isMatch(t *testing.T, redex impl.Bigraph, agent impl.Bigraph, m impl.Match) bool {
	t.Helper()
	is, ok := impl.IsMatch(house(), redex, agent, m)
	if !ok {
		t.Fatalf("IsMatch(%v, %v, %v) fails", redex, agent, m)
	}
	return is
}

func isActiveMatch(t *testing.T, redex impl.Bigraph, agent impl.Bigraph, m impl.Match) bool {
	t.Helper()
	active, ok := impl.IsActiveMatch(house(), redex, agent, m)
	if !ok {
		t.Fatalf("IsActiveMatch(%v, %v, %v) fails", redex, agent, m)
	}
	return active
}

func TestMatchesRecompose(t *testing.T) {
	t.Parallel()
	r, counts := rand.New(rand.NewSource(150)), map[string]int{}
	samples := append(agentSamples(151, 1500, 8), linkedTo(0, 15, 8, 16), linkedTo(1, 15, 8, 16), linkedTo(1, 16, 8, 16), linkedTo(2, 14, 8, 8), fullAgent())
	for _, agent := range samples {
		for range 3 {
			redex, found := redexIn(r, agent, 8)
			for _, m := range append(allOf(t, redex, agent)[:min(20, len(allOf(t, redex, agent)))], found) {
				counts[fmt.Sprint(recomposes(t, redex, agent, m))]++
			}
		}
	}
	wantAtLeast(t, counts, 5000, "true")
}

// fullAgent has as many nodes and edges as an agent can have, each in the one before it.
func fullAgent() impl.Bigraph {
	b := fullBigraph()
	b.Sites, b.Inner = nil, nil
	return b
}

// recomposes checks that the context and the parameter of a Match recompose the agent, and
// reports whether there are such.
func recomposes(t *testing.T, redex impl.Bigraph, agent impl.Bigraph, m impl.Match) bool {
	t.Helper()
	context, one := impl.MatchContext(house(), redex, agent, m)
	parameter, two := impl.MatchParameter(house(), redex, agent, m)
	_, names, three := impl.PassedLinks(house(), redex, agent, m)
	if one != two || two != three {
		t.Fatalf("the context, the parameter and the passed links of %v in %v at %v: %v, %v, %v", redex, agent, m, one, two, three)
	}
	if !one {
		return false
	}
	if !slices.Equal(parameter.Outer, names) || parameter.Edges > 0 || context.Edges+redex.Edges != agent.Edges {
		t.Fatalf("the context %v and the parameter %v of %v in %v at %v", context, parameter, redex, agent, m)
	}
	whole, ok := impl.RecomposeMatch(house(), redex, context, parameter)
	rest, _, inside := partsOf(agent, m)
	edges, images := []int{}, matchLinksAs(redex, agent, m)[:redex.Edges]
	for edge := range agent.Edges {
		if !slices.Contains(images, edge) {
			edges = append(edges, edge)
		}
	}
	// The nodes and the edges of the whole come from the context, the redex and the parameter.
	again, fine := impl.RenumberNodes(house(), whole, slices.Concat(rest, m.Nodes, inside), append(edges, images...))
	if !ok || !fine {
		t.Fatalf("the context %v and the parameter %v of %v in %v at %v recompose %v, %v", context, parameter, redex, agent, m, whole, ok)
	}
	wantResult(t, again, fine, agent, true, "the agent that %v recomposes at %v, with its own numbers,", redex, m)
	same, ok := impl.AreIsomorphic(house(), whole, agent)
	wantReport(t, same, ok, true, "AreIsomorphic(%v, %v)", whole, agent)
	return true
}

func TestRecomposedAgentsHaveTheirMatches(t *testing.T) {
	t.Parallel()
	r, counts := rand.New(rand.NewSource(152)), map[string]int{}
	for range 6000 {
		redex := randomRedex(r, 5)
		context, parameter := frameFor(r, redex, 1+r.Intn(3))
		agent, ok := impl.RecomposeMatch(house(), redex, context, parameter)
		if !ok || !isAgentAs(agent) {
			counts["none"]++
			continue
		}
		m := matchIn(redex, context)
		if all := allOf(t, redex, agent); !slices.ContainsFunc(all, func(n impl.Match) bool { return isSameMatch(m, n) }) && len(all) > 0 {
			t.Fatalf("AllMatches(%v, %v) leaves %v out", redex, agent, m)
		}
		if !isMatch(t, redex, agent, m) {
			t.Fatalf("IsMatch(%v, %v, %v) = false", redex, agent, m)
		}
		wantSameFrame(t, redex, agent, m, context, parameter)
		counts["recomposed"]++
	}
	wantAtLeast(t, counts, 2000, "recomposed")
}

// wantSameFrame checks that the Match of a recomposed agent has the places and the links of the
// context and the parameter.
func wantSameFrame(t *testing.T, redex impl.Bigraph, agent impl.Bigraph, m impl.Match, context impl.Bigraph, parameter impl.Bigraph) {
	t.Helper()
	links, ok := impl.MatchLinks(house(), redex, agent, m)
	want := numbersFrom(context.Edges, redex.Edges)
	for _, wire := range context.Inner {
		if slices.Contains(redex.Outer, wire.Name) {
			link := wire.Link
			if link >= context.Edges {
				link += agent.Edges - context.Edges
			}
			want = append(want, link)
		}
	}
	wantInts(t, links, ok, want, true, "MatchLinks(%v, %v, %v)", redex, agent, m)
	over, one := impl.MatchContext(house(), redex, agent, m)
	inside, two := impl.MatchParameter(house(), redex, agent, m)
	if !one || !two {
		t.Fatalf("there is no context or no parameter of %v in %v at %v", redex, agent, m)
	}
	placesOf := func(b impl.Bigraph) string {
		places := cloneOf(b)
		for k := range places.Nodes {
			places.Nodes[k].Links = nil
		}
		return fmt.Sprint(places.Roots, places.Nodes, places.Sites)
	}
	if placesOf(over) != placesOf(context) || placesOf(inside) != placesOf(parameter) {
		t.Fatalf("the parts of %v in %v at %v are %v and %v; want those of %v and %v", redex, agent, m, over, inside, context, parameter)
	}
}

func TestMatchesOfOtherNumbers(t *testing.T) {
	t.Parallel()
	r, counts := rand.New(rand.NewSource(153)), map[string]int{}
	for _, agent := range agentSamples(154, 800, 8) {
		redex, _ := redexIn(r, agent, 5)
		to, edges := randomNumbers(r, agent)
		own, ownEdges := randomNumbers(r, redex)
		moved := []impl.Match{}
		for _, m := range allOf(t, redex, agent) {
			n := movedMatch(m, to)
			for k, image := range m.Nodes {
				n.Nodes[own[k]] = to[image]
			}
			moved = append(moved, n)
		}
		slices.SortFunc(moved, func(m, n impl.Match) int { return slices.Compare(m.Nodes, n.Nodes) })
		got, ok := impl.AllMatches(house(), renumbered(redex, own, ownEdges), renumbered(agent, to, edges))
		wantMatches(t, got, ok, moved, len(moved) > 0, "AllMatches(%v, %v) with other numbers", redex, agent)
		counts[fmt.Sprint(min(2, len(moved)))]++
	}
	wantAtLeast(t, counts, 100, "1", "2")
}

func TestMatchesInPartsAreMatchesOfWholes(t *testing.T) {
	t.Parallel()
	r, counts := rand.New(rand.NewSource(155)), map[string]int{}
	for _, agent := range agentSamples(156, 3000, 5) {
		redex, m := redexIn(r, agent, 4)
		context := contextFor(r, agent)
		whole, ok := composition(context, agent)
		if !ok {
			continue
		}
		shifted := shiftedMatch(m, len(context.Nodes), func(root int) int { return context.Sites[root] })
		wantMatchOfWhole(t, redex, agent, m, whole, shifted, counts)
		open, active := wantActiveInWhole(t, redex, agent, m, context, whole, shifted)
		counts[fmt.Sprint(open, " ", active)]++
		for _, other := range agentSamples(r.Int63(), 1, 3) {
			if beside, ok := parallel(other, agent); ok {
				shifted = shiftedMatch(m, len(other.Nodes), func(root int) int { return -1 - other.Roots - root })
				wantMatchOfWhole(t, redex, agent, m, beside, shifted, counts)
			}
		}
	}
	wantAtLeast(t, counts, 20, "true true", "true false", "false true", "false false")
	wantAtLeast(t, counts, 500, "wholes")
}

// contextFor makes a context that fits an agent.
func contextFor(r *rand.Rand, agent impl.Bigraph) impl.Bigraph {
	context, _ := frameFor(r, impl.Bigraph{Roots: agent.Roots, Outer: agent.Outer}, 3)
	context.Inner = slices.DeleteFunc(context.Inner, func(w impl.Wire) bool { return !slices.Contains(agent.Outer, w.Name) })
	return context
}

// wantActiveInWhole checks that, where the context has no passive node above the place of a root,
// a Match is active in the whole exactly if it is in its part, and nowhere else. It reports whether
// there is no such node, and whether the Match is active in its part.
func wantActiveInWhole(t *testing.T, redex impl.Bigraph, part impl.Bigraph, m impl.Match, context impl.Bigraph, whole impl.Bigraph, shifted impl.Match) (open bool, active bool) {
	t.Helper()
	open, active = true, isActiveMatch(t, redex, part, m)
	for _, place := range shifted.Roots {
		for k, node := range context.Nodes {
			above := place == k || place >= 0 && isUnder(whole, place, k)
			open = open && (!above || house()[node.Control].Kind != impl.KindPassive)
		}
	}
	if is := isActiveMatch(t, redex, whole, shifted); is != (open && active) {
		t.Fatalf("%v of %v in %v is active: %v; in its part: %v", shifted, redex, whole, is, active)
	}
	return open, active
}

// shiftedMatch is a Match where so many nodes come before those of its agent, and places are in
// the place of its roots.
func shiftedMatch(m impl.Match, nodes int, rootTo func(int) int) impl.Match {
	shifted := cloneOfMatch(m)
	for k := range shifted.Nodes {
		shifted.Nodes[k] += nodes
	}
	for i, place := range shifted.Roots {
		if place >= 0 {
			shifted.Roots[i] = place + nodes
		} else {
			shifted.Roots[i] = rootTo(-1 - place)
		}
	}
	return shifted
}

func wantMatchOfWhole(t *testing.T, redex impl.Bigraph, agent impl.Bigraph, m impl.Match, whole impl.Bigraph, shifted impl.Match, counts map[string]int) {
	t.Helper()
	if !isMatch(t, redex, agent, m) || !isMatch(t, redex, whole, shifted) {
		t.Fatalf("%v is no Match of %v in %v, or %v none in %v", m, redex, agent, shifted, whole)
	}
	one, ok := impl.MatchParameter(house(), redex, agent, m)
	two, fine := impl.MatchParameter(house(), redex, whole, shifted)
	if ok && fine && (one.Roots != two.Roots || len(one.Nodes) != len(two.Nodes)) {
		t.Fatalf("the parameters of %v in %v and in %v are %v and %v", redex, agent, whole, one, two)
	}
	counts["wholes"]++
}

func TestSymmetriesMoveMatches(t *testing.T) {
	t.Parallel()
	r, counts := rand.New(rand.NewSource(157)), map[string]int{}
	for _, agent := range agentSamples(158, 500, 7) {
		redex, m := redexIn(r, agent, 5)
		all := allOf(t, redex, agent)
		symmetries, ok := impl.SymmetriesOf(house(), redex)
		others, fine := impl.SymmetriesOf(house(), agent)
		if !ok || !fine || len(all) == 0 {
			continue
		}
		// A symmetry keeps sites and roots, so the Nodes alone change.
		for _, symmetry := range symmetries {
			n := impl.Match{Roots: m.Roots}
			for _, k := range symmetry {
				n.Nodes = append(n.Nodes, m.Nodes[k])
			}
			if !isMatch(t, redex, agent, n) {
				t.Fatalf("%v, which is %v of %v in %v moved by a symmetry, is no Match", n, m, redex, agent)
			}
		}
		for _, symmetry := range others {
			n := movedMatch(m, symmetry)
			if !isMatch(t, redex, agent, n) {
				t.Fatalf("%v, which is %v of %v in %v moved by a symmetry, is no Match", n, m, redex, agent)
			}
		}
		if len(all)%len(symmetries) != 0 {
			t.Fatalf("%v has %d Matches in %v, but %d symmetries", redex, len(all), agent, len(symmetries))
		}
		counts[fmt.Sprint(len(symmetries) > 1, len(others) > 1)]++
	}
	wantAtLeast(t, counts, 10, "true true", "false true", "false false")
}

func TestRedexesMatchThemselves(t *testing.T) {
	t.Parallel()
	r, counts := rand.New(rand.NewSource(159)), map[string]int{}
	for range 1500 {
		redex := randomRedex(r, 6)
		agent := cloneOf(redex)
		agent.Sites = nil
		m := impl.Match{Nodes: numbersFrom(0, len(redex.Nodes)), Roots: negatives(numbersFrom(0, redex.Roots))}
		if !isMatch(t, redex, agent, m) || !isActiveMatch(t, redex, agent, m) {
			t.Fatalf("%v is no active Match of %v in itself", m, redex)
		}
		links, ok := impl.MatchLinks(house(), redex, agent, m)
		wantInts(t, links, ok, numbersFrom(0, redex.Edges+len(redex.Outer)), true, "MatchLinks(%v) in itself", redex)
		context, ok := impl.MatchContext(house(), redex, agent, m)
		wantResult(t, context, ok, identityAs(redex.Roots, redex.Outer), true, "MatchContext(%v) in itself", redex)
		parameter, ok := impl.MatchParameter(house(), redex, agent, m)
		wantResult(t, parameter, ok, impl.Bigraph{Roots: len(redex.Sites)}, true, "MatchParameter(%v) in itself", redex)
		whole, ok := impl.RecomposeMatch(house(), redex, context, parameter)
		wantResult(t, whole, ok, agent, true, "RecomposeMatch(%v) in itself", redex)
		if len(redex.Sites) == 0 {
			wantSymmetries(t, redex, counts)
		}
	}
	wantAtLeast(t, counts, 300, "no sites")
}

// wantSymmetries checks that the Matches of an agent in itself that keep its roots, its edges and
// its names are its symmetries.
func wantSymmetries(t *testing.T, agent impl.Bigraph, counts map[string]int) {
	t.Helper()
	symmetries, ok := impl.SymmetriesOf(house(), agent)
	all := allOf(t, agent, agent)
	if !ok || len(all) == 0 {
		return
	}
	kept := [][]int{}
	for _, m := range all {
		links, _ := impl.MatchLinks(house(), agent, agent, m)
		names := numbersFrom(agent.Edges, len(agent.Outer))
		if slices.Equal(m.Roots, negatives(numbersFrom(0, agent.Roots))) && slices.Equal(links[agent.Edges:], names) {
			kept = append(kept, m.Nodes)
		}
	}
	if fmt.Sprint(kept) != fmt.Sprint(symmetries) {
		t.Fatalf("the Matches of %v in itself that keep its faces are %v; want its symmetries %v", agent, kept, symmetries)
	}
	counts["no sites"]++
}

func TestMatchesTellTheirRoots(t *testing.T) {
	t.Parallel()
	r := rand.New(rand.NewSource(160))
	for _, agent := range agentSamples(161, 300, 6) {
		redex, m := redexIn(r, agent, 4)
		for root := range m.Roots {
			for place := -agent.Roots; place < len(agent.Nodes); place++ {
				other := cloneOfMatch(m)
				other.Roots[root] = place
				if is := isMatch(t, redex, agent, other); is != (place == m.Roots[root]) {
					t.Fatalf("IsMatch(%v, %v, %v) = %v", redex, agent, other, is)
				}
			}
		}
	}
}

func TestCountsOfMatchesAgree(t *testing.T) {
	t.Parallel()
	r := rand.New(rand.NewSource(162))
	for _, agent := range agentSamples(163, 800, 7) {
		for _, redex := range redexesFor(r, agent, 5) {
			all, ok := impl.AllMatches(house(), redex, agent)
			sets, setsOK := impl.ImageSets(house(), redex, agent)
			active, count, countOK := impl.CountActive(house(), redex, agent)
			if ok != setsOK || ok != countOK || count != len(all) || active > count || len(sets) > count {
				t.Fatalf("%v has %d Matches in %v, %d sets of images, and CountActive = %d, %d", redex, len(all), agent, len(sets), active, count)
			}
			for i, m := range all {
				if i > 0 && slices.Compare(all[i-1].Nodes, m.Nodes) >= 0 {
					t.Fatalf("AllMatches(%v, %v) does not ascend: %v", redex, agent, all)
				}
				if !isMatch(t, redex, agent, m) || !slices.ContainsFunc(sets, func(set []int) bool { return slices.Equal(set, slices.Sorted(slices.Values(m.Nodes))) }) {
					t.Fatalf("%v of AllMatches(%v, %v) is no Match, or not among the sets %v", m, redex, agent, sets)
				}
				if isActiveMatch(t, redex, agent, m) {
					active--
				}
			}
			if active != 0 || !slices.IsSortedFunc(sets, slices.Compare[[]int]) {
				t.Fatalf("CountActive or ImageSets of %v in %v are wrong: %v", redex, agent, sets)
			}
		}
	}
}
