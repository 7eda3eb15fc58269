package tests

import (
	"fmt"
	"math/rand"
	"slices"
	"strings"

	"loop.example/g01082/impl"
)

// ordersOf are all lists of the numbers 0..n-1, each once, in lexicographic order.
func ordersOf(n int) [][]int {
	list := [][]int{{}}
	for range n {
		longer := [][]int{}
		for _, order := range list {
			for k := range n {
				if !slices.Contains(order, k) {
					longer = append(longer, append(slices.Clone(order), k))
				}
			}
		}
		list = longer
	}
	return list
}

// factsOf tells a Bigraph in which the node k is called to[k] by sentences without an order, in
// which an edge has no number, but only its points. So two Bigraphs have the same facts exactly
// if one of them is the other one with these nodes and with other numbers of edges.
func factsOf(b impl.Bigraph, to []int) string {
	place := func(p int) string {
		if p < 0 {
			return fmt.Sprint("root ", -1-p)
		}
		return fmt.Sprint("node ", to[p])
	}
	points := map[int][]string{}
	facts := []string{fmt.Sprint(b.Roots, " roots")}
	for k, node := range b.Nodes {
		facts = append(facts, fmt.Sprintf("node %d has the control %d and is in %s", to[k], node.Control, place(node.Parent)))
		for i, link := range node.Links {
			points[link] = append(points[link], fmt.Sprintf("port %d of node %d", i, to[k]))
		}
	}
	for i, parent := range b.Sites {
		facts = append(facts, fmt.Sprintf("site %d is in %s", i, place(parent)))
	}
	for _, wire := range b.Inner {
		points[wire.Link] = append(points[wire.Link], wire.Name)
	}
	for link := range b.Edges + len(b.Outer) {
		name := "an edge"
		if link >= b.Edges {
			name = b.Outer[link-b.Edges]
		}
		slices.Sort(points[link])
		facts = append(facts, name+" has "+strings.Join(points[link], ", "))
	}
	slices.Sort(facts)
	return strings.Join(facts, "; ")
}

func isTranslationAs(a impl.Bigraph, b impl.Bigraph, nodes []int) bool {
	return len(nodes) == len(a.Nodes) && len(nodes) == len(b.Nodes) && hasEach(nodes) &&
		factsOf(a, nodes) == factsOf(b, numbersFrom(0, len(b.Nodes)))
}

// translationsAs lists all translations in lexicographic order.
func translationsAs(a impl.Bigraph, b impl.Bigraph) [][]int {
	list := [][]int{}
	if len(a.Nodes) != len(b.Nodes) {
		return list
	}
	want := factsOf(b, numbersFrom(0, len(b.Nodes)))
	for _, nodes := range ordersOf(len(a.Nodes)) {
		if factsOf(a, nodes) == want {
			list = append(list, nodes)
		}
	}
	return list
}

// shapeOf is the same for two Bigraphs exactly if they are isomorphic.
func shapeOf(b impl.Bigraph) string {
	shape := ""
	for i, to := range ordersOf(len(b.Nodes)) {
		if facts := factsOf(b, to); i == 0 || facts < shape {
			shape = facts
		}
	}
	return shape
}

// edgesAs lists the edges of a translation: those with points have their members by these, and
// the idle ones follow in order.
func edgesAs(a impl.Bigraph, b impl.Bigraph, nodes []int) []int {
	of := func(b impl.Bigraph, to []int) []string {
		list := slices.Repeat([]string{""}, b.Edges)
		tell := func(link int, point string) {
			// One point is enough to know an edge, so the least one is kept.
			if link < b.Edges && (list[link] == "" || point < list[link]) {
				list[link] = point
			}
		}
		for k, node := range b.Nodes {
			for i, link := range node.Links {
				tell(link, fmt.Sprint(to[k], "/", i))
			}
		}
		for _, wire := range b.Inner {
			tell(wire.Link, wire.Name)
		}
		return list
	}
	edges, there := []int{}, of(b, numbersFrom(0, len(b.Nodes)))
	for _, point := range of(a, nodes) {
		member := slices.Index(there, point)
		there[member] = "taken"
		edges = append(edges, member)
	}
	return edges
}

func orbitsAs(symmetries [][]int) []int {
	orbits := slices.Clone(symmetries[0])
	for _, symmetry := range symmetries {
		for k, member := range symmetry {
			orbits[k] = min(orbits[k], member)
		}
	}
	return orbits
}

// classesAs splits classes by words that tell all that the document names.
func classesAs(b impl.Bigraph) []int {
	words := []string{}
	for _, node := range b.Nodes {
		words = append(words, fmt.Sprint(node.Control))
	}
	for range 10 {
		next := []string{}
		for k := range b.Nodes {
			next = append(next, classWord(b, words, k))
		}
		words = next
	}
	classes := []int{}
	for _, word := range words {
		classes = append(classes, slices.Index(words, word))
	}
	return classes
}

// classWord tells what decides on the class of a node, where classes are called by the first
// nodes that have their words.
func classWord(b impl.Bigraph, words []string, k int) string {
	class := func(node int) string { return fmt.Sprint("c", slices.Index(words, words[node])) }
	above, children, sites := fmt.Sprint(b.Nodes[k].Parent), []string{}, 0
	if parent := b.Nodes[k].Parent; parent >= 0 {
		above = class(parent)
	}
	for child, node := range b.Nodes {
		if node.Parent == k {
			children = append(children, class(child))
		}
	}
	for _, parent := range b.Sites {
		if parent == k {
			sites++
		}
	}
	slices.Sort(children)
	links := []string{}
	for _, link := range b.Nodes[k].Links {
		if link >= b.Edges {
			links = append(links, b.Outer[link-b.Edges])
			continue
		}
		points := []string{}
		for other, node := range b.Nodes {
			for i, end := range node.Links {
				if end == link {
					points = append(points, fmt.Sprint(class(other), "/", i))
				}
			}
		}
		for _, wire := range b.Inner {
			if wire.Link == link {
				points = append(points, "inner "+wire.Name)
			}
		}
		slices.Sort(points)
		links = append(links, fmt.Sprint(points))
	}
	return fmt.Sprint(class(k), above, children, sites, links)
}

// codeAs tells the code, and the edges in the order in which they occur in it.
func codeAs(b impl.Bigraph) (code []int, edges []int) {
	place := func(p int) int {
		if p < 0 {
			return -1 - p
		}
		return 4 + p
	}
	tellLink := func(link int) {
		if link >= b.Edges {
			code = append(code, link-b.Edges)
			return
		}
		if !slices.Contains(edges, link) {
			edges = append(edges, link)
		}
		code = append(code, 16+slices.Index(edges, link))
	}
	for _, node := range b.Nodes {
		code = append(code, node.Control, place(node.Parent))
		for _, link := range node.Links {
			tellLink(link)
		}
	}
	for _, parent := range b.Sites {
		code = append(code, place(parent))
	}
	for _, wire := range b.Inner {
		tellLink(wire.Link)
	}
	return code, edges
}

// canonicalAs tries all orders of the nodes: it tells the first one that gives the least code,
// how many do, and the canonical form.
func canonicalAs(b impl.Bigraph) (order []int, count int, form impl.Bigraph) {
	least := []int(nil)
	for _, nodes := range ordersOf(len(b.Nodes)) {
		other := renumbered(b, inverseOf(nodes), numbersFrom(0, b.Edges))
		if !isFine(house(), other) {
			continue
		}
		code, _ := codeAs(other)
		switch n := slices.Compare(code, least); {
		case count == 0 || n < 0:
			order, count, least, form = nodes, 1, code, other
		case n == 0:
			count++
		}
	}
	_, edges := codeAs(form)
	for edge := range form.Edges {
		if !slices.Contains(edges, edge) {
			edges = append(edges, edge)
		}
	}
	return order, count, renumbered(form, numbersFrom(0, len(form.Nodes)), inverseOf(edges))
}

// randomNumbers makes lists with which RenumberNodes does not fail.
func randomNumbers(r *rand.Rand, b impl.Bigraph) (to []int, edges []int) {
	to = make([]int, len(b.Nodes))
	placed := map[int]bool{}
	for next := range b.Nodes {
		free := []int{}
		for k, node := range b.Nodes {
			if !placed[k] && (node.Parent < 0 || placed[node.Parent]) {
				free = append(free, k)
			}
		}
		k := pick(r, free)
		to[k], placed[k] = next, true
	}
	return to, r.Perm(b.Edges)
}

// shuffled gives other numbers to nodes and edges.
func shuffled(r *rand.Rand, b impl.Bigraph) impl.Bigraph {
	to, edges := randomNumbers(r, b)
	return renumbered(b, to, edges)
}

// randomAlike makes a Bigraph with up to so many nodes, many of which are alike: it has few
// Controls, few parents and few links, or an edge for each port as long as there are edges.
func randomAlike(r *rand.Rand, most int) impl.Bigraph {
	sig, nodes := house(), r.Intn(most+1)
	b := impl.Bigraph{Roots: 1 + r.Intn(2), Edges: r.Intn(9), Outer: someOf(r, sortedWords[:4], 3)}
	controls, parents := r.Perm(len(sig))[:1+r.Intn(2)], []int{-1, -b.Roots}
	own, next, few := r.Intn(2) == 0, 0, 1+r.Intn(3)
	links := b.Edges + len(b.Outer)
	for range nodes {
		c := pick(r, controls)
		if links == 0 && sig[c].Ports > 0 {
			continue
		}
		node := impl.Node{Control: c, Parent: pick(r, parents)}
		for range sig[c].Ports {
			link := r.Intn(min(few, max(links, 1)))
			if own && next < b.Edges {
				link, next = next, next+1
			}
			node.Links = append(node.Links, link)
		}
		b.Nodes = append(b.Nodes, node)
		if sig[c].Kind != impl.KindAtomic && r.Intn(3) == 0 {
			parents = append(parents, len(b.Nodes)-1)
		}
	}
	for range r.Intn(3) * r.Intn(2) {
		b.Sites = append(b.Sites, pick(r, parents))
	}
	for _, name := range someOf(r, sortedWords[:3], r.Intn(4)) {
		if links > 0 {
			b.Inner = append(b.Inner, impl.Wire{Name: name, Link: r.Intn(min(few, links))})
		}
	}
	return shuffled(r, b)
}

// randomCopies puts two or three copies of a Bigraph into one root, so that whole groups of
// nodes and edges are alike.
func randomCopies(r *rand.Rand, most int) impl.Bigraph {
	copies := 2 + r.Intn(2)
	part := impl.Bigraph{Roots: 1, Edges: r.Intn(8/copies + 1), Outer: someOf(r, sortedWords[:3], 2)}
	part = randomInside(r, part, most/copies, 0, nil)
	whole := impl.Bigraph{Roots: 1}
	for range copies {
		whole, _ = mergeProductAs(whole, part)
	}
	if len(whole.Nodes) < most && r.Intn(3) == 0 {
		// One more node can make one of the copies different.
		whole.Nodes = append(whole.Nodes, impl.Node{Control: 0, Parent: r.Intn(len(whole.Nodes)+1) - 1})
	}
	if !isFine(house(), whole) {
		whole.Nodes = whole.Nodes[:len(whole.Nodes)-1]
	}
	return shuffled(r, whole)
}

// alikeSamples are Bigraphs with at most so many nodes: many with nodes or edges that are alike.
func alikeSamples(seed int64, count int, most int) []impl.Bigraph {
	r, list := rand.New(rand.NewSource(seed)), []impl.Bigraph{}
	for len(list) < count {
		b := randomInside(r, impl.Bigraph{Roots: 1 + r.Intn(3), Edges: r.Intn(9), Outer: randomNames(r, 2)}, most, 3, randomNames(r, 3))
		list = append(list, randomAlike(r, most), randomCopies(r, most), b)
	}
	return list
}

// smallBigraphs are all Bigraphs over house with so many roots, nodes and edges and these outer
// names, without an inner face, whose nodes are rooms and doors.
func smallBigraphs(roots int, nodes int, edges int, outer []string) []impl.Bigraph {
	list := []impl.Bigraph{{Roots: roots, Edges: edges, Outer: outer}}
	for range nodes {
		longer := []impl.Bigraph{}
		for _, b := range list {
			longer = append(longer, withNodeBehind(b)...)
		}
		list = longer
	}
	return list
}

// withNodeBehind adds one node in all ways.
func withNodeBehind(b impl.Bigraph) []impl.Bigraph {
	list := []impl.Bigraph{}
	add := func(node impl.Node) {
		other := cloneOf(b)
		other.Nodes = append(other.Nodes, node)
		list = append(list, other)
	}
	for parent := -b.Roots; parent < len(b.Nodes); parent++ {
		add(impl.Node{Control: 0, Parent: parent})
		for x := range b.Edges + len(b.Outer) {
			for y := range b.Edges + len(b.Outer) {
				add(impl.Node{Control: 2, Parent: parent, Links: []int{x, y}})
			}
		}
	}
	return list
}
