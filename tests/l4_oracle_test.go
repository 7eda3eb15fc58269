package tests

import (
	"fmt"
	"math/rand"
	"slices"
	"strings"

	"loop.example/g01082/impl"
)

// A drawing tells places and links by words, so that Bigraphs are put together by writing other
// words in the place of some. The word of an outer name is the name itself; the other words have
// a dot. For sites and inner names, it tells the words of their parents and links.
type drawing struct {
	roots []string
	nodes []drawnNode
	sites []string
	edges []string
	outer []string
	inner []drawnWire
}

type drawnNode struct {
	word    string
	control int
	parent  string
	links   []string
}

type drawnWire struct{ name, link string }

// drawn draws a Bigraph; the mark makes the words different from those of another drawing.
func drawn(b impl.Bigraph, mark string) drawing {
	d := drawing{outer: slices.Clone(b.Outer)}
	for root := range b.Roots {
		d.roots = append(d.roots, fmt.Sprintf("%s.root%d", mark, root))
	}
	place := func(n int) string {
		if n < 0 {
			return d.roots[-1-n]
		}
		return fmt.Sprintf("%s.node%d", mark, n)
	}
	for edge := range b.Edges {
		d.edges = append(d.edges, fmt.Sprintf("%s.edge%d", mark, edge))
	}
	links := slices.Concat(d.edges, d.outer)
	for k, node := range b.Nodes {
		words := []string{}
		for _, link := range node.Links {
			words = append(words, links[link])
		}
		d.nodes = append(d.nodes, drawnNode{place(k), node.Control, place(node.Parent), words})
	}
	for _, parent := range b.Sites {
		d.sites = append(d.sites, place(parent))
	}
	for _, wire := range b.Inner {
		d.inner = append(d.inner, drawnWire{wire.Name, links[wire.Link]})
	}
	return d
}

// with writes other words for parents and links.
func (d drawing) with(words map[string]string) drawing {
	to := func(word string) string {
		if other, ok := words[word]; ok {
			return other
		}
		return word
	}
	changed := d
	changed.nodes, changed.sites, changed.inner = nil, nil, nil
	for _, node := range d.nodes {
		links := []string{}
		for _, link := range node.links {
			links = append(links, to(link))
		}
		changed.nodes = append(changed.nodes, drawnNode{node.word, node.control, to(node.parent), links})
	}
	for _, parent := range d.sites {
		changed.sites = append(changed.sites, to(parent))
	}
	for _, wire := range d.inner {
		changed.inner = append(changed.inner, drawnWire{wire.name, to(wire.link)})
	}
	return changed
}

// bigraph reads a drawing; it fails if what is drawn is not valid over house.
func (d drawing) bigraph() (impl.Bigraph, bool) {
	b := d.numbered()
	if !isFine(house(), b) {
		return impl.Bigraph{}, false
	}
	return b, true
}

// numbered tells the words of a drawing by numbers.
func (d drawing) numbered() impl.Bigraph {
	b := impl.Bigraph{Roots: len(d.roots), Edges: len(d.edges), Outer: slices.Sorted(slices.Values(d.outer))}
	places, links := map[string]int{}, map[string]int{}
	for i, word := range d.roots {
		places[word] = -1 - i
	}
	for k, node := range d.nodes {
		places[node.word] = k
	}
	for i, word := range slices.Concat(d.edges, b.Outer) {
		links[word] = i
	}
	for _, node := range d.nodes {
		numbers := []int{}
		for _, word := range node.links {
			numbers = append(numbers, numberFor(links, word))
		}
		b.Nodes = append(b.Nodes, impl.Node{Control: node.control, Parent: numberFor(places, node.parent), Links: numbers})
	}
	for _, word := range d.sites {
		b.Sites = append(b.Sites, numberFor(places, word))
	}
	slices.SortFunc(d.inner, func(x, y drawnWire) int { return strings.Compare(x.name, y.name) })
	for _, wire := range d.inner {
		b.Inner = append(b.Inner, impl.Wire{Name: wire.name, Link: numberFor(links, wire.link)})
	}
	return b
}

func numberFor(words map[string]int, word string) int {
	n, ok := words[word]
	if !ok {
		panic("nothing is drawn for " + word)
	}
	return n
}

// beside draws all of two drawings; a common outer name is the same word.
func (d drawing) beside(e drawing) drawing {
	return drawing{
		roots: slices.Concat(d.roots, e.roots),
		nodes: slices.Concat(d.nodes, e.nodes),
		sites: slices.Concat(d.sites, e.sites),
		edges: slices.Concat(d.edges, e.edges),
		outer: distinct(slices.Concat(d.outer, e.outer)),
		inner: slices.Concat(d.inner, e.inner),
	}
}

// around puts the roots of e into the sites of d; it keeps all outer names.
func (d drawing) around(e drawing) drawing {
	words := map[string]string{}
	for i, root := range e.roots {
		words[root] = d.sites[i]
	}
	e = e.with(words)
	whole := d.beside(e)
	whole.roots, whole.sites = d.roots, e.sites
	return whole
}

func fitsAs(a impl.Bigraph, b impl.Bigraph) bool {
	return len(a.Sites) == b.Roots && fmt.Sprint(innerOf(a)) == fmt.Sprint(b.Outer)
}

func composedAs(a impl.Bigraph, b impl.Bigraph) (impl.Bigraph, bool) {
	if !fitsAs(a, b) {
		return impl.Bigraph{}, false
	}
	return drawnAfter(a, b).bigraph()
}

// drawnAfter draws one Bigraph after another one that fits, whatever the size of the whole.
func drawnAfter(a impl.Bigraph, b impl.Bigraph) drawing {
	d, e, words := drawn(a, "a"), drawn(b, "b"), map[string]string{}
	for _, wire := range d.inner {
		words[wire.name] = wire.link
	}
	e = e.with(words)
	whole := d.around(e)
	whole.outer, whole.inner = d.outer, e.inner
	return whole
}

func parallelAs(a impl.Bigraph, b impl.Bigraph) (impl.Bigraph, bool) {
	return drawn(a, "a").beside(drawn(b, "b")).bigraph()
}

func haveCommon(a []string, b []string) bool {
	return slices.ContainsFunc(a, func(name string) bool { return slices.Contains(b, name) })
}

func juxtaposedAs(a impl.Bigraph, b impl.Bigraph) (impl.Bigraph, bool) {
	if haveCommon(a.Outer, b.Outer) || haveCommon(innerOf(a), innerOf(b)) {
		return impl.Bigraph{}, false
	}
	return parallelAs(a, b)
}

func mergedAs(b impl.Bigraph) impl.Bigraph {
	d, words := drawn(b, "b"), map[string]string{}
	for _, root := range d.roots {
		words[root] = "one.root"
	}
	d = d.with(words)
	d.roots = []string{"one.root"}
	merged, _ := d.bigraph()
	return merged
}

func mergeProductAs(a impl.Bigraph, b impl.Bigraph) (impl.Bigraph, bool) {
	whole, ok := parallelAs(a, b)
	if !ok {
		return whole, false
	}
	return mergedAs(whole), true
}

func nestedAs(a impl.Bigraph, b impl.Bigraph) (impl.Bigraph, bool) {
	if len(a.Inner) > 0 || len(a.Sites) != b.Roots {
		return impl.Bigraph{}, false
	}
	return drawn(a, "a").around(drawn(b, "b")).bigraph()
}

func without(list []string, word string) []string {
	return slices.DeleteFunc(slices.Clone(list), func(other string) bool { return other == word })
}

func closedAs(b impl.Bigraph, name string) (impl.Bigraph, bool) {
	if !slices.Contains(b.Outer, name) {
		return impl.Bigraph{}, false
	}
	d := drawn(b, "b").with(map[string]string{name: "new.edge"})
	d.edges, d.outer = append(d.edges, "new.edge"), without(d.outer, name)
	return d.bigraph()
}

func openedAs(b impl.Bigraph, edge int, name string) (impl.Bigraph, bool) {
	if edge < 0 || edge >= b.Edges || slices.Contains(b.Outer, name) {
		return impl.Bigraph{}, false
	}
	d := drawn(b, "b")
	word := d.edges[edge]
	d = d.with(map[string]string{word: name})
	d.edges, d.outer = without(d.edges, word), append(d.outer, name)
	return d.bigraph()
}

func addedAs(b impl.Bigraph, name string) (impl.Bigraph, bool) {
	d := drawn(b, "b")
	// A name that is there twice is not valid.
	d.outer = append(d.outer, name)
	return d.bigraph()
}

func joinedAs(b impl.Bigraph, from string, to string) (impl.Bigraph, bool) {
	if from == to || !slices.Contains(b.Outer, from) || !slices.Contains(b.Outer, to) {
		return impl.Bigraph{}, false
	}
	d := drawn(b, "b").with(map[string]string{from: to})
	d.outer = without(d.outer, from)
	return d.bigraph()
}

// cutAs also tells the nodes and the edges of the agent in the order in which they are those of
// the first Bigraph, and then of the second one.
func cutAs(b impl.Bigraph, node int) (above, below impl.Bigraph, nodes, edges []int, possible bool) {
	if len(b.Sites)+len(b.Inner) > 0 || node < 0 || node >= len(b.Nodes) || house()[b.Nodes[node].Control].Kind == impl.KindAtomic {
		return
	}
	d := drawn(b, "b")
	links, under := slices.Concat(d.edges, d.outer), []int{}
	over, inside := d, drawing{roots: []string{d.nodes[node].word}}
	over.nodes, over.edges, over.sites = nil, nil, inside.roots
	for k := range b.Nodes {
		if isUnder(b, k, node) {
			inside.nodes, under = append(inside.nodes, d.nodes[k]), append(under, k)
		} else {
			over.nodes, nodes = append(over.nodes, d.nodes[k]), append(nodes, k)
		}
	}
	words, own := map[string]string{}, []int{}
	for i, link := range links {
		ends, here := hasPort(over, link), hasPort(inside, link)
		switch {
		case i < b.Edges && here && !ends:
			inside.edges, own = append(inside.edges, link), append(own, i)
			continue
		case i < b.Edges:
			over.edges, edges = append(over.edges, link), append(edges, i)
		}
		if here {
			words[link] = string("abcdefghijklmnopqrstuvwxyz"[i])
			inside.outer = append(inside.outer, words[link])
			over.inner = append(over.inner, drawnWire{words[link], link})
		}
	}
	above, fine := over.bigraph()
	below, possible = inside.with(words).bigraph()
	if !fine || !possible {
		return impl.Bigraph{}, impl.Bigraph{}, nil, nil, false
	}
	return above, below, append(nodes, under...), append(edges, own...), true
}

func hasPort(d drawing, link string) bool {
	return slices.ContainsFunc(d.nodes, func(n drawnNode) bool { return slices.Contains(n.links, link) })
}

// sortedWords are names of several lengths in ascending order.
var sortedWords = slices.Sorted(slices.Values(wordsOver("abz", 3)[1:]))

// someOf picks at most most elements of a list: none, all, or some.
func someOf[E any](r *rand.Rand, list []E, most int) []E {
	some := []E{}
	share := r.Intn(4)
	for _, element := range list {
		if r.Intn(3) < share && len(some) < most {
			some = append(some, element)
		}
	}
	return some
}

// randomChain makes Bigraphs of which each one fits after the one before it, with at most so
// many nodes and edges, roots and sites each, and with names from some words.
func randomChain(r *rand.Rand, length int, most int, places int, words []string) []impl.Bigraph {
	list, roots, names := []impl.Bigraph{}, r.Intn(places+1), someOf(r, words, 16)
	for range length {
		b := impl.Bigraph{Roots: roots, Edges: r.Intn(most + 1), Outer: slices.Clone(names)}
		b = randomInside(r, b, most, places, someOf(r, words, 16))
		list = append(list, b)
		roots, names = len(b.Sites), innerOf(b)
	}
	return list
}

// chainWords are names for chains: few ones, or more than a Bigraph may have.
func chainWords() [][]string { return [][]string{sortedWords[:3], sortedWords[5:25]} }

// everySecond lists some words, from the first or from the second one on.
func everySecond(first int) []string {
	list := []string{}
	for k := first; k < 16; k += 2 {
		list = append(list, sortedWords[k])
	}
	return list
}

// randomParts makes small Bigraphs, whose names are often different.
func randomParts(r *rand.Rand, length int) []impl.Bigraph {
	list := []impl.Bigraph{}
	for i := range length {
		own := []string{}
		for k := i; k < len(sortedWords); k += length {
			own = append(own, sortedWords[k])
		}
		outer, inner := own, own
		if r.Intn(3) == 0 {
			outer = sortedWords[:8]
		}
		if r.Intn(9) == 0 {
			inner = sortedWords[:8]
		}
		b := impl.Bigraph{Roots: r.Intn(3), Edges: r.Intn(4), Outer: someOf(r, outer, 6)}
		list = append(list, randomInside(r, b, 3, 2, someOf(r, inner, 5)))
	}
	return list
}

// randomAgent makes an agent with more nodes under others than most Bigraphs have.
func randomAgent(r *rand.Rand) impl.Bigraph {
	b := impl.Bigraph{Roots: 1 + r.Intn(2), Edges: r.Intn(9), Outer: someOf(r, sortedWords, pick(r, []int{2, 16}))}
	return randomInside(r, b, 8, 0, nil)
}
