package tests

import (
	"fmt"
	"math/rand"
	"regexp"
	"slices"
	"strconv"
	"strings"

	"loop.example/g01082/impl"
)

// house is a signature with Controls of all Kinds and all numbers of ports.
func house() []impl.Control {
	return []impl.Control{
		{Name: "room", Ports: 0, Kind: impl.KindActive},
		{Name: "key", Ports: 1, Kind: impl.KindActive},
		{Name: "door", Ports: 2, Kind: impl.KindPassive},
		{Name: "pen", Ports: 3, Kind: impl.KindAtomic},
		{Name: "dot", Ports: 0, Kind: impl.KindAtomic},
		{Name: "box", Ports: 1, Kind: impl.KindPassive},
	}
}

// cloneOf copies a Bigraph with all its lists.
func cloneOf(b impl.Bigraph) impl.Bigraph {
	b.Nodes = slices.Clone(b.Nodes)
	for k := range b.Nodes {
		b.Nodes[k].Links = slices.Clone(b.Nodes[k].Links)
	}
	b.Sites, b.Outer, b.Inner = slices.Clone(b.Sites), slices.Clone(b.Outer), slices.Clone(b.Inner)
	return b
}

// isSame compares two Bigraphs; a nil list is an empty one.
func isSame(a impl.Bigraph, b impl.Bigraph) bool {
	nodes := slices.EqualFunc(a.Nodes, b.Nodes, func(x, y impl.Node) bool {
		return x.Control == y.Control && x.Parent == y.Parent && slices.Equal(x.Links, y.Links)
	})
	return nodes && a.Roots == b.Roots && a.Edges == b.Edges && slices.Equal(a.Sites, b.Sites) &&
		slices.Equal(a.Outer, b.Outer) && slices.Equal(a.Inner, b.Inner)
}

func pick[E any](r *rand.Rand, list []E) E { return list[r.Intn(len(list))] }

// nameWords are names of all lengths.
var nameWords = wordsOver("abz", 4)[1:]

// randomNames makes at most most names in ascending order.
func randomNames(r *rand.Rand, most int) []string {
	list := []string{}
	for range r.Intn(most + 1) {
		list = append(list, pick(r, nameWords))
	}
	slices.Sort(list)
	return slices.Compact(list)
}

// randomBigraph makes a Bigraph over house.
func randomBigraph(r *rand.Rand) impl.Bigraph {
	b := impl.Bigraph{Roots: r.Intn(5), Edges: r.Intn(9), Outer: randomNames(r, pick(r, []int{2, 16}))}
	return randomInside(r, b, 8, 4, randomNames(r, pick(r, []int{2, 16})))
}

// randomInside adds up to so many nodes and sites to a Bigraph over house without any, and inner
// names if there is a link for them.
func randomInside(r *rand.Rand, b impl.Bigraph, nodes int, sites int, inner []string) impl.Bigraph {
	sig := house()
	links := b.Edges + len(b.Outer)
	parents := []int{}
	for root := range b.Roots {
		parents = append(parents, -1-root)
	}
	for k := range r.Intn(nodes + 1) {
		c := r.Intn(len(sig))
		if len(parents) == 0 || links == 0 && sig[c].Ports > 0 {
			break
		}
		node := impl.Node{Control: c, Parent: pick(r, parents)}
		for range sig[c].Ports {
			node.Links = append(node.Links, r.Intn(links))
		}
		b.Nodes = append(b.Nodes, node)
		if sig[c].Kind != impl.KindAtomic {
			parents = append(parents, k)
		}
	}
	for range r.Intn(sites + 1) {
		if len(parents) > 0 {
			b.Sites = append(b.Sites, pick(r, parents))
		}
	}
	for _, name := range inner {
		if links > 0 {
			b.Inner = append(b.Inner, impl.Wire{Name: name, Link: r.Intn(links)})
		}
	}
	return b
}

// sampleBigraphs are Bigraphs over house: some at the limits, and many made at random.
func sampleBigraphs() []impl.Bigraph {
	list := []impl.Bigraph{{}, {Roots: 4}, {Edges: 8}, {Outer: []string{"x"}}, fullBigraph()}
	r := rand.New(rand.NewSource(2))
	for range 400 {
		list = append(list, randomBigraph(r))
	}
	return list
}

// fullBigraph has the greatest numbers of all that a Bigraph over house has.
func fullBigraph() impl.Bigraph {
	b := impl.Bigraph{Roots: 4, Edges: 8, Sites: []int{-4, 7, 0, -1}}
	for k := range 8 {
		b.Nodes = append(b.Nodes, impl.Node{Control: 2, Parent: k - 1, Links: []int{k, 23 - k}})
	}
	for _, c := range "abcdefghijklmnop" {
		b.Outer = append(b.Outer, strings.Repeat(string(c), 4))
		b.Inner = append(b.Inner, impl.Wire{Name: strings.Repeat(string(c), 4), Link: 23})
	}
	return b
}

// textOf writes a Bigraph as the document says it.
func textOf(sig []impl.Control, b impl.Bigraph) string {
	s := fmt.Sprint(b.Roots)
	for _, node := range b.Nodes {
		s += fmt.Sprintf("; %s@%d", sig[node.Control].Name, node.Parent)
		for _, link := range node.Links {
			s += fmt.Sprintf(" %d", link)
		}
	}
	s += "; sites"
	for _, parent := range b.Sites {
		s += fmt.Sprintf(" %d", parent)
	}
	s += fmt.Sprintf("; %d; outer", b.Edges)
	for _, name := range b.Outer {
		s += " " + name
	}
	s += "; inner"
	for _, wire := range b.Inner {
		s += fmt.Sprintf(" %s=%d", wire.Name, wire.Link)
	}
	return s
}

var namePattern = regexp.MustCompile(`\A[a-z]{1,4}\z`)

// ascend reports whether a list has names in strictly ascending order, at most 16.
func ascend(list []string) bool {
	sorted := slices.Compact(slices.Sorted(slices.Values(list)))
	for _, name := range list {
		if !namePattern.MatchString(name) {
			return false
		}
	}
	return slices.Equal(sorted, list) && len(list) <= 16
}

// isFine says whether a Bigraph is valid over a signature, by lists of all that is allowed.
func isFine(sig []impl.Control, b impl.Bigraph) bool {
	if b.Roots < 0 || b.Roots > 4 || b.Edges < 0 || b.Edges > 8 || len(b.Nodes) > 8 || len(b.Sites) > 4 || len(b.Inner) > 16 {
		return false
	}
	parents, names := map[int]bool{}, []string{}
	for root := range b.Roots {
		parents[-1-root] = true
	}
	fine := ascend(b.Outer)
	check := func(link int) { fine = fine && 0 <= link && link < b.Edges+len(b.Outer) }
	for k, node := range b.Nodes {
		if node.Control < 0 || node.Control >= len(sig) || len(node.Links) != sig[node.Control].Ports || !parents[node.Parent] {
			return false
		}
		parents[k] = sig[node.Control].Kind < 2
		for _, link := range node.Links {
			check(link)
		}
	}
	for _, parent := range b.Sites {
		fine = fine && parents[parent]
	}
	for _, wire := range b.Inner {
		check(wire.Link)
		names = append(names, wire.Name)
	}
	return fine && ascend(names)
}

var (
	textPattern = regexp.MustCompile(`\A(\d+)((?:; [a-z]+@-?\d+(?: \d+)*)*); sites((?: -?\d+)*); (\d+); outer((?: [a-z]+)*); inner((?: [a-z]+=\d+)*)\z`)
	nodePattern = regexp.MustCompile(`; ([a-z]+)@(-?\d+)((?: \d+)*)`)
	wirePattern = regexp.MustCompile(`([a-z]+)=(\d+)`)
)

func numberOf(s string) int {
	n, err := strconv.Atoi(s)
	if err != nil {
		return 1 << 60
	}
	return n
}

func numbersOf(s string) []int {
	list := []int{}
	for _, word := range strings.Fields(s) {
		list = append(list, numberOf(word))
	}
	return list
}

// bigraphOf reads a text by patterns; it fails if no valid Bigraph has it.
func bigraphOf(sig []impl.Control, s string) (impl.Bigraph, bool) {
	m := textPattern.FindStringSubmatch(s)
	if m == nil {
		return impl.Bigraph{}, false
	}
	b := impl.Bigraph{Roots: numberOf(m[1]), Sites: numbersOf(m[3]), Edges: numberOf(m[4]), Outer: strings.Fields(m[5])}
	for _, n := range nodePattern.FindAllStringSubmatch(m[2], -1) {
		c := slices.IndexFunc(sig, func(c impl.Control) bool { return c.Name == n[1] })
		b.Nodes = append(b.Nodes, impl.Node{Control: c, Parent: numberOf(n[2]), Links: numbersOf(n[3])})
	}
	for _, w := range wirePattern.FindAllStringSubmatch(m[6], -1) {
		b.Inner = append(b.Inner, impl.Wire{Name: w[1], Link: numberOf(w[2])})
	}
	// Leading zeros and -0 match the patterns.
	if !isFine(sig, b) || textOf(sig, b) != s {
		return impl.Bigraph{}, false
	}
	return b, true
}

// isUnder reports whether a node is under a place.
func isUnder(b impl.Bigraph, node int, place int) bool {
	parent := b.Nodes[node].Parent
	return parent == place || parent >= 0 && isUnder(b, parent, place)
}

// placesAbove lists the nodes above a node, the nearest first, and then its root.
func placesAbove(b impl.Bigraph, node int) []int {
	list := []int{}
	// A node comes behind its parent, so the nearest one has the greatest number.
	for place := len(b.Nodes) - 1; place >= -b.Roots; place-- {
		if isUnder(b, node, place) {
			list = append(list, place)
		}
	}
	return list
}

// heightUnder is the greatest number of nodes on a way down from a place.
func heightUnder(b impl.Bigraph, place int) int {
	height := 0
	for k, node := range b.Nodes {
		if node.Parent == place {
			height = max(height, 1+heightUnder(b, k))
		}
	}
	return height
}

// partsByLinks finds the least node that each node reaches, from pairs of nodes with one link.
func partsByLinks(b impl.Bigraph) []int {
	n := len(b.Nodes)
	var reach [8][8]bool
	for x := range n {
		for y := range n {
			common := slices.ContainsFunc(b.Nodes[x].Links, func(l int) bool { return slices.Contains(b.Nodes[y].Links, l) })
			reach[x][y] = x == y || common
		}
	}
	for via := range n {
		for x := range n {
			for y := range n {
				reach[x][y] = reach[x][y] || reach[x][via] && reach[via][y]
			}
		}
	}
	parts := []int{}
	for x := range n {
		parts = append(parts, slices.Index(reach[x][:], true))
	}
	return parts
}
