package tests

import (
	"fmt"
	"math/rand"
	"slices"
	"strings"

	"loop.example/g01082/impl"
)

func cloneOfMatch(m impl.Match) impl.Match {
	return impl.Match{Nodes: slices.Clone(m.Nodes), Roots: slices.Clone(m.Roots)}
}

// isSameMatch compares two Matches; a nil list is an empty one.
func isSameMatch(m impl.Match, n impl.Match) bool {
	return slices.Equal(m.Nodes, n.Nodes) && slices.Equal(m.Roots, n.Roots)
}

// matchWords writes Matches in short: their Nodes, and the places of their Roots.
func matchWords(all []impl.Match) string {
	words := []string{}
	for _, m := range all {
		words = append(words, strings.Trim(fmt.Sprint(m.Nodes), "[]")+" in "+strings.Trim(fmt.Sprint(m.Roots), "[]"))
	}
	return strings.Join(words, "; ")
}

// childNodes and childSites are the children of a place.
func childNodes(b impl.Bigraph, place int) []int {
	list := []int{}
	for k, node := range b.Nodes {
		if node.Parent == place {
			list = append(list, k)
		}
	}
	return list
}

func childSites(b impl.Bigraph, place int) []int {
	list := []int{}
	for i, parent := range b.Sites {
		if parent == place {
			list = append(list, i)
		}
	}
	return list
}

// A port is a node and the index of one of its Links.
type port struct{ node, index int }

func portsWith(b impl.Bigraph, link int) []port {
	list := []port{}
	for k, node := range b.Nodes {
		for i, other := range node.Links {
			if other == link {
				list = append(list, port{k, i})
			}
		}
	}
	return list
}

// isRedexAs says whether a valid Bigraph is a redex.
func isRedexAs(b impl.Bigraph) bool {
	fine := len(b.Inner) == 0 && b.Roots > 0
	for root := range b.Roots {
		fine = fine && len(childNodes(b, -1-root)) > 0 && len(childSites(b, -1-root)) == 0
	}
	for k := range b.Nodes {
		fine = fine && len(childSites(b, k)) <= 1
	}
	for link := range b.Edges + len(b.Outer) {
		fine = fine && len(portsWith(b, link)) > 0
	}
	return fine
}

func isAgentAs(b impl.Bigraph) bool { return len(b.Sites) == 0 && len(b.Inner) == 0 }

// isMatchAs says whether a Match of a redex in an agent is valid, sentence by sentence.
func isMatchAs(redex impl.Bigraph, agent impl.Bigraph, m impl.Match) bool {
	if len(m.Nodes) != len(redex.Nodes) || len(m.Roots) != redex.Roots || !staysIn(m.Nodes, 0, len(agent.Nodes)-1) || !staysIn(m.Roots, -agent.Roots, len(agent.Nodes)-1) {
		return false
	}
	fine := len(slices.Compact(slices.Sorted(slices.Values(m.Nodes)))) == len(m.Nodes)
	for k, node := range redex.Nodes {
		image := agent.Nodes[m.Nodes[k]]
		if node.Parent >= 0 {
			fine = fine && image.Parent == m.Nodes[node.Parent]
		} else {
			fine = fine && image.Parent == m.Roots[-1-node.Parent]
		}
		fine = fine && image.Control == node.Control
		for _, child := range childNodes(agent, m.Nodes[k]) {
			fine = fine && (slices.Contains(m.Nodes, child) || len(childSites(redex, k)) > 0)
		}
	}
	for _, place := range m.Roots {
		for _, image := range m.Nodes {
			fine = fine && place != image && (place < 0 || !isUnder(agent, place, image))
		}
	}
	return fine && linksMatchAs(redex, agent, m)
}

// linksMatchAs needs no more of a Match than that its images have the Controls of their nodes.
func linksMatchAs(redex impl.Bigraph, agent impl.Bigraph, m impl.Match) bool {
	for k, node := range redex.Nodes {
		if len(node.Links) != len(agent.Nodes[m.Nodes[k]].Links) {
			return false
		}
	}
	fine := true
	for link := range redex.Edges + len(redex.Outer) {
		images := []port{}
		for _, p := range portsWith(redex, link) {
			images = append(images, port{m.Nodes[p.node], p.index})
		}
		image := agent.Nodes[images[0].node].Links[images[0].index]
		for _, p := range images {
			fine = fine && agent.Nodes[p.node].Links[p.index] == image
		}
		if link < redex.Edges {
			fine = fine && image < agent.Edges
			for _, p := range portsWith(agent, image) {
				fine = fine && slices.Contains(images, p)
			}
		}
	}
	return fine
}

// matchesAs tries all lists of different nodes with the right Controls, in lexicographic order.
func matchesAs(redex impl.Bigraph, agent impl.Bigraph) []impl.Match {
	list := []impl.Match{}
	var try func(nodes []int)
	try = func(nodes []int) {
		if len(nodes) == len(redex.Nodes) {
			m := impl.Match{Nodes: slices.Clone(nodes)}
			for root := range redex.Roots {
				m.Roots = append(m.Roots, agent.Nodes[nodes[childNodes(redex, -1-root)[0]]].Parent)
			}
			if isMatchAs(redex, agent, m) {
				list = append(list, m)
			}
			return
		}
		for k, node := range agent.Nodes {
			if node.Control == redex.Nodes[len(nodes)].Control && !slices.Contains(nodes, k) {
				try(append(nodes, k))
			}
		}
	}
	try(nil)
	return list
}

// isActiveAs says whether no place of a root is a passive node or under one.
func isActiveAs(sig []impl.Control, agent impl.Bigraph, m impl.Match) bool {
	for k, node := range agent.Nodes {
		for _, place := range m.Roots {
			if sig[node.Control].Kind == impl.KindPassive && (place == k || place >= 0 && isUnder(agent, place, k)) {
				return false
			}
		}
	}
	return true
}

func setsAs(all []impl.Match) [][]int {
	sets := [][]int{}
	for _, m := range all {
		set := slices.Sorted(slices.Values(m.Nodes))
		if !slices.ContainsFunc(sets, func(other []int) bool { return slices.Equal(other, set) }) {
			sets = append(sets, set)
		}
	}
	slices.SortFunc(sets, slices.Compare[[]int])
	return sets
}

// partsOf sorts the nodes of the agent of a Match into the rest, images and the parameter.
func partsOf(agent impl.Bigraph, m impl.Match) (rest []int, images []int, parameter []int) {
	for k := range agent.Nodes {
		switch {
		case slices.Contains(m.Nodes, k):
			images = append(images, k)
		case slices.ContainsFunc(m.Nodes, func(image int) bool { return isUnder(agent, k, image) }):
			parameter = append(parameter, k)
		default:
			rest = append(rest, k)
		}
	}
	return rest, images, parameter
}

func matchLinksAs(redex impl.Bigraph, agent impl.Bigraph, m impl.Match) []int {
	links := []int{}
	for link := range redex.Edges + len(redex.Outer) {
		p := portsWith(redex, link)[0]
		links = append(links, agent.Nodes[m.Nodes[p.node]].Links[p.index])
	}
	return links
}

func passedAs(redex impl.Bigraph, agent impl.Bigraph, m impl.Match) ([]int, []string, bool) {
	links, names := []int{}, []string{}
	_, _, parameter := partsOf(agent, m)
	for link := range agent.Edges + len(agent.Outer) {
		if slices.ContainsFunc(portsWith(agent, link), func(p port) bool { return slices.Contains(parameter, p.node) }) {
			links = append(links, link)
		}
	}
	if len(links)+len(redex.Outer) > 16 {
		return nil, nil, false
	}
	for _, letter := range "abcdefghijklmnopqrstuvwxyz" {
		if name := "z" + string(letter); len(names) < len(links) && !slices.Contains(redex.Outer, name) {
			names = append(names, name)
		}
	}
	return links, names, true
}

// contextAs draws the agent, and leaves out what is not in the context.
func contextAs(redex impl.Bigraph, agent impl.Bigraph, m impl.Match) (impl.Bigraph, bool) {
	passed, names, ok := passedAs(redex, agent, m)
	if !ok {
		return impl.Bigraph{}, false
	}
	d, images := drawn(agent, "a"), matchLinksAs(redex, agent, m)
	words := slices.Concat(d.edges, d.outer)
	context := drawing{roots: d.roots, outer: d.outer}
	rest, _, _ := partsOf(agent, m)
	for _, k := range rest {
		context.nodes = append(context.nodes, d.nodes[k])
	}
	for _, place := range m.Roots {
		if place < 0 {
			context.sites = append(context.sites, d.roots[-1-place])
		} else {
			context.sites = append(context.sites, d.nodes[place].word)
		}
	}
	for edge, word := range d.edges {
		if !slices.Contains(images[:redex.Edges], edge) {
			context.edges = append(context.edges, word)
		}
	}
	for i, name := range redex.Outer {
		context.inner = append(context.inner, drawnWire{name, words[images[redex.Edges+i]]})
	}
	for i, name := range names {
		context.inner = append(context.inner, drawnWire{name, words[passed[i]]})
	}
	return context.bigraph()
}

// parameterAs draws the agent, and writes the sites of the redex as roots and the passed names.
func parameterAs(redex impl.Bigraph, agent impl.Bigraph, m impl.Match) (impl.Bigraph, bool) {
	passed, names, ok := passedAs(redex, agent, m)
	if !ok {
		return impl.Bigraph{}, false
	}
	d, words := drawn(agent, "a"), map[string]string{}
	for i, name := range names {
		words[slices.Concat(d.edges, d.outer)[passed[i]]] = name
	}
	parameter := drawing{outer: names}
	for i, node := range redex.Sites {
		root := fmt.Sprintf("p.root%d", i)
		parameter.roots = append(parameter.roots, root)
		words[d.nodes[m.Nodes[node]].word] = root
	}
	_, _, nodes := partsOf(agent, m)
	for _, k := range nodes {
		parameter.nodes = append(parameter.nodes, d.nodes[k])
	}
	return parameter.with(words).bigraph()
}

// recomposedAs draws a redex in a context with a parameter in it, if they fit.
func recomposedAs(redex impl.Bigraph, context impl.Bigraph, parameter impl.Bigraph) (impl.Bigraph, bool) {
	others := innerOf(context)
	for _, name := range redex.Outer {
		if !slices.Contains(others, name) {
			return impl.Bigraph{}, false
		}
		others = without(others, name)
	}
	if !isRedexAs(redex) || len(context.Sites) != redex.Roots || len(redex.Sites) != parameter.Roots || !slices.Equal(others, parameter.Outer) {
		return impl.Bigraph{}, false
	}
	over, words := drawn(context, "c"), map[string]string{}
	for _, wire := range over.inner {
		words[wire.name] = wire.link
	}
	inside := drawn(parameter, "p").with(words)
	whole := over.around(drawn(redex, "r").with(words)).around(inside)
	whole.outer, whole.inner = over.outer, inside.inner
	return whole.bigraph()
}

// redexWords are names of redexes, some of which are passed names.
var redexWords = []string{"a", "b", "x", "za", "zb", "zc", "ze", "zz"}

// redexIn cuts a redex with at most so many nodes out of an agent with nodes, and also tells its
// Match there.
func redexIn(r *rand.Rand, agent impl.Bigraph, most int) (impl.Bigraph, impl.Match) {
	for {
		c := cutting{r: r, agent: agent, d: drawn(agent, "a"), open: r.Intn(4)}
		for range 1 + r.Intn(4) {
			c.addTop()
		}
		redex, m := c.redex(), impl.Match{Nodes: c.images, Roots: c.places}
		if len(redex.Nodes) <= most && isFine(house(), redex) && isRedexAs(redex) && isMatchAs(redex, agent, m) {
			to, edges := randomNumbers(r, redex)
			nodes := make([]int, len(to))
			for k, number := range to {
				nodes[number] = m.Nodes[k]
			}
			return renumbered(redex, to, edges), impl.Match{Nodes: nodes, Roots: m.Roots}
		}
	}
}

// A cutting are the nodes of an agent that are in a redex, the numbers of the roots of these that
// are under roots, and the places of the roots; an image is open if its node gets a site.
type cutting struct {
	r      *rand.Rand
	agent  impl.Bigraph
	d      drawing
	open   int
	images []int
	roots  map[int]int
	places []int
	sites  []int
}

// addTop cuts out a node and some of what is in it.
func (c *cutting) addTop() {
	top := c.r.Intn(len(c.agent.Nodes))
	if slices.Contains(c.images, top) {
		return
	}
	place, roots := c.agent.Nodes[top].Parent, []int{}
	for root, other := range c.places {
		if other == place {
			roots = append(roots, root)
		}
	}
	root := len(c.places)
	if len(roots) > 0 && (root == 4 || c.r.Intn(3) > 0) {
		root = pick(c.r, roots)
	} else if root == 4 {
		return
	} else {
		c.places = append(c.places, place)
	}
	if c.roots == nil {
		c.roots = map[int]int{}
	}
	c.roots[top] = root
	c.addNode(top)
}

func (c *cutting) addNode(k int) {
	c.images = append(c.images, k)
	atomic := house()[c.agent.Nodes[k].Control].Kind == impl.KindAtomic
	open := !atomic && len(c.sites) < 4 && c.r.Intn(4) < c.open
	if open {
		c.sites = append(c.sites, k)
	}
	for _, child := range childNodes(c.agent, k) {
		if !slices.Contains(c.images, child) && (!open || c.r.Intn(2) == 0) {
			c.addNode(child)
		}
	}
}

// redex draws the redex: ports of one link of the agent can be on several names.
func (c *cutting) redex() impl.Bigraph {
	d, names := drawing{}, c.r.Perm(len(redexWords))
	for root := range c.places {
		d.roots = append(d.roots, fmt.Sprintf("r.root%d", root))
	}
	edges, linked := c.wholeEdges(), map[int][]string{}
	for edge := range edges {
		d.edges = append(d.edges, c.d.edges[edge])
	}
	slices.Sort(d.edges)
	for _, k := range c.images {
		node := c.d.nodes[k]
		if root, ok := c.roots[k]; ok {
			node.parent = d.roots[root]
		}
		node.links = nil
		for _, link := range c.agent.Nodes[k].Links {
			if edges[link] {
				node.links = append(node.links, c.d.edges[link])
				continue
			}
			if len(names) > 0 && (len(linked[link]) == 0 || c.r.Intn(4) == 0) {
				linked[link], names = append(linked[link], redexWords[names[0]]), names[1:]
			}
			if len(linked[link]) == 0 {
				return impl.Bigraph{}
			}
			node.links = append(node.links, pick(c.r, linked[link]))
		}
		d.nodes = append(d.nodes, node)
		d.outer = append(d.outer, node.links...)
	}
	d.outer = slices.DeleteFunc(distinct(d.outer), func(word string) bool { return slices.Contains(d.edges, word) })
	for _, k := range c.sites {
		d.sites = append(d.sites, c.d.nodes[k].word)
	}
	c.r.Shuffle(len(d.sites), func(i, j int) { d.sites[i], d.sites[j] = d.sites[j], d.sites[i] })
	return d.numbered()
}

// wholeEdges picks edges of the agent whose ports are all ports of images.
func (c *cutting) wholeEdges() map[int]bool {
	edges := map[int]bool{}
	for edge := range c.agent.Edges {
		ports := portsWith(c.agent, edge)
		whole := !slices.ContainsFunc(ports, func(p port) bool { return !slices.Contains(c.images, p.node) })
		if whole && len(ports) > 0 && c.r.Intn(4) > 0 {
			edges[edge] = true
		}
	}
	return edges
}

// randomRedex makes a redex that need not be in any agent.
func randomRedex(r *rand.Rand, most int) impl.Bigraph {
	for {
		agent := agentOf(r, most)
		if len(agent.Nodes) == 0 {
			continue
		}
		redex, _ := redexIn(r, agent, most)
		return redex
	}
}

// agentOf makes an agent with at most so many nodes, often with nodes that are alike.
func agentOf(r *rand.Rand, most int) impl.Bigraph {
	b := randomAlike(r, most)
	switch r.Intn(3) {
	case 0:
		b = randomCopies(r, most)
	case 1:
		b = randomInside(r, impl.Bigraph{Roots: 1 + r.Intn(3), Edges: r.Intn(6), Outer: someOf(r, redexWords, 4)}, most, 0, nil)
	}
	b.Sites, b.Inner = nil, nil
	return b
}

// agentSamples are agents with nodes.
func agentSamples(seed int64, count int, most int) []impl.Bigraph {
	r, list := rand.New(rand.NewSource(seed)), []impl.Bigraph{}
	for len(list) < count {
		if b := agentOf(r, most); len(b.Nodes) > 0 {
			list = append(list, b)
		}
	}
	return list
}

// redexesFor makes redexes for an agent: some that are cut out of it, some that differ slightly
// from such, and some that are cut out of others.
func redexesFor(r *rand.Rand, agent impl.Bigraph, most int) []impl.Bigraph {
	list := []impl.Bigraph{}
	for range 2 {
		redex, _ := redexIn(r, agent, most)
		list = append(list, redex)
		for _, other := range slightChanges(r, redex, 40) {
			if isRedexAs(other) && len(list) < 6 {
				list = append(list, other)
			}
		}
	}
	return append(list, randomRedex(r, min(most, 3)))
}

// frameFor makes a context and a parameter that fit a redex, with at most so many nodes each.
func frameFor(r *rand.Rand, redex impl.Bigraph, most int) (context impl.Bigraph, parameter impl.Bigraph) {
	others := slices.DeleteFunc(someOf(r, redexWords, 4), func(name string) bool { return slices.Contains(redex.Outer, name) })
	context = impl.Bigraph{Roots: 1 + r.Intn(2), Edges: r.Intn(3), Outer: someOf(r, redexWords, 3)}
	if context.Edges+len(context.Outer) == 0 {
		context.Edges = 1
	}
	context = randomInside(r, context, most, 0, distinct(slices.Concat(redex.Outer, others)))
	places := []int{}
	for place := -context.Roots; place < len(context.Nodes); place++ {
		if place < 0 || house()[context.Nodes[place].Control].Kind != impl.KindAtomic {
			places = append(places, place)
		}
	}
	for range redex.Roots {
		context.Sites = append(context.Sites, pick(r, places))
	}
	parameter = impl.Bigraph{Roots: len(redex.Sites), Edges: r.Intn(3) / 2, Outer: others}
	return context, randomInside(r, parameter, most, 0, nil)
}

// movedMatch is a Match where the nodes of the agent have other numbers.
func movedMatch(m impl.Match, to []int) impl.Match {
	moved := cloneOfMatch(m)
	for k, image := range m.Nodes {
		moved.Nodes[k] = to[image]
	}
	for i, place := range m.Roots {
		if place >= 0 {
			moved.Roots[i] = to[place]
		}
	}
	return moved
}

// matchIn is the Match of a redex in an agent that it is recomposed to with a context.
func matchIn(redex impl.Bigraph, context impl.Bigraph) impl.Match {
	return impl.Match{Nodes: numbersFrom(len(context.Nodes), len(redex.Nodes)), Roots: context.Sites}
}
