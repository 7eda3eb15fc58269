package tests

import (
	"fmt"
	"maps"
	"math/rand"
	"regexp"
	"slices"
	"strings"

	"loop.example/g01082/impl"
)

// namesUpTo lists the first n of the names of four letters.
func namesUpTo(n int) []string {
	list := []string{}
	for i := range n {
		list = append(list, string([]rune{'a' + rune(i/17576), 'a' + rune(i/676%26), 'a' + rune(i/26%26), 'a' + rune(i%26)}))
	}
	return list
}

// negatives lists the places of roots.
func negatives(roots []int) []int {
	list := []int{}
	for _, root := range roots {
		list = append(list, -root-1)
	}
	return list
}

// distinct lists the different names of a list in ascending order.
func distinct(list []string) []string {
	seen := map[string]bool{}
	for _, name := range list {
		seen[name] = true
	}
	return slices.Sorted(maps.Keys(seen))
}

// wired makes a wiring from what each inner name is linked to: an outer name, or the number of
// an edge as a digit.
func wired(edges int, outer []string, from []string, to []string) impl.Bigraph {
	b := impl.Bigraph{Edges: edges, Outer: outer}
	for i, name := range from {
		link := strings.Index("01234567", to[i])
		if link < 0 {
			link = edges + slices.Index(outer, to[i])
		}
		b.Inner = append(b.Inner, impl.Wire{Name: name, Link: link})
	}
	return b
}

func identityAs(n int, names []string) impl.Bigraph {
	b := wired(0, names, names, names)
	b.Roots, b.Sites = n, negatives(numbersFrom(0, n))
	return b
}

// innerOf lists the inner names.
func innerOf(b impl.Bigraph) []string {
	list := []string{}
	for _, wire := range b.Inner {
		list = append(list, wire.Name)
	}
	return list
}

// composedByNames follows each inner name of b through both wirings by names.
func composedByNames(a impl.Bigraph, b impl.Bigraph) (impl.Bigraph, bool) {
	if a.Roots+b.Roots > 0 || fmt.Sprint(innerOf(a)) != fmt.Sprint(b.Outer) || a.Edges+b.Edges > 8 {
		return impl.Bigraph{}, false
	}
	beyond, to := map[string]string{}, []string{}
	for i, link := range linkNames(a) {
		beyond[a.Inner[i].Name] = link
	}
	for _, link := range linkNames(b) {
		if n := strings.Index("01234567", link); n >= 0 {
			to = append(to, fmt.Sprint(a.Edges+n))
		} else {
			to = append(to, beyond[link])
		}
	}
	return wired(a.Edges+b.Edges, a.Outer, innerOf(b), to), true
}

// randomWiring makes a wiring with an outer face.
func randomWiring(r *rand.Rand, edges int, outer []string, inner []string) impl.Bigraph {
	b := impl.Bigraph{Edges: edges, Outer: outer}
	for _, name := range inner {
		if edges+len(outer) > 0 {
			b.Inner = append(b.Inner, impl.Wire{Name: name, Link: r.Intn(edges + len(outer))})
		}
	}
	return b
}

// randomRenaming makes a renaming with a number of names.
func randomRenaming(r *rand.Rand, n int) impl.Bigraph {
	from, to := []string{}, []string{}
	for _, i := range r.Perm(len(nameWords))[:n] {
		from = append(from, nameWords[i])
	}
	for _, i := range r.Perm(len(nameWords))[:n] {
		to = append(to, nameWords[i])
	}
	return wired(0, distinct(to), distinct(from), to)
}

var placingPattern = regexp.MustCompile(`\A\d; sites( -\d)*; 0; outer; inner\z`)

// formsOf tells by the text, and by the links of the points, which forms a valid Bigraph has.
func formsOf(b impl.Bigraph) map[string]bool {
	text, links := textOf(house(), b), linkNames(b)
	sites := slices.Sorted(slices.Values(b.Sites))
	places := slices.Sorted(slices.Values(negatives(numbersFrom(0, b.Roots))))
	counts := map[string]int{}
	for _, link := range links {
		counts[link]++
	}
	lean, guarding := true, len(sites) == 0 || sites[0] >= 0
	for edge := range b.Edges {
		lean = lean && counts[fmt.Sprint(edge)] > 0
	}
	for _, wire := range b.Inner {
		guarding = guarding && wire.Link < b.Edges
	}
	each := b.Edges == 0
	for _, name := range b.Outer {
		each = each && counts[name] == 1
	}
	placing := placingPattern.MatchString(text)
	return map[string]bool{
		"placing":      placing,
		"permutation":  placing && slices.Equal(sites, places),
		"identity":     text == textOf(house(), identityAs(b.Roots, b.Outer)),
		"wiring":       strings.HasPrefix(text, "0; sites; "),
		"substitution": strings.HasPrefix(text, "0; sites; 0; "),
		"renaming":     strings.HasPrefix(text, "0; sites; 0; ") && each,
		"discrete":     each,
		"prime":        strings.HasPrefix(text, "1; ") && strings.HasSuffix(text, "; inner"),
		"lean":         lean,
		"guarding":     guarding,
	}
}

// tinyBigraphs are all Bigraphs over house with at most one node, two roots, two sites, one
// edge and the names a and b.
func tinyBigraphs() []impl.Bigraph {
	list := []impl.Bigraph{}
	for roots := range 3 {
		for edges := range 2 {
			for _, outer := range [][]string{nil, {"a"}, {"b"}, {"a", "b"}} {
				b := impl.Bigraph{Roots: roots, Edges: edges, Outer: outer}
				for _, noded := range withOneNode(b) {
					for _, sited := range withSites(noded, 2) {
						list = append(list, withInner(sited)...)
					}
				}
			}
		}
	}
	return list
}

// withOneNode adds no node, or one in the first root whose ports all have the last link.
func withOneNode(b impl.Bigraph) []impl.Bigraph {
	list := []impl.Bigraph{b}
	links := b.Edges + len(b.Outer)
	for c, control := range house() {
		if b.Roots > 0 && (links > 0 || control.Ports == 0) {
			node := impl.Node{Control: c, Parent: -1, Links: slices.Repeat([]int{links - 1}, control.Ports)}
			other := cloneOf(b)
			other.Nodes = []impl.Node{node}
			list = append(list, other)
		}
	}
	return list
}

// withSites adds up to most sites in all ways.
func withSites(b impl.Bigraph, most int) []impl.Bigraph {
	list := []impl.Bigraph{b}
	if most == 0 {
		return list
	}
	for place := -b.Roots; place < len(b.Nodes); place++ {
		other := cloneOf(b)
		other.Sites = append(other.Sites, place)
		if isFine(house(), other) {
			list = append(list, withSites(other, most-1)...)
		}
	}
	return list
}

// withInner adds some of the inner names a and b with all links.
func withInner(b impl.Bigraph) []impl.Bigraph {
	list := []impl.Bigraph{b}
	for first := range b.Edges + len(b.Outer) {
		one := impl.Wire{Name: "a", Link: first}
		list = append(list, withWires(b, one), withWires(b, impl.Wire{Name: "b", Link: first}))
		for second := range b.Edges + len(b.Outer) {
			list = append(list, withWires(b, one, impl.Wire{Name: "b", Link: second}))
		}
	}
	return list
}

func withWires(b impl.Bigraph, wires ...impl.Wire) impl.Bigraph {
	other := cloneOf(b)
	other.Inner = wires
	return other
}

// leanAs leaves out one idle edge after the other, the last one first.
func leanAs(b impl.Bigraph) impl.Bigraph {
	for edge := b.Edges - 1; edge >= 0; edge-- {
		if slices.Contains(linkNames(b), fmt.Sprint(edge)) {
			continue
		}
		b = cloneOf(b)
		b.Edges--
		for k := range b.Nodes {
			for i, link := range b.Nodes[k].Links {
				if link > edge {
					b.Nodes[k].Links[i]--
				}
			}
		}
		for i, wire := range b.Inner {
			if wire.Link > edge {
				b.Inner[i].Link--
			}
		}
	}
	return b
}

// linkedBy puts a wiring on top of a Bigraph: each point that is linked to an outer name gets
// the link that this one has as an inner name of the wiring.
func linkedBy(wiring impl.Bigraph, b impl.Bigraph) impl.Bigraph {
	whole := cloneOf(b)
	whole.Edges, whole.Outer = wiring.Edges, wiring.Outer
	for k := range whole.Nodes {
		for i, link := range b.Nodes[k].Links {
			whole.Nodes[k].Links[i] = wiring.Inner[link-b.Edges].Link
		}
	}
	for i, wire := range b.Inner {
		whole.Inner[i].Link = wiring.Inner[wire.Link-b.Edges].Link
	}
	return whole
}
