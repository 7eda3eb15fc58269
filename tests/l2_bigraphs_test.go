package tests

import (
	"fmt"
	"math"
	"math/rand"
	"reflect"
	"slices"
	"strings"
	"testing"

	"loop.example/g01082/impl"
)

// ion is the Bigraph of the document's example of a text, over ionControls.
func ion() impl.Bigraph {
	return impl.Bigraph{Roots: 1, Nodes: []impl.Node{{Control: 0, Parent: -1, Links: []int{0}}}, Sites: []int{0}, Outer: []string{"x"}}
}

func ionControls() []impl.Control { return []impl.Control{{Name: "k", Ports: 1}} }

// twoRooms has sites in nodes and in roots, edges and names with points and idle ones, over
// house: a key is in the first room, a box in the box beside it, and a pen in the other root.
func twoRooms() impl.Bigraph {
	return impl.Bigraph{
		Roots: 3,
		Nodes: []impl.Node{
			{Control: 0, Parent: -1},
			{Control: 1, Parent: 0, Links: []int{4}},
			{Control: 5, Parent: -1, Links: []int{1}},
			{Control: 5, Parent: 2, Links: []int{4}},
			{Control: 3, Parent: -2, Links: []int{0, 3, 0}},
			{Control: 4, Parent: 0},
		},
		Sites: []int{0, -2, 0},
		Edges: 3,
		Outer: []string{"ann", "bob", "eve"},
		Inner: []impl.Wire{{Name: "bob", Link: 0}, {Name: "q", Link: 5}, {Name: "zz", Link: 0}},
	}
}

func TestLimitsOfBigraphs(t *testing.T) {
	got := []int{impl.MaxControls, impl.MaxPorts, impl.MaxNodes, impl.MaxRoots, impl.MaxSites, impl.MaxNames, impl.MaxEdges, impl.KindActive, impl.KindPassive, impl.KindAtomic}
	if want := []int{6, 3, 8, 4, 4, 16, 8, 0, 1, 2}; !slices.Equal(got, want) {
		t.Error("the limits are", got)
	}
}

// goodNames and badNames are strings that are names and strings that are none.
func goodNames() []string {
	return []string{"a", "z", "m", "aa", "az", "zzz", "aaaa", "zzzz", "site", "edge", "abcd"}
}

func badNames() []string {
	list := []string{"", "aaaaa", "sites", "A", "aB", "Zaaa", "a1", "1", "a b", " a", "a ", "a\n", "a-b", "a@", "a=b", "é", "aé", "ａ", "a\x00", "\x00", "\xff", "a\xff", strings.Repeat("a", 100000)}
	for c := range 256 {
		if c < 'a' || c > 'z' {
			s := string([]byte{byte(c)})
			list = append(list, s, "a"+s, s+"a", "ab"+s+"a")
		}
	}
	return list
}

func TestIsSignature(t *testing.T) {
	six := house()
	good := [][]impl.Control{six, six[:1], six[2:4], ionControls()}
	for ports := range 4 {
		for kind := range 3 {
			good = append(good, []impl.Control{{Name: "c", Ports: ports, Kind: kind}})
		}
	}
	for _, name := range goodNames() {
		good = append(good, []impl.Control{{Name: name}}, []impl.Control{{Name: "bc"}, {Name: name}})
	}
	for _, sig := range good {
		if !impl.IsSignature(sig) {
			t.Errorf("IsSignature(%v) = false", sig)
		}
	}
	for _, sig := range badSignatures() {
		if impl.IsSignature(sig) {
			t.Errorf("IsSignature(%.300v) = true", sig)
		}
	}
}

// badSignatures are lists that are no signatures.
func badSignatures() [][]impl.Control {
	six := house()
	list := [][]impl.Control{nil, {}, append(house(), impl.Control{Name: "more"}), make([]impl.Control, 100000)}
	for k := range six {
		for other := range k {
			twice := slices.Clone(six)
			twice[k].Name = twice[other].Name
			list = append(list, twice)
		}
		for _, n := range []int{-1, 4, 100, math.MaxInt, math.MinInt} {
			ports := slices.Clone(six)
			ports[k].Ports = n
			list = append(list, ports)
		}
		for _, n := range []int{-1, 3, 100, math.MaxInt, math.MinInt} {
			kinds := slices.Clone(six)
			kinds[k].Kind = n
			list = append(list, kinds)
		}
		for _, name := range badNames() {
			named := slices.Clone(six)
			named[k].Name = name
			list = append(list, named)
		}
	}
	return list
}

// wantValid checks IsBigraph, and that texts are written and read for valid Bigraphs alone.
func wantValid(t *testing.T, sig []impl.Control, b impl.Bigraph, want bool) {
	t.Helper()
	if impl.IsBigraph(sig, b) != want {
		t.Fatalf("IsBigraph(%.300v) = %v", b, !want)
	}
	text, ok := impl.BigraphText(sig, b)
	if ok != want || !want && text != "" {
		t.Fatalf("BigraphText(%.300v) = %q, %v", b, text, ok)
	}
	if want {
		checkText(t, sig, b)
	}
}

func TestSamplesAreValid(t *testing.T) {
	for _, b := range append(sampleBigraphs(), twoRooms()) {
		if !isFine(house(), b) {
			t.Fatal("the sample is not valid:", b)
		}
		wantValid(t, house(), b, true)
		if agent := len(b.Sites) == 0 && len(b.Inner) == 0; impl.IsAgent(house(), b) != agent {
			t.Fatalf("IsAgent(%v) = %v", b, !agent)
		}
	}
	wantValid(t, ionControls(), ion(), true)
}

func TestNumbersUpToTheLimits(t *testing.T) {
	dots := func(n int) impl.Bigraph {
		b := impl.Bigraph{Roots: 1}
		for range n {
			b.Nodes = append(b.Nodes, impl.Node{Control: 4, Parent: -1})
		}
		return b
	}
	names := func(n int) []string {
		list := wordsOver("abcdefghijklmnopqrstuvwxyz", 1)[1:]
		for len(list) < n {
			list = append(list, fmt.Sprintf("z%c", 'a'+len(list)-26))
		}
		return list[:n]
	}
	inner := func(n int) impl.Bigraph {
		b := impl.Bigraph{Edges: 1}
		for _, name := range names(n) {
			b.Inner = append(b.Inner, impl.Wire{Name: name})
		}
		return b
	}
	for n := range 40 {
		wantValid(t, house(), impl.Bigraph{Roots: n}, n <= 4)
		wantValid(t, house(), dots(n), n <= 8)
		wantValid(t, house(), impl.Bigraph{Roots: 1, Sites: slices.Repeat([]int{-1}, n)}, n <= 4)
		wantValid(t, house(), impl.Bigraph{Edges: n}, n <= 8)
		wantValid(t, house(), impl.Bigraph{Outer: names(n)}, n <= 16)
		wantValid(t, house(), inner(n), n <= 16)
	}
	for _, n := range []int{-1, -4, 1000000, math.MaxInt, math.MinInt} {
		wantValid(t, house(), impl.Bigraph{Roots: n}, false)
		wantValid(t, house(), impl.Bigraph{Edges: n}, false)
		wantValid(t, house(), impl.Bigraph{Edges: n, Outer: []string{"x"}}, false)
	}
	many := 300000
	wantValid(t, house(), impl.Bigraph{Roots: 1, Nodes: make([]impl.Node, many)}, false)
	wantValid(t, house(), impl.Bigraph{Roots: 1, Sites: make([]int, many)}, false)
	wantValid(t, house(), impl.Bigraph{Outer: make([]string, many)}, false)
	wantValid(t, house(), impl.Bigraph{Edges: 1, Inner: make([]impl.Wire, many)}, false)
}

// extremes are numbers at and beyond the ends of what places and links can be.
func extremes() []int {
	list := []int{math.MinInt, math.MinInt + 1, -1000000, 1000000, math.MaxInt - 1, math.MaxInt}
	for n := -7; n <= 27; n++ {
		list = append(list, n)
	}
	return list
}

func TestParentsAllowedAndNot(t *testing.T) {
	for _, b := range append(sampleBigraphs()[:100], twoRooms()) {
		for _, parent := range extremes() {
			for k := range b.Nodes {
				other := cloneOf(b)
				other.Nodes[k].Parent = parent
				wantValid(t, house(), other, isFine(house(), other))
			}
			for i := range b.Sites {
				other := cloneOf(b)
				other.Sites[i] = parent
				wantValid(t, house(), other, isFine(house(), other))
			}
		}
	}
	noRoots := []impl.Bigraph{
		{Nodes: []impl.Node{{Control: 0, Parent: -1}}},
		{Nodes: []impl.Node{{Control: 0, Parent: 0}}},
		{Sites: []int{-1}},
		{Sites: []int{0}},
	}
	for _, b := range noRoots {
		wantValid(t, house(), b, false)
	}
}

func TestParentsOfEachKind(t *testing.T) {
	for kind := range 3 {
		sig := []impl.Control{{Name: "c", Kind: kind}, {Name: "d"}}
		inside := impl.Bigraph{Roots: 1, Nodes: []impl.Node{{Control: 0, Parent: -1}, {Control: 1, Parent: 0}}}
		wantValid(t, sig, inside, kind != impl.KindAtomic)
		wantValid(t, sig, impl.Bigraph{Roots: 1, Nodes: inside.Nodes[:1], Sites: []int{0}}, kind != impl.KindAtomic)
		wantValid(t, sig, impl.Bigraph{Roots: 1, Nodes: inside.Nodes[:1], Sites: []int{-1}}, true)
	}
}

func TestControlsAndLinksOfNodes(t *testing.T) {
	for _, b := range append(sampleBigraphs()[:100], twoRooms()) {
		for _, n := range extremes() {
			for k := range b.Nodes {
				other := cloneOf(b)
				other.Nodes[k].Control = n
				wantValid(t, house(), other, isFine(house(), other))
				for i := range b.Nodes[k].Links {
					linked := cloneOf(b)
					linked.Nodes[k].Links[i] = n
					wantValid(t, house(), linked, isFine(house(), linked))
				}
			}
			for i := range b.Inner {
				other := cloneOf(b)
				other.Inner[i].Link = n
				wantValid(t, house(), other, isFine(house(), other))
			}
		}
		for k := range b.Nodes {
			more := cloneOf(b)
			more.Nodes[k].Links = append(more.Nodes[k].Links, 0)
			wantValid(t, house(), more, false)
			if links := b.Nodes[k].Links; len(links) > 0 {
				less := cloneOf(b)
				less.Nodes[k].Links = links[1:]
				wantValid(t, house(), less, false)
			}
		}
	}
}

func TestNamesOfFaces(t *testing.T) {
	inner := func(names ...string) impl.Bigraph {
		b := impl.Bigraph{Edges: 1}
		for _, name := range names {
			b.Inner = append(b.Inner, impl.Wire{Name: name})
		}
		return b
	}
	for _, name := range goodNames() {
		wantValid(t, house(), impl.Bigraph{Outer: []string{name}}, true)
		wantValid(t, house(), inner(name), true)
	}
	for _, name := range badNames() {
		for _, names := range [][]string{{name}, {name, "zzzz"}, {"a", name}, {"a", name, "zzzz"}} {
			wantValid(t, house(), impl.Bigraph{Outer: names}, false)
			wantValid(t, house(), inner(names...), false)
		}
	}
	for _, names := range [][]string{{"a", "b"}, {"a", "ab"}, {"a", "aa", "b"}, {"az", "b"}, {"abc", "abd"}} {
		wantValid(t, house(), impl.Bigraph{Outer: names}, true)
		wantValid(t, house(), inner(names...), true)
		common := inner(names...)
		common.Outer = names
		wantValid(t, house(), common, true)
		for i := range len(names) - 1 {
			turned := slices.Clone(names)
			turned[i], turned[i+1] = names[i+1], names[i]
			twice := slices.Insert(slices.Clone(names), i, names[i])
			for _, bad := range [][]string{turned, twice, append(slices.Clone(names), names[i])} {
				wantValid(t, house(), impl.Bigraph{Outer: bad}, false)
				wantValid(t, house(), inner(bad...), false)
			}
		}
	}
}

func TestIsAgent(t *testing.T) {
	agent := impl.Bigraph{Roots: 1, Nodes: []impl.Node{{Control: 1, Parent: -1, Links: []int{0}}}, Outer: []string{"x"}}
	if !impl.IsAgent(house(), agent) || !impl.IsAgent(house(), impl.Bigraph{}) || !impl.IsAgent(house(), impl.Bigraph{Edges: 3, Roots: 2}) {
		t.Error("IsAgent does not report an agent")
	}
	site, name := cloneOf(agent), cloneOf(agent)
	site.Sites = []int{-1}
	name.Inner = []impl.Wire{{Name: "x", Link: 0}}
	invalid := cloneOf(agent)
	invalid.Roots = 0
	if impl.IsAgent(house(), site) || impl.IsAgent(house(), name) || impl.IsAgent(house(), invalid) || impl.IsAgent(nil, agent) {
		t.Error("IsAgent reports what is no agent")
	}
}

func TestValidOnlyOverItsSignature(t *testing.T) {
	b := twoRooms()
	for n := 1; n <= 6; n++ {
		wantValid(t, house()[:n], b, n == 6)
	}
	for _, sig := range badSignatures() {
		if impl.IsBigraph(sig, impl.Bigraph{}) || impl.IsAgent(sig, impl.Bigraph{}) {
			t.Fatalf("IsBigraph over %.300v", sig)
		}
	}
}

func TestTwoRooms(t *testing.T) {
	sig, b := house(), twoRooms()
	names, ok := impl.InnerNames(sig, b)
	if !ok || !slices.Equal(names, []string{"bob", "q", "zz"}) {
		t.Error("InnerNames =", names, ok)
	}
	nodes, sites, ok := impl.ChildrenOf(sig, b, 0)
	if !ok || !slices.Equal(nodes, []int{1, 5}) || !slices.Equal(sites, []int{0, 2}) {
		t.Error("ChildrenOf a room =", nodes, sites, ok)
	}
	nodes, sites, ok = impl.ChildrenOf(sig, b, -2)
	if !ok || !slices.Equal(nodes, []int{4}) || !slices.Equal(sites, []int{1}) {
		t.Error("ChildrenOf a root =", nodes, sites, ok)
	}
	ports, names, ok := impl.PointsOf(sig, b, 0)
	if !ok || !slices.Equal(ports, [][2]int{{4, 0}, {4, 2}}) || !slices.Equal(names, []string{"bob", "zz"}) {
		t.Error("PointsOf an edge =", ports, names, ok)
	}
	above, ok := impl.AncestorsOf(sig, b, 3)
	if !ok || !slices.Equal(above, []int{2, -1}) {
		t.Error("AncestorsOf =", above, ok)
	}
	if high, ok := impl.HeightOf(sig, b); !ok || high != 2 {
		t.Error("HeightOf =", high, ok)
	}
	if counts, ok := impl.CountControls(sig, b); !ok || !slices.Equal(counts, []int{1, 1, 0, 1, 1, 2}) {
		t.Error("CountControls =", counts, ok)
	}
	if idle, ok := impl.IdleLinks(sig, b); !ok || !slices.Equal(idle, []int{2}) {
		t.Error("IdleLinks =", idle, ok)
	}
	if parts, ok := impl.LinkParts(sig, b); !ok || !slices.Equal(parts, []int{0, 1, 2, 1, 4, 5}) {
		t.Error("LinkParts =", parts, ok)
	}
	want := "3; room@-1; key@0 4; box@-1 1; box@2 4; pen@-2 0 3 0; dot@0; sites 0 -2 0; 3; outer ann bob eve; inner bob=0 q=5 zz=0"
	if text, ok := impl.BigraphText(sig, b); !ok || text != want {
		t.Error("BigraphText =", text, ok)
	}
}

func TestCommonPlace(t *testing.T) {
	sig, b := house(), twoRooms()
	for _, c := range [][3]int{{1, 5, 0}, {5, 1, 0}, {1, 1, 0}, {0, 0, -1}, {0, 1, -1}, {1, 0, -1}, {1, 3, -1}, {2, 3, -1}, {3, 3, 2}, {4, 4, -2}} {
		if place, ok := impl.CommonPlace(sig, b, c[0], c[1]); !ok || place != c[2] {
			t.Errorf("CommonPlace(%d, %d) = %d, %v; want %d", c[0], c[1], place, ok, c[2])
		}
	}
	for _, c := range [][2]int{{0, 4}, {4, 3}, {-1, 0}, {0, -1}, {6, 0}, {0, 6}, {-1, -1}} {
		if place, ok := impl.CommonPlace(sig, b, c[0], c[1]); ok || place != 0 {
			t.Errorf("CommonPlace(%d, %d) = %d, %v; want a failure", c[0], c[1], place, ok)
		}
	}
}

func TestIdleNamesAndEdges(t *testing.T) {
	b := impl.Bigraph{Edges: 2, Outer: []string{"a", "b", "c"}, Inner: []impl.Wire{{Name: "a", Link: 3}}}
	if idle, ok := impl.IdleLinks(house(), b); !ok || !slices.Equal(idle, []int{0, 1, 2, 4}) {
		t.Error("IdleLinks of a wiring =", idle, ok)
	}
	if idle, ok := impl.IdleLinks(house(), impl.Bigraph{}); !ok || len(idle) != 0 {
		t.Error("IdleLinks of no links =", idle, ok)
	}
	for link, want := range []int{0, 0, 0, 1, 0} {
		ports, names, ok := impl.PointsOf(house(), b, link)
		if !ok || len(ports) != 0 || len(names) != want {
			t.Error("PointsOf a link without ports =", ports, names, ok)
		}
	}
}

func TestPartsGoThroughSeveralLinks(t *testing.T) {
	sig := house()
	for text, want := range map[string][]int{
		"1; key@-1 0; key@-1 1; key@-1 2; pen@-1 2 3 0; door@-1 1 4; sites; 5; outer; inner": {0, 1, 0, 0, 1},
		"1; key@-1 0; key@-1 1; door@-1 1 0; sites; 0; outer x y; inner":                     {0, 0, 0},
		"1; key@-1 0; key@-1 1; sites; 2; outer; inner a=0 b=1":                              {0, 1},
		"1; key@-1 1; room@0; key@-1 0; door@-1 2 1; key@0 2; sites; 2; outer x; inner":      {0, 1, 2, 0, 0},
		"1; key@-1 3; key@-1 2; key@-1 1; door@-1 1 2; door@-1 2 3; sites; 4; outer; inner":  {0, 0, 0, 0, 0},
	} {
		b, ok := bigraphOf(sig, text)
		if parts, fine := impl.LinkParts(sig, b); !ok || !fine || !slices.Equal(parts, want) {
			t.Errorf("LinkParts of %s = %v, %v; want %v", text, parts, fine, want)
		}
	}
}

func TestHeights(t *testing.T) {
	sig := house()
	for text, want := range map[string]int{
		"0; sites; 0; outer; inner":                                            0,
		"4; sites -1 -2; 0; outer; inner":                                      0,
		"2; dot@-2; sites -1; 0; outer; inner":                                 1,
		"2; room@-2; dot@0; room@-1; room@2; room@3; sites 4; 0; outer; inner": 3,
	} {
		b, ok := bigraphOf(sig, text)
		if high, fine := impl.HeightOf(sig, b); !ok || !fine || high != want {
			t.Errorf("HeightOf %s = %d, %v; want %d", text, high, fine, want)
		}
	}
	if high, ok := impl.HeightOf(sig, fullBigraph()); !ok || high != 8 {
		t.Error("HeightOf a chain of all nodes =", high, ok)
	}
}

func TestPlacesOfSamples(t *testing.T) {
	sig := house()
	for _, b := range sampleBigraphs() {
		for _, n := range extremes() {
			checkChildren(t, b, n)
			checkAncestors(t, b, n)
			for m := -5; m <= 9; m++ {
				checkCommon(t, b, n, m)
			}
		}
		height := 0
		for root := range b.Roots {
			height = max(height, heightUnder(b, -1-root))
		}
		if high, ok := impl.HeightOf(sig, b); !ok || high != height {
			t.Fatalf("HeightOf(%v) = %d, %v; want %d", b, high, ok, height)
		}
		counts := make([]int, len(sig))
		for c := range sig {
			counts[c] = strings.Count(textOf(sig, b), "; "+sig[c].Name+"@")
		}
		if got, ok := impl.CountControls(sig, b); !ok || !slices.Equal(got, counts) {
			t.Fatalf("CountControls(%v) = %v, %v; want %v", b, got, ok, counts)
		}
	}
}

func checkChildren(t *testing.T, b impl.Bigraph, parent int) {
	t.Helper()
	wantNodes, wantSites := []int{}, []int{}
	for k := range b.Nodes {
		if b.Nodes[k].Parent == parent {
			wantNodes = append(wantNodes, k)
		}
	}
	for i := range b.Sites {
		if b.Sites[i] == parent {
			wantSites = append(wantSites, i)
		}
	}
	nodes, sites, ok := impl.ChildrenOf(house(), b, parent)
	if isPlace := parent >= -b.Roots && parent < len(b.Nodes); ok != isPlace || !slices.Equal(nodes, wantNodes) || !slices.Equal(sites, wantSites) {
		t.Fatalf("ChildrenOf(%v, %d) = %v, %v, %v", b, parent, nodes, sites, ok)
	}
}

func checkAncestors(t *testing.T, b impl.Bigraph, node int) {
	t.Helper()
	want := []int{}
	isNode := node >= 0 && node < len(b.Nodes)
	if isNode {
		want = placesAbove(b, node)
	}
	if got, ok := impl.AncestorsOf(house(), b, node); ok != isNode || !slices.Equal(got, want) {
		t.Fatalf("AncestorsOf(%v, %d) = %v, %v; want %v", b, node, got, ok, want)
	}
}

func checkCommon(t *testing.T, b impl.Bigraph, x int, y int) {
	t.Helper()
	want, found := 0, false
	if min(x, y) >= 0 && max(x, y) < len(b.Nodes) {
		for _, place := range placesAbove(b, x) {
			if !found && isUnder(b, y, place) {
				want, found = place, true
			}
		}
	}
	if got, ok := impl.CommonPlace(house(), b, x, y); ok != found || got != want {
		t.Fatalf("CommonPlace(%v, %d, %d) = %d, %v; want %d, %v", b, x, y, got, ok, want, found)
	}
}

func TestLinksOfSamples(t *testing.T) {
	sig := house()
	for _, b := range sampleBigraphs() {
		idle := []int{}
		for _, link := range extremes() {
			ports, names := [][2]int{}, []string{}
			isLink := link >= 0 && link < b.Edges+len(b.Outer)
			for k := range b.Nodes {
				for i := range b.Nodes[k].Links {
					if b.Nodes[k].Links[i] == link {
						ports = append(ports, [2]int{k, i})
					}
				}
			}
			for _, wire := range b.Inner {
				if wire.Link == link {
					names = append(names, wire.Name)
				}
			}
			if isLink && len(ports)+len(names) == 0 {
				idle = append(idle, link)
			}
			gotPorts, gotNames, ok := impl.PointsOf(sig, b, link)
			if ok != isLink || !slices.Equal(gotPorts, ports) || !slices.Equal(gotNames, names) {
				t.Fatalf("PointsOf(%v, %d) = %v, %v, %v", b, link, gotPorts, gotNames, ok)
			}
		}
		if got, ok := impl.IdleLinks(sig, b); !ok || !slices.Equal(got, idle) {
			t.Fatalf("IdleLinks(%v) = %v, %v; want %v", b, got, ok, idle)
		}
		if got, ok := impl.LinkParts(sig, b); !ok || !slices.Equal(got, partsByLinks(b)) {
			t.Fatalf("LinkParts(%v) = %v, %v; want %v", b, got, ok, partsByLinks(b))
		}
		names := []string{}
		for _, wire := range b.Inner {
			names = append(names, wire.Name)
		}
		if got, ok := impl.InnerNames(sig, b); !ok || !slices.Equal(got, names) {
			t.Fatalf("InnerNames(%v) = %v, %v; want %v", b, got, ok, names)
		}
	}
}

// renumbered gives other numbers to nodes and edges, as the document says it, also where a
// node then does not come behind its parent.
func renumbered(b impl.Bigraph, to []int, edges []int) impl.Bigraph {
	other := cloneOf(b)
	for k, node := range b.Nodes {
		links := []int{}
		for _, link := range node.Links {
			links = append(links, append(slices.Clone(edges), numbersFrom(b.Edges, len(b.Outer))...)[link])
		}
		parent := node.Parent
		if parent >= 0 {
			parent = to[parent]
		}
		other.Nodes[to[k]] = impl.Node{Control: node.Control, Parent: parent, Links: links}
	}
	for i, parent := range b.Sites {
		if parent >= 0 {
			other.Sites[i] = to[parent]
		}
	}
	for i, wire := range b.Inner {
		if wire.Link < b.Edges {
			other.Inner[i].Link = edges[wire.Link]
		}
	}
	return other
}

func numbersFrom(start int, n int) []int {
	list := []int{}
	for k := range n {
		list = append(list, start+k)
	}
	return list
}

func inverseOf(list []int) []int {
	inverse := make([]int, len(list))
	for k, n := range list {
		inverse[n] = k
	}
	return inverse
}

// countsOf are what other numbers of nodes and edges keep.
func countsOf(t *testing.T, b impl.Bigraph) string {
	t.Helper()
	sig := house()
	high, _ := impl.HeightOf(sig, b)
	controls, _ := impl.CountControls(sig, b)
	idle, _ := impl.IdleLinks(sig, b)
	parts, _ := impl.LinkParts(sig, b)
	names, ok := impl.InnerNames(sig, b)
	if !ok {
		t.Fatal("no counts of", b)
	}
	slices.Sort(parts)
	points := []int{}
	for link := range b.Edges + len(b.Outer) {
		ports, inner, _ := impl.PointsOf(sig, b, link)
		points = append(points, 100*len(ports)+len(inner))
	}
	slices.Sort(points[:b.Edges])
	return fmt.Sprint(b.Roots, len(b.Nodes), len(b.Sites), b.Edges, b.Outer, names, high, controls, len(idle), len(slices.Compact(parts)), points)
}

func checkRenumbered(t *testing.T, b impl.Bigraph, to []int, edges []int) {
	t.Helper()
	want := renumbered(b, to, edges)
	got, ok := impl.RenumberNodes(house(), b, to, edges)
	if !isFine(house(), want) {
		if ok || !isSame(got, impl.Bigraph{}) {
			t.Fatalf("RenumberNodes(%v, %v, %v) = %v, %v; want a failure", b, to, edges, got, ok)
		}
		return
	}
	if !ok || !isSame(got, want) || !impl.IsBigraph(house(), got) {
		t.Fatalf("RenumberNodes(%v, %v, %v) = %v, %v; want %v", b, to, edges, got, ok, want)
	}
	if countsOf(t, got) != countsOf(t, b) {
		t.Fatalf("RenumberNodes changes the counts %s to %s", countsOf(t, b), countsOf(t, got))
	}
	back, ok := impl.RenumberNodes(house(), got, inverseOf(to), inverseOf(edges))
	if !ok || !isSame(back, b) {
		t.Fatalf("RenumberNodes with the inverse lists = %v, %v; want %v", back, ok, b)
	}
}

func TestRenumberNodes(t *testing.T) {
	r := rand.New(rand.NewSource(3))
	for _, b := range append(sampleBigraphs(), twoRooms()) {
		checkRenumbered(t, b, numbersFrom(0, len(b.Nodes)), numbersFrom(0, b.Edges))
		checkRenumbered(t, b, numbersFrom(0, len(b.Nodes)), r.Perm(b.Edges))
		for range 20 {
			checkRenumbered(t, b, r.Perm(len(b.Nodes)), r.Perm(b.Edges))
		}
	}
	full := impl.Bigraph{Roots: 1, Nodes: slices.Repeat([]impl.Node{{Control: 4, Parent: -1}}, 8), Edges: 8}
	checkRenumbered(t, full, []int{7, 6, 5, 4, 3, 2, 1, 0}, []int{1, 2, 3, 4, 5, 6, 7, 0})
	if b, ok := impl.RenumberNodes(house(), impl.Bigraph{Roots: 2}, nil, nil); !ok || !isSame(b, impl.Bigraph{Roots: 2}) {
		t.Error("RenumberNodes without nodes and edges =", b, ok)
	}
}

func TestRenumberNodesFails(t *testing.T) {
	b := impl.Bigraph{Roots: 1, Nodes: []impl.Node{{Control: 4, Parent: -1}, {Control: 4, Parent: -1}, {Control: 4, Parent: -1}}, Edges: 3}
	good := []int{2, 0, 1}
	bad := [][]int{
		nil, {}, {0}, {0, 1}, {0, 1, 2, 3}, {3, 1, 2, 0}, {0, 0, 1}, {1, 1, 1}, {0, 1, 3}, {1, 2, 3}, {-1, 0, 1}, {0, -1, 1},
		{0, 1, -3}, {math.MaxInt, 0, 1}, {0, math.MinInt, 2}, make([]int, 3), make([]int, 200000),
	}
	checkRenumbered(t, b, good, good)
	for _, list := range bad {
		for _, lists := range [][2][]int{{list, good}, {good, list}, {list, list}} {
			if other, ok := impl.RenumberNodes(house(), b, lists[0], lists[1]); ok || !isSame(other, impl.Bigraph{}) {
				t.Errorf("RenumberNodes with %.100v = %v, %v; want a failure", lists, other, ok)
			}
		}
	}
	for _, lists := range [][2][]int{{{0}, nil}, {nil, {0}}} {
		if other, ok := impl.RenumberNodes(house(), impl.Bigraph{Roots: 1}, lists[0], lists[1]); ok || !isSame(other, impl.Bigraph{}) {
			t.Errorf("RenumberNodes with %v of no nodes and edges = %v, %v; want a failure", lists, other, ok)
		}
	}
}

// linkNames tells each point's link, an outer name by its name.
func linkNames(b impl.Bigraph) []string {
	links := []int{}
	for _, node := range b.Nodes {
		links = append(links, node.Links...)
	}
	for _, wire := range b.Inner {
		links = append(links, wire.Link)
	}
	list := []string{}
	for _, link := range links {
		if link < b.Edges {
			list = append(list, fmt.Sprint(link))
		} else {
			list = append(list, b.Outer[link-b.Edges])
		}
	}
	return list
}

func checkRename(t *testing.T, b impl.Bigraph, from string, to string) {
	t.Helper()
	got, ok := impl.RenameOuter(house(), b, from, to)
	possible := slices.Contains(b.Outer, from) && namePattern.MatchString(to) && (to == from || !slices.Contains(b.Outer, to))
	if !possible {
		if ok || !isSame(got, impl.Bigraph{}) {
			t.Fatalf("RenameOuter(%v, %.20q, %.20q) = %v, %v; want a failure", b, from, to, got, ok)
		}
		return
	}
	names, links := slices.Clone(b.Outer), linkNames(b)
	for _, list := range [][]string{names, links} {
		for i := range list {
			if list[i] == from {
				list[i] = to
			}
		}
	}
	slices.Sort(names)
	if !ok || !isFine(house(), got) || !slices.Equal(got.Outer, names) || !slices.Equal(linkNames(got), links) {
		t.Fatalf("RenameOuter(%v, %q, %q) = %v, %v", b, from, to, got, ok)
	}
	if back, ok := impl.RenameOuter(house(), got, to, from); !ok || !isSame(back, b) {
		t.Fatalf("RenameOuter back = %v, %v; want %v", back, ok, b)
	}
}

func TestRenameOuter(t *testing.T) {
	for _, b := range append(sampleBigraphs(), twoRooms()) {
		inner := []string{"q", "bob", "zz"}
		for _, from := range append(slices.Clone(b.Outer), "", "no", "q", "zzzzz") {
			for _, to := range slices.Concat(b.Outer, inner, goodNames(), badNames()[:23]) {
				checkRename(t, b, from, to)
			}
		}
	}
	for _, to := range badNames() {
		checkRename(t, twoRooms(), "bob", to)
	}
	got, ok := impl.RenameOuter(house(), twoRooms(), "ann", "zoe")
	want := twoRooms()
	want.Outer = []string{"bob", "eve", "zoe"}
	want.Nodes[1].Links[0], want.Nodes[3].Links[0], want.Nodes[4].Links[1], want.Inner[1].Link = 3, 3, 5, 4
	if !ok || !isSame(got, want) {
		t.Errorf("RenameOuter to a later name = %v, %v; want %v", got, ok, want)
	}
}

// checkText compares the text with the one that the document tells, and reads it again.
func checkText(t *testing.T, sig []impl.Control, b impl.Bigraph) {
	t.Helper()
	text, ok := impl.BigraphText(sig, b)
	if want := textOf(sig, b); !ok || text != want {
		t.Fatalf("BigraphText(%v) = %q, %v; want %q", b, text, ok, want)
	}
	if again, ok := impl.ParseBigraph(sig, text); !ok || !isSame(again, b) {
		t.Fatalf("ParseBigraph(%q) = %v, %v; want %v", text, again, ok, b)
	}
}

func TestTextOfIon(t *testing.T) {
	const want = "1; k@-1 0; sites 0; 0; outer x; inner"
	if text, ok := impl.BigraphText(ionControls(), ion()); !ok || text != want {
		t.Errorf("BigraphText = %q, %v; want %q", text, ok, want)
	}
	if b, ok := impl.ParseBigraph(ionControls(), want); !ok || !isSame(b, ion()) {
		t.Errorf("ParseBigraph(%q) = %v, %v", want, b, ok)
	}
	if text, ok := impl.BigraphText(ionControls(), impl.Bigraph{}); !ok || text != "0; sites; 0; outer; inner" {
		t.Errorf("BigraphText of nothing = %q, %v", text, ok)
	}
}

func TestEachTextIsOfOneBigraph(t *testing.T) {
	r := rand.New(rand.NewSource(4))
	byText := map[string]impl.Bigraph{}
	for range 20000 {
		b := randomBigraph(r)
		text, ok := impl.BigraphText(house(), b)
		if other, seen := byText[text]; !ok || seen && !isSame(other, b) {
			t.Fatalf("BigraphText(%v) = %q, %v, as of %v", b, text, ok, other)
		}
		byText[text] = b
	}
}

// checkParse compares what is read from any text with what the patterns find in it.
func checkParse(t *testing.T, sig []impl.Control, s string) {
	t.Helper()
	want, fine := bigraphOf(sig, s)
	if got, ok := impl.ParseBigraph(sig, s); ok != fine || !isSame(got, want) {
		t.Fatalf("ParseBigraph(%.300q) = %v, %v; want %v, %v", s, got, ok, want, fine)
	}
}

func TestParseChangedTexts(t *testing.T) {
	texts := []string{textOf(house(), twoRooms()), textOf(house(), impl.Bigraph{}), textOf(house(), fullBigraph())}
	for _, b := range sampleBigraphs()[5:35] {
		texts = append(texts, textOf(house(), b))
	}
	for _, s := range texts {
		for i := range len(s) + 1 {
			checkParse(t, house(), s[:i])
			checkParse(t, house(), s[i:])
			for _, c := range []byte(" ;@=-+0123489aekmxzA\n\x00\xff") {
				checkParse(t, house(), s[:i]+string([]byte{c})+s[i:])
				if i < len(s) {
					checkParse(t, house(), s[:i]+string([]byte{c})+s[i+1:])
				}
			}
			if i < len(s) {
				checkParse(t, house(), s[:i]+s[i+1:])
			}
		}
		parts := strings.Split(s, "; ")
		for i := range parts {
			checkParse(t, house(), strings.Join(slices.Delete(slices.Clone(parts), i, i+1), "; "))
			checkParse(t, house(), strings.Join(slices.Insert(slices.Clone(parts), i, parts[i]), "; "))
			for j := range i {
				turned := slices.Clone(parts)
				turned[i], turned[j] = turned[j], turned[i]
				checkParse(t, house(), strings.Join(turned, "; "))
			}
		}
	}
}

func TestParseBigraphFails(t *testing.T) {
	bad := []string{
		"", "0", "; ; ; ; ", ";;;;", "0; sites; 0; outer", "0; sites; 0; inner; outer", "0; sites; outer; 0; inner", "sites; 0; outer; inner",
		"0; sites; 0; outer; inner; ", "; 0; sites; 0; outer; inner", "0; sites; 0; outer; inner\n", " 0; sites; 0; outer; inner",
		"0;sites;0;outer;inner", "0;  sites; 0; outer; inner", "0; sites ; 0; outer; inner", "0; sites; 0; outer ; inner", "0; sites; 0; outer; inner ",
		"0; site; 0; outer; inner", "0; Sites; 0; outer; inner", "0; sites; 0; outre; inner", "0; sites; 0; outer; in", "00; sites; 0; outer; inner",
		"-0; sites; 0; outer; inner", "+0; sites; 0; outer; inner", "0; sites; 00; outer; inner", "0; sites; -1; outer; inner", "5; sites; 0; outer; inner",
		"0; sites; 9; outer; inner", "-1; sites; 0; outer; inner", "x; sites; 0; outer; inner", "1.0; sites; 0; outer; inner", "0; ; sites; 0; outer; inner",
		"1; key@-1; sites; 1; outer; inner", "1; key@-1 0 0; sites; 1; outer; inner", "1; key@-1 0; sites; 0; outer; inner", "1; kay@-1 0; sites; 1; outer; inner",
		"1; key-1 0; sites; 1; outer; inner", "1; key@@-1 0; sites; 1; outer; inner", "1; @-1 0; sites; 1; outer; inner", "1; key@ 0; sites; 1; outer; inner",
		"1; key@-1  0; sites; 1; outer; inner", "1; key@-1 00; sites; 1; outer; inner", "1; key@-1 +0; sites; 1; outer; inner", "1; key@-01 0; sites; 1; outer; inner",
		"1; room@0; sites; 0; outer; inner", "1; dot@-1; sites 0; 0; outer; inner", "1; sites -2; 0; outer; inner", "1; sites; 0; outer b a; inner", "1; sites; 0; outer a a; inner",
		"1; sites; 0; outer A; inner", "1; sites; 0; outer abcde; inner", "1; sites; 1; outer; inner b=0 a=0", "1; sites; 1; outer; inner a=1", "1; sites; 1; outer; inner a",
		"1; sites; 1; outer; inner a=", "1; sites; 1; outer; inner =0", "1; sites; 1; outer; inner a==0", "1; sites; 1; outer; inner a=-0", "1; sites; 1; outer; inner a=00",
		"1000000; sites; 0; outer; inner", "9223372036854775808; sites; 0; outer; inner", "18446744073709551616; sites; 0; outer; inner",
		strings.Repeat("0; ", 100000), "0; sites; 0; outer" + strings.Repeat(" a", 100000) + "; inner", strings.Repeat("x", 1000000),
		"1;" + strings.Repeat(" dot@-1;", 9) + " sites; 0; outer; inner", "1; sites" + strings.Repeat(" -1", 5) + "; 0; outer; inner",
		"é; sites; 0; outer; inner", "\xff", "1; ｋey@-1 0; sites; 1; outer; inner",
	}
	for _, s := range bad {
		if b, ok := impl.ParseBigraph(house(), s); ok || !isSame(b, impl.Bigraph{}) {
			t.Errorf("ParseBigraph(%.80q) = %v, %v; want a failure", s, b, ok)
		}
	}
	for _, sig := range badSignatures() {
		if b, ok := impl.ParseBigraph(sig, "0; sites; 0; outer; inner"); ok || !isSame(b, impl.Bigraph{}) {
			t.Fatalf("ParseBigraph over %.100v = %v, %v; want a failure", sig, b, ok)
		}
	}
}

// callAll calls each function of the chapter that takes a Bigraph, and tells all results.
func callAll(sig []impl.Control, b impl.Bigraph, x int, y int, lists [2][]int, from string, to string) [][]any {
	all := [][]any{}
	tell := func(results ...any) { all = append(all, results) }
	tell(impl.IsBigraph(sig, b))
	tell(impl.IsAgent(sig, b))
	names, ok := impl.InnerNames(sig, b)
	tell(names, ok)
	nodes, sites, ok := impl.ChildrenOf(sig, b, x)
	tell(nodes, sites, ok)
	ports, names, ok := impl.PointsOf(sig, b, x)
	tell(ports, names, ok)
	above, ok := impl.AncestorsOf(sig, b, x)
	tell(above, ok)
	place, ok := impl.CommonPlace(sig, b, x, y)
	tell(place, ok)
	high, ok := impl.HeightOf(sig, b)
	tell(high, ok)
	counts, ok := impl.CountControls(sig, b)
	tell(counts, ok)
	idle, ok := impl.IdleLinks(sig, b)
	tell(idle, ok)
	parts, ok := impl.LinkParts(sig, b)
	tell(parts, ok)
	other, ok := impl.RenumberNodes(sig, b, lists[0], lists[1])
	tell(other, ok)
	renamed, ok := impl.RenameOuter(sig, b, from, to)
	tell(renamed, ok)
	text, ok := impl.BigraphText(sig, b)
	tell(text, ok)
	return all
}

// isZero reports whether a result is a zero value; an empty list is one.
func isZero(v reflect.Value) bool {
	if v.Kind() == reflect.Slice {
		return v.Len() == 0
	}
	if v.Kind() == reflect.Struct {
		for i := range v.NumField() {
			if !isZero(v.Field(i)) {
				return false
			}
		}
		return true
	}
	return v.IsZero()
}

// brokenBigraphs are Bigraphs that are not valid over house.
func brokenBigraphs() []impl.Bigraph {
	list := []impl.Bigraph{{Roots: 5}, {Roots: -1}, {Roots: math.MinInt}, {Edges: 9}, {Edges: math.MaxInt, Outer: []string{"x"}}, {Edges: -1}, {Sites: []int{0}}, {Sites: []int{math.MinInt}}}
	list = append(list, impl.Bigraph{Outer: []string{"b", "a"}}, impl.Bigraph{Outer: []string{"a", "a"}}, impl.Bigraph{Inner: []impl.Wire{{Name: "a"}}})
	for k := range twoRooms().Nodes {
		for _, n := range []int{math.MinInt, -9, 9, math.MaxInt} {
			control, parent, links := twoRooms(), twoRooms(), twoRooms()
			control.Nodes[k].Control = n
			parent.Nodes[k].Parent = n
			links.Nodes[k].Links = []int{n, n, n, n}
			list = append(list, control, parent, links)
		}
	}
	return list
}

func TestAllFunctionsFailForInvalidArguments(t *testing.T) {
	type pair struct {
		sig []impl.Control
		b   impl.Bigraph
	}
	pairs := []pair{}
	for _, b := range brokenBigraphs() {
		pairs = append(pairs, pair{house(), b})
	}
	for _, sig := range badSignatures()[:60] {
		pairs = append(pairs, pair{sig, twoRooms()}, pair{sig, impl.Bigraph{}})
	}
	pairs = append(pairs, pair{house()[:5], twoRooms()}, pair{ionControls(), twoRooms()})
	for _, p := range pairs {
		for _, n := range []int{math.MinInt, -1, 0, 1, math.MaxInt} {
			lists := [2][]int{{1, 0, 2, 3, 4, 5}, {0, 1, 2}}
			for i, results := range callAll(p.sig, p.b, n, 0, lists, "bob", "y") {
				for _, result := range results {
					if !isZero(reflect.ValueOf(result)) {
						t.Fatalf("call %d of %.200v over %.200v = %.200v; want a failure", i, p.b, p.sig, results)
					}
				}
			}
		}
	}
}

// spoil overwrites all lists in a result.
func spoil(v reflect.Value) {
	switch v.Kind() {
	case reflect.Interface:
		spoil(v.Elem())
	case reflect.Slice:
		for i := range v.Len() {
			spoil(v.Index(i))
			v.Index(i).SetZero()
		}
		// What is appended must not run into another list, either.
		for i := v.Len(); i < v.Cap(); i++ {
			v.Slice(0, v.Cap()).Index(i).SetZero()
		}
	case reflect.Struct:
		for i := range v.NumField() {
			spoil(v.Field(i))
		}
	}
}

func TestArgumentsAreKeptAndResultsAreNew(t *testing.T) {
	for _, b := range append(sampleBigraphs()[:150], twoRooms()) {
		sig, kept := house(), cloneOf(b)
		lists := [2][]int{numbersFrom(0, len(b.Nodes)), inverseOf(numbersFrom(0, b.Edges))}
		from := strings.Join(b.Outer[:min(1, len(b.Outer))], "")
		first := callAll(sig, b, 0, 0, lists, from, "new")
		told := fmt.Sprintf("%v", first)
		for i, results := range first {
			for j := range results {
				spoil(reflect.ValueOf(results[j]))
			}
			if rest := fmt.Sprintf("%v", first[i+1:]); !strings.HasSuffix(told, strings.TrimPrefix(rest, "[")) {
				t.Fatalf("the results of call %d share memory with others", i)
			}
		}
		if !isSame(b, kept) || !slices.Equal(sig, house()) || !slices.Equal(lists[0], numbersFrom(0, len(b.Nodes))) || !slices.Equal(lists[1], numbersFrom(0, b.Edges)) {
			t.Fatalf("a call has changed %v to %v, or the results share its memory", kept, b)
		}
		if again := fmt.Sprintf("%v", callAll(sig, b, 0, 0, lists, from, "new")); again != told {
			t.Fatalf("the second time the results are %s; want %s", again, told)
		}
	}
}

func TestParsedBigraphIsNew(t *testing.T) {
	text := textOf(house(), twoRooms())
	first, _ := impl.ParseBigraph(house(), text)
	spoil(reflect.ValueOf(first))
	if second, ok := impl.ParseBigraph(house(), text); !ok || !isSame(second, twoRooms()) {
		t.Error("ParseBigraph after a change of an earlier result =", second, ok)
	}
}

// checkOwnLists puts a mark into each list of a Bigraph in turn, and looks at all others.
func checkOwnLists(t *testing.T, b impl.Bigraph) {
	t.Helper()
	for k := range b.Nodes {
		kept := cloneOf(b)
		links := b.Nodes[k].Links
		_ = append(links[:len(links):cap(links)], slices.Repeat([]int{-99}, cap(links)-len(links))...)
		for i := range links {
			links[i] = -99
			kept.Nodes[k].Links[i] = -99
		}
		if !isSame(b, kept) {
			t.Fatalf("the links of the node %d are also those of another: %v; want %v", k, b, kept)
		}
	}
}

func TestNodesDoNotShareLinks(t *testing.T) {
	for _, b := range append(sampleBigraphs()[:150], twoRooms()) {
		moved, _ := impl.RenumberNodes(house(), b, numbersFrom(0, len(b.Nodes)), numbersFrom(0, b.Edges))
		read, _ := impl.ParseBigraph(house(), textOf(house(), b))
		if !isSame(moved, b) || !isSame(read, b) {
			t.Fatalf("%v and %v; want %v", moved, read, b)
		}
		checkOwnLists(t, moved)
		checkOwnLists(t, read)
		if len(b.Outer) > 0 {
			renamed, _ := impl.RenameOuter(house(), b, b.Outer[0], b.Outer[0])
			checkOwnLists(t, renamed)
		}
	}
}
