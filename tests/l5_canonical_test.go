package tests

import (
	"fmt"
	"maps"
	"math"
	"math/rand"
	"reflect"
	"slices"
	"strings"
	"testing"

	"loop.example/g01082/impl"
)

// read returns the Bigraph over house with a text.
func read(t *testing.T, text string) impl.Bigraph {
	t.Helper()
	b, ok := bigraphOf(house(), text)
	if !ok {
		t.Fatal("the example is not valid:", text)
	}
	return b
}

func wantInts(t *testing.T, got []int, ok bool, want []int, possible bool, call string, args ...any) {
	t.Helper()
	if !possible {
		want = nil
	}
	if ok != possible || !slices.Equal(got, want) {
		t.Fatalf("%.300s = %v, %v; want %v, %v", fmt.Sprintf(call, args...), got, ok, want, possible)
	}
}

func wantReport(t *testing.T, got bool, ok bool, want bool, call string, args ...any) {
	t.Helper()
	if got != want || !ok {
		t.Fatalf("%.300s = %v, %v; want %v, true", fmt.Sprintf(call, args...), got, ok, want)
	}
}

// checkList checks what is said of one list of nodes.
func checkList(t *testing.T, a impl.Bigraph, b impl.Bigraph, nodes []int, want bool) {
	t.Helper()
	is, ok := impl.IsTranslation(house(), a, b, nodes)
	wantReport(t, is, ok, want, "IsTranslation(%v, %v, %v)", a, b, nodes)
	edges, ok := impl.EdgesOfTranslation(house(), a, b, nodes)
	if !want {
		wantInts(t, edges, ok, nil, false, "EdgesOfTranslation(%v, %v, %v)", a, b, nodes)
		return
	}
	wantInts(t, edges, ok, edgesAs(a, b, nodes), true, "EdgesOfTranslation(%v, %v, %v)", a, b, nodes)
	if turned := renumbered(a, nodes, edges); !isSame(turned, b) {
		t.Fatalf("the nodes %v and edges %v turn %v into %v; want %v", nodes, edges, a, turned, b)
	}
}

// checkTranslations checks all that is said of translations of one Bigraph to another, also for
// lists that are none.
func checkTranslations(t *testing.T, a impl.Bigraph, b impl.Bigraph) [][]int {
	t.Helper()
	all := translationsAs(a, b)
	first := []int{}
	if len(all) > 0 {
		first = all[0]
	}
	nodes, ok := impl.FindTranslation(house(), a, b)
	wantInts(t, nodes, ok, first, len(all) > 0, "FindTranslation(%v, %v)", a, b)
	are, ok := impl.AreIsomorphic(house(), a, b)
	wantReport(t, are, ok, len(all) > 0, "AreIsomorphic(%v, %v)", a, b)
	told := map[string]bool{}
	for _, nodes := range all {
		checkList(t, a, b, nodes, true)
		told[fmt.Sprint(nodes)] = true
	}
	for _, nodes := range ordersOf(min(len(a.Nodes), 5)) {
		nodes = append(nodes, numbersFrom(len(nodes), len(a.Nodes)-len(nodes))...)
		checkList(t, a, b, nodes, told[fmt.Sprint(nodes)])
	}
	return all
}

// lightSamples are few enough to try all orders of their nodes.
func lightSamples() []impl.Bigraph {
	list := append(alikeSamples(50, 900, 5), twoRooms(), impl.Bigraph{}, impl.Bigraph{Edges: 8}, impl.Bigraph{Roots: 4})
	return append(list, alikeSamples(51, 30, 6)...)
}

func TestTranslations(t *testing.T) {
	r, counts := rand.New(rand.NewSource(52)), map[string]int{}
	for _, a := range lightSamples() {
		if !isFine(house(), a) {
			t.Fatal("the sample is not valid:", a)
		}
		b := shuffled(r, a)
		if len(checkTranslations(t, a, b)) > 1 {
			counts["several"]++
		}
		for _, other := range slightChanges(r, b, 4) {
			counts[fmt.Sprint(len(checkTranslations(t, a, other)) > 0)]++
		}
	}
	wantAtLeast(t, counts, 50, "several", "true", "false")
}

// slightChanges makes some valid Bigraphs that differ from one in a single Control, parent,
// link, site or name, or in a number.
func slightChanges(r *rand.Rand, b impl.Bigraph, most int) []impl.Bigraph {
	all := allSlightChanges(b)
	r.Shuffle(len(all), func(i, j int) { all[i], all[j] = all[j], all[i] })
	return all[:min(most, len(all))]
}

func allSlightChanges(b impl.Bigraph) []impl.Bigraph {
	list := []impl.Bigraph{}
	change := func(make func(*impl.Bigraph)) {
		other := cloneOf(b)
		make(&other)
		if isFine(house(), other) && !isSame(b, other) {
			list = append(list, other)
		}
	}
	for n := -b.Roots; n < 8+len(b.Outer); n++ {
		for k := range b.Nodes {
			change(func(c *impl.Bigraph) { c.Nodes[k].Control = n })
			change(func(c *impl.Bigraph) { c.Nodes[k].Parent = n })
			for i := range b.Nodes[k].Links {
				change(func(c *impl.Bigraph) { c.Nodes[k].Links[i] = n })
			}
		}
		for i := range b.Sites {
			change(func(c *impl.Bigraph) { c.Sites[i] = n })
		}
		for i := range b.Inner {
			change(func(c *impl.Bigraph) { c.Inner[i].Link = n })
		}
		change(func(c *impl.Bigraph) { c.Sites = append(c.Sites, n) })
		change(func(c *impl.Bigraph) { c.Inner = append(c.Inner, impl.Wire{Name: "zzzz", Link: n}) })
	}
	for i := range b.Outer {
		change(func(c *impl.Bigraph) { c.Outer[i] += "q" })
	}
	for i := range b.Inner {
		change(func(c *impl.Bigraph) { c.Inner[i].Name += "q" })
	}
	change(func(c *impl.Bigraph) { c.Roots++ })
	change(func(c *impl.Bigraph) { c.Roots-- })
	change(func(c *impl.Bigraph) { c.Outer = append(c.Outer, "zzzz") })
	change(func(c *impl.Bigraph) { c.Edges, c.Outer = c.Edges+1, nil })
	change(func(c *impl.Bigraph) { *c = withIdleEdges(b, 1) })
	if lean := leanAs(b); lean.Edges < b.Edges {
		change(func(c *impl.Bigraph) { *c = withIdleEdges(lean, b.Edges-lean.Edges-1) })
	}
	return list
}

// withIdleEdges adds idle edges behind all others, also more than a Bigraph may have.
func withIdleEdges(b impl.Bigraph, count int) impl.Bigraph {
	more := cloneOf(b)
	more.Edges += count
	for _, node := range more.Nodes {
		for i, link := range node.Links {
			if link >= b.Edges {
				node.Links[i] += count
			}
		}
	}
	for i, wire := range more.Inner {
		if wire.Link >= b.Edges {
			more.Inner[i].Link += count
		}
	}
	return more
}

func TestSlightChangesOfOneBigraph(t *testing.T) {
	for _, b := range append(alikeSamples(53, 24, 4), twoRooms()) {
		want, form := shapeOf(b), canonicalText(t, b)
		for _, other := range allSlightChanges(b) {
			same := shapeOf(other) == want
			are, ok := impl.AreIsomorphic(house(), b, other)
			wantReport(t, are, ok, same, "AreIsomorphic(%v, %v)", b, other)
			are, ok = impl.AreIsomorphic(house(), other, b)
			wantReport(t, are, ok, same, "AreIsomorphic(%v, %v)", other, b)
			if got := canonicalText(t, other); (got == form) != same {
				t.Fatalf("the canonical form of %v is %s, and that of %v is %s", b, form, other, got)
			}
		}
	}
}

func canonicalText(t *testing.T, b impl.Bigraph) string {
	t.Helper()
	form, ok := impl.CanonicalOf(house(), b)
	text, fine := impl.BigraphText(house(), form)
	if !ok || !fine {
		t.Fatalf("CanonicalOf(%v) = %v, %v", b, form, ok)
	}
	return text
}

// differing are pairs of texts of Bigraphs that differ in one thing alone, and are not
// isomorphic.
func differing() [][2]string {
	return [][2]string{
		{"1; sites; 0; outer; inner", "2; sites; 0; outer; inner"},
		{"0; sites; 1; outer; inner", "0; sites; 2; outer; inner"},
		{"0; sites; 0; outer x; inner", "0; sites; 0; outer y; inner"},
		{"0; sites; 0; outer x; inner", "0; sites; 1; outer; inner"},
		{"0; sites; 1; outer; inner a=0", "0; sites; 1; outer; inner b=0"},
		{"0; sites; 1; outer; inner a=0", "0; sites; 1; outer; inner a=0 b=0"},
		{"0; sites; 1; outer; inner b=0", "0; sites; 1; outer; inner a=0 b=0"},
		{"0; sites; 0; outer x; inner", "0; sites; 0; outer x; inner a=0"},
		{"0; sites; 2; outer; inner a=0 b=0", "0; sites; 2; outer; inner a=0 b=1"},
		{"0; sites; 0; outer x y; inner a=0 b=1", "0; sites; 0; outer x y; inner a=1 b=0"},
		{"0; sites; 0; outer x y; inner a=0 b=0", "0; sites; 0; outer x y; inner a=1 b=1"},
		{"0; sites; 1; outer x; inner a=0", "0; sites; 1; outer x; inner a=1"},
		{"2; sites -1; 0; outer; inner", "2; sites -2; 0; outer; inner"},
		{"2; sites -1 -2; 0; outer; inner", "2; sites -2 -1; 0; outer; inner"},
		{"1; sites; 0; outer; inner", "1; sites -1; 0; outer; inner"},
		{"1; sites -1; 0; outer; inner", "1; sites -1 -1; 0; outer; inner"},
		{"1; room@-1; sites 0; 0; outer; inner", "1; room@-1; sites 0 0; 0; outer; inner"},
		{"1; room@-1; sites -1; 0; outer; inner", "1; room@-1; sites 0; 0; outer; inner"},
		{"1; room@-1; sites -1 0; 0; outer; inner", "1; room@-1; sites 0 -1; 0; outer; inner"},
		{"1; room@-1; sites; 0; outer; inner", "1; dot@-1; sites; 0; outer; inner"},
		{"1; room@-1; sites; 0; outer; inner", "1; room@-1; room@-1; sites; 0; outer; inner"},
		{"2; room@-1; sites; 0; outer; inner", "2; room@-2; sites; 0; outer; inner"},
		{"2; room@-1; dot@-2; sites; 0; outer; inner", "2; room@-2; dot@-1; sites; 0; outer; inner"},
		{"1; room@-1; room@-1; sites; 0; outer; inner", "1; room@-1; room@0; sites; 0; outer; inner"},
		{"1; room@-1; room@-1; dot@0; dot@0; sites; 0; outer; inner", "1; room@-1; room@-1; dot@0; dot@1; sites; 0; outer; inner"},
		{"1; room@-1; room@-1; sites 0 0; 0; outer; inner", "1; room@-1; room@-1; sites 0 1; 0; outer; inner"},
		{"1; key@-1 0; sites; 1; outer x; inner", "1; key@-1 1; sites; 1; outer x; inner"},
		{"1; key@-1 0; sites; 0; outer x y; inner", "1; key@-1 1; sites; 0; outer x y; inner"},
		{"1; key@-1 0; key@-1 0; sites; 2; outer; inner", "1; key@-1 0; key@-1 1; sites; 2; outer; inner"},
		{"1; door@-1 0 0; sites; 2; outer; inner", "1; door@-1 0 1; sites; 2; outer; inner"},
		{"1; door@-1 0 1; sites; 1; outer x; inner", "1; door@-1 1 0; sites; 1; outer x; inner"},
		{"1; pen@-1 0 0 1; sites; 2; outer; inner", "1; pen@-1 0 1 0; sites; 2; outer; inner"},
		{"1; door@-1 0 1; key@-1 0; sites; 2; outer; inner", "1; door@-1 0 1; key@-1 1; sites; 2; outer; inner"},
		{"1; door@-1 0 1; sites; 2; outer; inner a=0", "1; door@-1 0 1; sites; 2; outer; inner a=1"},
		{"1; key@-1 0; sites; 2; outer; inner a=0", "1; key@-1 0; sites; 2; outer; inner a=1"},
		{"1; door@-1 0 1; door@-1 1 2; door@-1 2 0; door@-1 3 3; sites; 4; outer; inner", "1; door@-1 0 1; door@-1 1 2; door@-1 2 3; door@-1 3 0; sites; 4; outer; inner"},
	}
}

func TestBigraphsThatDifferInOneThing(t *testing.T) {
	for _, pair := range differing() {
		a, b := read(t, pair[0]), read(t, pair[1])
		for _, both := range [][2]impl.Bigraph{{a, b}, {b, a}} {
			are, ok := impl.AreIsomorphic(house(), both[0], both[1])
			wantReport(t, are, ok, false, "AreIsomorphic(%v)", both)
			checkTranslations(t, both[0], both[1])
		}
		if canonicalText(t, a) == canonicalText(t, b) {
			t.Errorf("%s and %s have the same canonical form", pair[0], pair[1])
		}
	}
}

func TestIsomorphicExamples(t *testing.T) {
	for _, e := range []struct {
		a, b         string
		nodes, edges []int
	}{
		{nothing, nothing, nil, nil},
		{"2; sites -2 -1; 0; outer; inner", "2; sites -2 -1; 0; outer; inner", nil, nil},
		{"0; sites; 3; outer; inner", "0; sites; 3; outer; inner", nil, []int{0, 1, 2}},
		{"0; sites; 2; outer; inner a=0", "0; sites; 2; outer; inner a=1", nil, []int{1, 0}},
		{"0; sites; 4; outer; inner a=1 b=2", "0; sites; 4; outer; inner a=3 b=0", nil, []int{1, 3, 0, 2}},
		{"1; dot@-1; room@-1; sites; 0; outer; inner", "1; room@-1; dot@-1; sites; 0; outer; inner", []int{1, 0}, nil},
		{"1; dot@-1; dot@-1; sites; 2; outer; inner", "1; dot@-1; dot@-1; sites; 2; outer; inner", []int{0, 1}, []int{0, 1}},
		{"1; key@-1 0; key@-1 1; key@-1 0; sites; 2; outer; inner", "1; key@-1 1; key@-1 0; key@-1 0; sites; 2; outer; inner", []int{1, 0, 2}, []int{0, 1}},
		{"1; key@-1 3; key@-1 3; dot@-1; sites; 5; outer; inner", "1; dot@-1; key@-1 1; key@-1 1; sites; 5; outer; inner", []int{1, 2, 0}, []int{0, 2, 3, 1, 4}},
		{"1; room@-1; room@-1; key@0 2; sites 1; 1; outer x y; inner", "1; room@-1; room@-1; key@1 2; sites 0; 1; outer x y; inner", []int{1, 0, 2}, []int{0}},
		{"1; door@-1 0 1; door@-1 1 2; door@-1 2 0; sites; 3; outer; inner a=2", "1; door@-1 1 0; door@-1 0 2; door@-1 2 1; sites; 3; outer; inner a=0", []int{2, 0, 1}, []int{2, 1, 0}},
	} {
		a, b := read(t, e.a), read(t, e.b)
		nodes, ok := impl.FindTranslation(house(), a, b)
		wantInts(t, nodes, ok, e.nodes, true, "FindTranslation(%s, %s)", e.a, e.b)
		edges, ok := impl.EdgesOfTranslation(house(), a, b, nodes)
		wantInts(t, edges, ok, e.edges, true, "EdgesOfTranslation(%s, %s, %v)", e.a, e.b, nodes)
		checkTranslations(t, a, b)
	}
}

// listsThatAreNone are lists with wrong lengths or numbers for two nodes.
func listsThatAreNone() [][]int {
	list := [][]int{nil, {}, {0}, {1}, {0, 1, 2}, {1, 0, 0}, {0, 0}, {1, 1}, {0, 2}, {2, 0}, {1, 2}, {-1, 0}, {0, -1}, {-1, -2}, make([]int, 200000), numbersFrom(0, 200000)}
	for _, n := range extremes() {
		list = append(list, []int{n, n}, []int{0, 1, n})
		if n < 0 || n > 1 {
			list = append(list, []int{n, 0}, []int{n, 1}, []int{0, n}, []int{1, n})
		}
	}
	return list
}

func TestListsThatAreNoTranslations(t *testing.T) {
	for _, text := range []string{"1; dot@-1; dot@-1; sites; 2; outer; inner", "1; room@-1; room@-1; sites -1; 0; outer x; inner", "1; key@-1 0; key@-1 1; sites; 2; outer; inner"} {
		b := read(t, text)
		checkList(t, b, b, []int{0, 1}, true)
		checkList(t, b, b, []int{1, 0}, true)
		for _, nodes := range listsThatAreNone() {
			checkList(t, b, b, nodes, false)
		}
	}
	empty := impl.Bigraph{Roots: 1, Edges: 1}
	checkList(t, empty, empty, nil, true)
	checkList(t, empty, empty, []int{}, true)
	for _, nodes := range listsThatAreNone()[2:] {
		checkList(t, empty, empty, nodes, false)
	}
	for _, nodes := range listsOfNumbers(-1, 3, 4) {
		b := read(t, "1; room@-1; room@0; room@-1; sites; 0; outer; inner")
		checkList(t, b, b, nodes, isTranslationAs(b, b, nodes))
	}
	one, three := read(t, "1; dot@-1; sites; 0; outer; inner"), read(t, "1; dot@-1; dot@-1; dot@-1; sites; 0; outer; inner")
	for _, nodes := range listsOfNumbers(0, 2, 3) {
		checkList(t, one, three, nodes, false)
		checkList(t, three, one, nodes, false)
	}
}

func TestLeanEqual(t *testing.T) {
	r, counts := rand.New(rand.NewSource(54)), map[string]int{}
	samples := lightSamples()[:400]
	for i, a := range samples {
		for _, b := range []impl.Bigraph{shuffled(r, a), samples[(i+1)%len(samples)], withIdleEdges(shuffled(r, a), 1)} {
			if !isFine(house(), b) {
				continue
			}
			want := shapeOf(leanAs(a)) == shapeOf(leanAs(b))
			are, ok := impl.AreLeanEqual(house(), a, b)
			wantReport(t, are, ok, want, "AreLeanEqual(%v, %v)", a, b)
			same, _ := impl.AreIsomorphic(house(), a, b)
			counts[fmt.Sprint(are, same)]++
		}
	}
	wantAtLeast(t, counts, 20, "true true", "true false", "false false")
}

func TestLeanEqualExamples(t *testing.T) {
	for _, e := range []struct {
		a, b string
		want bool
	}{
		{nothing, "0; sites; 8; outer; inner", true},
		{"1; key@-1 0; sites; 1; outer; inner", "1; key@-1 7; sites; 8; outer; inner", true},
		{"1; key@-1 2; key@-1 0; sites; 3; outer; inner b=2", "1; key@-1 0; key@-1 4; sites; 5; outer; inner b=4", true},
		{"1; key@-1 2; key@-1 0; sites; 3; outer; inner b=2", "1; key@-1 1; key@-1 0; sites; 2; outer; inner b=1", true},
		{"1; key@-1 0; key@-1 0; sites; 2; outer; inner", "1; key@-1 0; key@-1 1; sites; 2; outer; inner", false},
		{nothing, idleX, false},
		{idleX, "0; sites; 0; outer y; inner", false},
		{idleX, "0; sites; 1; outer x; inner", true},
		{"1; sites; 1; outer; inner", "2; sites; 1; outer; inner", false},
		{"0; sites; 1; outer; inner a=0", "0; sites; 1; outer; inner", false},
	} {
		a, b := read(t, e.a), read(t, e.b)
		are, ok := impl.AreLeanEqual(house(), a, b)
		wantReport(t, are, ok, e.want, "AreLeanEqual(%s, %s)", e.a, e.b)
		are, ok = impl.AreLeanEqual(house(), b, a)
		wantReport(t, are, ok, e.want, "AreLeanEqual(%s, %s)", e.b, e.a)
		if are, ok := impl.AreIsomorphic(house(), a, b); are && a.Edges != b.Edges || !ok {
			t.Errorf("AreIsomorphic(%s, %s) = %v, %v", e.a, e.b, are, ok)
		}
	}
}

// checkSymmetries checks all that is said of symmetries, where all are known.
func checkSymmetries(t *testing.T, b impl.Bigraph, all [][]int) {
	t.Helper()
	if count, ok := impl.CountSymmetries(house(), b); count != len(all) || !ok {
		t.Fatalf("CountSymmetries(%v) = %d, %v; want %d", b, count, ok, len(all))
	}
	got, ok := impl.SymmetriesOf(house(), b)
	want := all
	if len(all) > 24 {
		want = nil
	}
	if ok != (len(all) <= 24) || !slices.EqualFunc(got, want, slices.Equal[[]int]) {
		t.Fatalf("SymmetriesOf(%v) = %v, %v; want %v", b, got, ok, want)
	}
	orbits, ok := impl.OrbitsOf(house(), b)
	wantInts(t, orbits, ok, orbitsAs(all), true, "OrbitsOf(%v)", b)
}

func TestSymmetriesAndClasses(t *testing.T) {
	counts := map[string]int{}
	for _, b := range lightSamples() {
		all := translationsAs(b, b)
		checkSymmetries(t, b, all)
		classes, ok := impl.ClassesOf(house(), b)
		wantInts(t, classes, ok, classesAs(b), true, "ClassesOf(%v)", b)
		if len(all) > 24 {
			counts["many"]++
		}
		if len(all) > 1 {
			counts["several"]++
		}
	}
	wantAtLeast(t, counts, 5, "many")
	wantAtLeast(t, counts, 100, "several")
}

// repeated is a Bigraph with a root in which there are several nodes, each a number of times.
func repeated(t *testing.T, rest string, nodes ...string) impl.Bigraph {
	t.Helper()
	return read(t, "1; "+strings.Join(nodes, "; ")+"; "+rest)
}

func times(n int, node string) []string { return slices.Repeat([]string{node}, n) }

func TestCountsOfSymmetries(t *testing.T) {
	plain := "sites; 0; outer; inner"
	for _, e := range []struct {
		nodes []string
		rest  string
		want  int
	}{
		{times(1, "dot@-1"), plain, 1},
		{times(2, "dot@-1"), plain, 2},
		{times(3, "dot@-1"), plain, 6},
		{times(4, "dot@-1"), plain, 24},
		{append(times(4, "dot@-1"), "room@-1"), plain, 24},
		{append(times(4, "dot@-1"), times(2, "room@-1")...), plain, 48},
		{append(times(3, "dot@-1"), times(3, "room@-1")...), plain, 36},
		{append(times(3, "dot@-1"), times(2, "room@-1")...), plain, 12},
		{append(times(3, "dot@-1"), "door@-1 0 1", "door@-1 1 2", "door@-1 2 3", "door@-1 3 0"), "sites; 4; outer; inner", 24},
		{append(times(3, "dot@-1"), "door@-1 0 1", "door@-1 1 2", "door@-1 2 3", "door@-1 3 4", "door@-1 4 0"), "sites; 5; outer; inner", 30},
		{append(times(2, "dot@-1"), "key@-1 0", "key@-1 0", "key@-1 1", "key@-1 1", "room@-1", "room@-1"), "sites; 2; outer; inner", 32},
		{times(5, "dot@-1"), plain, 120},
		{times(8, "dot@-1"), plain, 40320},
		{times(8, "dot@-1"), "sites; 8; outer; inner", 40320},
		{times(8, "pen@-1 0 0 0"), "sites; 8; outer; inner", 40320},
		{times(8, "pen@-1 8 8 8"), "sites; 8; outer x; inner", 40320},
		{[]string{"key@-1 0", "key@-1 1", "key@-1 2", "key@-1 3", "key@-1 4", "key@-1 5", "key@-1 6", "key@-1 7"}, "sites; 8; outer; inner", 40320},
		{[]string{"key@-1 0", "key@-1 1", "key@-1 2", "key@-1 3", "key@-1 4", "key@-1 5", "key@-1 6", "key@-1 7"}, "sites; 8; outer; inner a=0", 5040},
		{[]string{"key@-1 0", "key@-1 1", "key@-1 2", "key@-1 3"}, "sites; 4; outer; inner a=0 b=1 c=2 d=3", 1},
		{[]string{"key@-1 0", "key@-1 1"}, "sites; 0; outer x y; inner", 1},
		{[]string{"key@-1 0", "key@-1 0", "key@-1 1", "key@-1 1"}, "sites; 2; outer; inner", 8},
		{[]string{"key@-1 0", "key@-1 1", "key@-1 0", "key@-1 1"}, "sites; 2; outer; inner", 8},
		{[]string{"door@-1 0 1", "door@-1 0 1"}, "sites; 2; outer; inner", 2},
		{[]string{"door@-1 0 1", "door@-1 1 0"}, "sites; 2; outer; inner", 2},
		{[]string{"door@-1 0 1", "door@-1 1 2"}, "sites; 3; outer; inner", 1},
		{[]string{"door@-1 0 1", "door@-1 0 2"}, "sites; 3; outer; inner", 2},
		{[]string{"door@-1 0 0", "door@-1 1 2"}, "sites; 3; outer; inner", 1},
		{[]string{"door@-1 0 1", "door@-1 1 2", "door@-1 2 3", "door@-1 3 0"}, "sites; 4; outer; inner", 4},
		{[]string{"room@-1", "room@-1", "dot@0", "dot@1"}, plain, 2},
		{[]string{"room@-1", "room@-1", "dot@0", "dot@0", "dot@1", "dot@1"}, plain, 8},
		{[]string{"room@-1", "room@0", "room@1"}, plain, 1},
		{times(3, "room@-1"), "sites 1; 0; outer; inner", 2},
		{times(3, "room@-1"), "sites 1 1; 0; outer; inner", 2},
		{times(3, "room@-1"), "sites 1 2; 0; outer; inner", 1},
		{times(3, "room@-1"), "sites -1 -1; 0; outer; inner", 6},
	} {
		b := repeated(t, e.rest, e.nodes...)
		if count, ok := impl.CountSymmetries(house(), b); count != e.want || !ok {
			t.Errorf("CountSymmetries(%v) = %d, %v; want %d", b, count, ok, e.want)
		}
		all, ok := impl.SymmetriesOf(house(), b)
		if ok != (e.want <= 24) || ok && len(all) != e.want || !ok && len(all) > 0 {
			t.Errorf("SymmetriesOf(%v) = %v, %v; want %d", b, all, ok, e.want)
		}
	}
	for _, b := range []impl.Bigraph{{}, {Roots: 4}, {Edges: 8}, {Outer: []string{"x"}}, identityAs(4, []string{"a", "b"}), wired(2, nil, []string{"a", "b"}, []string{"0", "1"})} {
		checkSymmetries(t, b, [][]int{{}})
	}
}

func TestSymmetriesOfTwoPairs(t *testing.T) {
	b := read(t, "1; room@-1; key@0 0; room@-1; key@2 1; sites; 2; outer; inner")
	checkSymmetries(t, b, [][]int{{0, 1, 2, 3}, {2, 3, 0, 1}})
	edges, ok := impl.EdgesOfTranslation(house(), b, b, []int{2, 3, 0, 1})
	wantInts(t, edges, ok, []int{1, 0}, true, "EdgesOfTranslation")
}

func TestOrbitsAndClassesExamples(t *testing.T) {
	for _, e := range []struct {
		b               string
		orbits, classes []int
	}{
		{nothing, nil, nil},
		{"1; dot@-1; room@-1; dot@-1; room@-1; sites; 0; outer; inner", []int{0, 1, 0, 1}, []int{0, 1, 0, 1}},
		{"2; dot@-1; dot@-2; dot@-1; sites; 0; outer; inner", []int{0, 1, 0}, []int{0, 1, 0}},
		{"1; room@-1; room@-1; sites 0 1; 0; outer; inner", []int{0, 1}, []int{0, 0}},
		{"1; room@-1; room@-1; sites 0 0 1; 0; outer; inner", []int{0, 1}, []int{0, 1}},
		{"1; room@-1; room@-1; sites 0 -1; 0; outer; inner", []int{0, 1}, []int{0, 1}},
		{"1; room@-1; room@-1; dot@0; dot@1; dot@0; sites; 0; outer; inner", []int{0, 1, 2, 3, 2}, []int{0, 1, 2, 3, 2}},
		{"1; room@-1; room@-1; dot@0; room@1; sites; 0; outer; inner", []int{0, 1, 2, 3}, []int{0, 1, 2, 3}},
		{"1; door@-1 0 1; key@-1 0; key@-1 1; sites; 2; outer; inner", []int{0, 1, 2}, []int{0, 1, 2}},
		{"1; key@-1 0; key@-1 1; key@-1 1; key@-1 2; key@-1 2; sites; 3; outer; inner", []int{0, 1, 1, 1, 1}, []int{0, 1, 1, 1, 1}},
		{"1; key@-1 0; box@-1 0; key@-1 1; key@-1 1; sites; 2; outer; inner", []int{0, 1, 2, 2}, []int{0, 1, 2, 2}},
		{"1; room@-1; room@-1; room@0; room@1; dot@3; sites; 0; outer; inner", []int{0, 1, 2, 3, 4}, []int{0, 1, 2, 3, 4}},
		{"1; room@-1; room@-1; room@0; room@1; dot@3; dot@2; sites; 0; outer; inner", []int{0, 0, 2, 2, 4, 4}, []int{0, 0, 2, 2, 4, 4}},
		{"1; key@-1 0; key@-1 1; key@-1 0; sites; 2; outer; inner", []int{0, 1, 0}, []int{0, 1, 0}},
		{"1; key@-1 0; key@-1 1; sites; 2; outer; inner a=1", []int{0, 1}, []int{0, 1}},
		{"1; key@-1 0; key@-1 1; sites; 2; outer; inner a=1 b=0", []int{0, 1}, []int{0, 1}},
		{"1; key@-1 0; key@-1 1; sites; 0; outer x y; inner", []int{0, 1}, []int{0, 1}},
		{"1; key@-1 1; key@-1 1; sites; 0; outer x y; inner a=0", []int{0, 0}, []int{0, 0}},
		{"1; door@-1 0 0; door@-1 1 2; sites; 3; outer; inner", []int{0, 1}, []int{0, 1}},
		{"1; door@-1 0 1; door@-1 1 2; door@-1 2 3; sites; 4; outer; inner", []int{0, 1, 2}, []int{0, 1, 2}},
		{"1; door@-1 0 1; door@-1 1 2; door@-1 2 0; door@-1 3 4; door@-1 4 5; door@-1 5 6; door@-1 6 3; sites; 7; outer; inner", []int{0, 0, 0, 3, 3, 3, 3}, []int{0, 0, 0, 0, 0, 0, 0}},
	} {
		b := read(t, e.b)
		orbits, ok := impl.OrbitsOf(house(), b)
		wantInts(t, orbits, ok, e.orbits, true, "OrbitsOf(%s)", e.b)
		classes, ok := impl.ClassesOf(house(), b)
		wantInts(t, classes, ok, e.classes, true, "ClassesOf(%s)", e.b)
		wantInts(t, classes, ok, classesAs(b), true, "ClassesOf(%s)", e.b)
	}
}

// checkCanonical checks all that is said of codes and canonical forms, by all orders.
func checkCanonical(t *testing.T, b impl.Bigraph) {
	t.Helper()
	code, ok := impl.CodeOf(house(), b)
	want, _ := codeAs(b)
	wantInts(t, code, ok, want, true, "CodeOf(%v)", b)
	first, count, form := canonicalAs(b)
	order, ok := impl.CanonicalOrder(house(), b)
	wantInts(t, order, ok, first, true, "CanonicalOrder(%v)", b)
	got, ok := impl.CanonicalOf(house(), b)
	wantResult(t, got, ok, form, true, "CanonicalOf(%v)", b)
	if is := impl.IsCanonical(house(), b); is != isSame(b, form) {
		t.Fatalf("IsCanonical(%v) = %v, and the canonical form is %v", b, is, form)
	}
	key, ok := impl.KeyOf(house(), b)
	if want := sumOf(textOf(house(), form)); key != want || !ok {
		t.Fatalf("KeyOf(%v) = %d, %v; want %d", b, key, ok, want)
	}
	// The orders that lead to the canonical form are the symmetries of one of them.
	if symmetries, _ := impl.CountSymmetries(house(), b); symmetries != count {
		t.Fatalf("%v has %d symmetries, and %d orders lead to its canonical form", b, symmetries, count)
	}
}

func TestCanonicalForms(t *testing.T) {
	r := rand.New(rand.NewSource(55))
	for _, b := range append(lightSamples(), alikeSamples(56, 300, 5)...) {
		checkCanonical(t, b)
		form, _ := impl.CanonicalOf(house(), b)
		checkCanonical(t, form)
		for _, other := range slightChanges(r, form, 2) {
			checkCanonical(t, other)
		}
	}
	for _, b := range tinyBigraphs() {
		checkCanonical(t, b)
	}
}

func TestCanonicalFormsOfManyNodes(t *testing.T) {
	for _, b := range append(alikeSamples(57, 9, 7), fullBigraph()) {
		checkCanonical(t, b)
	}
	for _, text := range []string{
		"1; room@-1; room@-1; room@-1; room@-1; key@2 0; key@1 1; key@3 1; key@0 0; sites; 2; outer; inner",
		"1; key@-1 0; key@-1 1; key@-1 2; key@-1 3; key@-1 4; key@-1 5; pen@-1 5 1 3; pen@-1 4 0 2; sites; 7; outer; inner",
		"1; key@-1 0; key@-1 1; key@-1 2; key@-1 3; key@-1 4; key@-1 5; key@-1 6; key@-1 7; sites; 8; outer; inner a=7 b=5 c=6 d=3 e=4",
	} {
		checkCanonical(t, read(t, text))
	}
}

func TestCanonicalFormsOfNodesThatAreAlike(t *testing.T) {
	ascending := numbersFrom(0, 8)
	for _, nodes := range [][]string{times(8, "dot@-1"), times(8, "pen@-1 3 3 3"), times(8, "pen@-1 8 9 8"), {"key@-1 7", "key@-1 6", "key@-1 5", "key@-1 4", "key@-1 3", "key@-1 2", "key@-1 1", "key@-1 0"}} {
		b := repeated(t, "sites; 8; outer x y; inner", nodes...)
		order, ok := impl.CanonicalOrder(house(), b)
		wantInts(t, order, ok, ascending, true, "CanonicalOrder(%v)", b)
	}
	keys := repeated(t, "sites; 8; outer; inner h=0", "key@-1 7", "key@-1 6", "key@-1 5", "key@-1 4", "key@-1 3", "key@-1 2", "key@-1 1", "key@-1 0")
	order, ok := impl.CanonicalOrder(house(), keys)
	wantInts(t, order, ok, []int{7, 0, 1, 2, 3, 4, 5, 6}, true, "CanonicalOrder(%v)", keys)
	chain := impl.Bigraph{Roots: 1}
	for k := range 8 {
		chain.Nodes = append(chain.Nodes, impl.Node{Parent: k - 1})
	}
	order, ok = impl.CanonicalOrder(house(), chain)
	wantInts(t, order, ok, ascending, true, "CanonicalOrder(%v)", chain)
	if !impl.IsCanonical(house(), chain) {
		t.Error("a chain of rooms is not canonical")
	}
}

func TestCanonicalExamples(t *testing.T) {
	for _, e := range []struct {
		b, form     string
		code, order []int
	}{
		{nothing, nothing, nil, nil},
		{"0; sites; 8; outer x; inner", "0; sites; 8; outer x; inner", nil, nil},
		{"1; room@-1; room@-1; sites 1; 0; outer; inner", "1; room@-1; room@-1; sites 0; 0; outer; inner", []int{0, 0, 0, 0, 5}, []int{1, 0}},
		{"3; sites -3 -1; 0; outer; inner", "3; sites -3 -1; 0; outer; inner", []int{2, 0}, nil},
		{"0; sites; 3; outer x y; inner a=2 b=4 c=0 d=2", "0; sites; 3; outer x y; inner a=0 b=4 c=1 d=0", []int{16, 1, 17, 16}, nil},
		{"1; dot@-1; room@-1; sites; 0; outer; inner", "1; room@-1; dot@-1; sites; 0; outer; inner", []int{4, 0, 0, 0}, []int{1, 0}},
		{"1; room@-1; dot@0; room@-1; sites; 0; outer; inner", "1; room@-1; room@-1; dot@0; sites; 0; outer; inner", []int{0, 0, 4, 4, 0, 0}, []int{0, 2, 1}},
		{"1; key@-1 2; room@0; sites; 3; outer; inner", "1; key@-1 0; room@0; sites; 3; outer; inner", []int{1, 0, 16, 0, 4}, []int{0, 1}},
		{"2; room@-2; room@-1; sites 1; 0; outer; inner", "2; room@-1; room@-2; sites 0; 0; outer; inner", []int{0, 1, 0, 0, 5}, []int{1, 0}},
		{"1; key@-1 1; key@-1 2; sites; 1; outer x y; inner", "1; key@-1 1; key@-1 2; sites; 1; outer x y; inner", []int{1, 0, 0, 1, 0, 1}, []int{0, 1}},
		{"1; key@-1 0; key@-1 2; sites; 1; outer x y; inner", "1; key@-1 2; key@-1 0; sites; 1; outer x y; inner", []int{1, 0, 16, 1, 0, 1}, []int{1, 0}},
		{"1; key@-1 0; key@-1 2; key@-1 2; sites; 4; outer; inner a=1", "1; key@-1 0; key@-1 0; key@-1 1; sites; 4; outer; inner a=2", []int{1, 0, 16, 1, 0, 17, 1, 0, 17, 18}, []int{1, 2, 0}},
		{"1; key@-1 0; key@-1 1; sites; 2; outer; inner a=1", "1; key@-1 0; key@-1 1; sites; 2; outer; inner a=0", []int{1, 0, 16, 1, 0, 17, 17}, []int{1, 0}},
		{"1; door@-1 0 1; door@-1 2 2; sites; 3; outer; inner", "1; door@-1 0 0; door@-1 1 2; sites; 3; outer; inner", []int{2, 0, 16, 17, 2, 0, 18, 18}, []int{1, 0}},
		{"1; key@-1 0; room@-1; sites 0 1; 0; outer x; inner a=0", "1; room@-1; key@-1 0; sites 1 0; 0; outer x; inner a=0", []int{1, 0, 0, 0, 0, 4, 5, 0}, []int{1, 0}},
	} {
		b := read(t, e.b)
		code, ok := impl.CodeOf(house(), b)
		wantInts(t, code, ok, e.code, true, "CodeOf(%s)", e.b)
		order, ok := impl.CanonicalOrder(house(), b)
		wantInts(t, order, ok, e.order, true, "CanonicalOrder(%s)", e.b)
		form, ok := impl.CanonicalOf(house(), b)
		wantResult(t, form, ok, read(t, e.form), true, "CanonicalOf(%s)", e.b)
		if is := impl.IsCanonical(house(), b); is != (e.b == e.form) {
			t.Errorf("IsCanonical(%s) = %v", e.b, is)
		}
		checkCanonical(t, b)
	}
}

func TestOnlyEdgesCanKeepFromCanonical(t *testing.T) {
	for text, want := range map[string]bool{
		"1; key@-1 0; key@-1 1; sites; 2; outer; inner":         true,
		"1; key@-1 1; key@-1 0; sites; 2; outer; inner":         false,
		"1; key@-1 0; key@-1 1; sites; 3; outer; inner":         true,
		"1; key@-1 0; key@-1 2; sites; 3; outer; inner":         false,
		"1; key@-1 1; sites; 2; outer; inner":                   false,
		"0; sites; 2; outer; inner a=0 b=1":                     true,
		"0; sites; 2; outer; inner a=1 b=0":                     false,
		"1; door@-1 1 0; sites; 2; outer; inner a=0":            false,
		"1; door@-1 0 1; sites; 2; outer; inner a=1":            true,
		"1; door@-1 0 1; sites; 3; outer x; inner a=2 b=3":      true,
		"1; door@-1 0 1; sites; 4; outer x; inner a=3 b=4":      false,
		"1; door@-1 0 1; sites; 4; outer x; inner a=2 b=4 c=2":  true,
		"1; door@-1 0 1; sites; 4; outer x; inner a=4 b=3 c=2":  false,
		"1; pen@-1 0 1 2; pen@-1 2 3 4; sites; 5; outer; inner": true,
	} {
		if is := impl.IsCanonical(house(), read(t, text)); is != want {
			t.Errorf("IsCanonical(%s) = %v", text, is)
		}
		checkCanonical(t, read(t, text))
	}
}

func TestKeyExamples(t *testing.T) {
	for text, form := range map[string]string{
		nothing: nothing,
		"1; dot@-1; key@-1 2; sites; 3; outer; inner a=1":              "1; key@-1 0; dot@-1; sites; 3; outer; inner a=1",
		"1; room@-1; dot@0; room@-1; sites -1 2; 0; outer x zz; inner": "1; room@-1; room@-1; dot@0; sites -1 1; 0; outer x zz; inner",
	} {
		key, ok := impl.KeyOf(house(), read(t, text))
		if want := sumOf(form); key != want || !ok {
			t.Errorf("KeyOf(%s) = %d, %v; want %d", text, key, ok, want)
		}
	}
	key, ok := impl.KeyOf(house(), fullBigraph())
	if want := sumOf(canonicalText(t, fullBigraph())); key != want || !ok {
		t.Errorf("KeyOf of the full Bigraph = %d, %v; want %d", key, ok, want)
	}
}

// canonicalCalls calls each function of the chapter, and tells all results.
func canonicalCalls(sig []impl.Control, a impl.Bigraph, b impl.Bigraph, nodes []int) [][]any {
	all := [][]any{}
	tell := func(results ...any) { all = append(all, results) }
	edges, ok := impl.EdgesOfTranslation(sig, a, b, nodes)
	tell(edges, ok)
	is, ok := impl.IsTranslation(sig, a, b, nodes)
	tell(is, ok)
	found, ok := impl.FindTranslation(sig, a, b)
	tell(found, ok)
	are, ok := impl.AreIsomorphic(sig, a, b)
	tell(are, ok)
	are, ok = impl.AreLeanEqual(sig, a, b)
	tell(are, ok)
	return append(all, canonicalCallsOfOne(sig, a)...)
}

// canonicalCallsOfOne calls each function of the chapter that takes one Bigraph.
func canonicalCallsOfOne(sig []impl.Control, b impl.Bigraph) [][]any {
	all := [][]any{}
	tell := func(results ...any) { all = append(all, results) }
	lists := map[string]func([]impl.Control, impl.Bigraph) ([]int, bool){
		"OrbitsOf": impl.OrbitsOf, "ClassesOf": impl.ClassesOf, "CodeOf": impl.CodeOf, "CanonicalOrder": impl.CanonicalOrder,
	}
	for _, name := range slices.Sorted(maps.Keys(lists)) {
		list, ok := lists[name](sig, b)
		tell(list, ok)
	}
	count, ok := impl.CountSymmetries(sig, b)
	tell(count, ok)
	symmetries, ok := impl.SymmetriesOf(sig, b)
	tell(symmetries, ok)
	form, ok := impl.CanonicalOf(sig, b)
	tell(form, ok)
	tell(impl.IsCanonical(sig, b))
	key, ok := impl.KeyOf(sig, b)
	tell(key, ok)
	return all
}

func TestCanonicalFailsForInvalidArguments(t *testing.T) {
	good := []impl.Bigraph{{}, twoRooms(), {Roots: 1}, {Outer: []string{"x"}}, roomsIn(1), fullBigraph()}
	for _, bad := range brokenBigraphs() {
		nodes := numbersFrom(0, len(bad.Nodes))
		for _, b := range append(good, bad) {
			wantFailures(t, canonicalCalls(house(), bad, b, nodes), "%v and %v", bad, b)
			wantFailures(t, canonicalCalls(house(), b, bad, nodes)[:5], "%v and %v", b, bad)
		}
	}
	for _, sig := range badSignatures() {
		for _, b := range []impl.Bigraph{{}, {Roots: 1}, roomsIn(2), identityAs(2, []string{"x"})} {
			wantFailures(t, canonicalCalls(sig, b, b, numbersFrom(0, len(b.Nodes))), "%v over %v", b, sig)
		}
	}
	for _, sig := range [][]impl.Control{house()[:4], ionControls()} {
		wantFailures(t, canonicalCalls(sig, twoRooms(), impl.Bigraph{}, nil), "two rooms over %v", sig)
		wantFailures(t, canonicalCalls(sig, impl.Bigraph{}, twoRooms(), nil)[:5], "two rooms over %v", sig)
	}
	for _, n := range append(extremes(), math.MinInt, math.MaxInt) {
		if n < 0 || n > 4 {
			bad := impl.Bigraph{Roots: n}
			wantFailures(t, canonicalCalls(house(), bad, bad, nil), "%d roots", n)
		}
	}
}

func TestResultsOfCanonicalFormsAreNew(t *testing.T) {
	r := rand.New(rand.NewSource(58))
	for _, kept := range append(lightSamples(), fullBigraph()) {
		other := shuffled(r, kept)
		sig, a, b := house(), cloneOf(kept), cloneOf(other)
		first := numbersFrom(0, len(a.Nodes))
		if found, ok := impl.FindTranslation(sig, a, b); ok {
			first = found
		}
		nodes := slices.Clone(first)
		calls := func() [][]any { return canonicalCalls(sig, a, b, nodes) }
		results := calls()
		for _, list := range results {
			if form, ok := list[0].(impl.Bigraph); ok {
				checkOwnLists(t, cloneOf(form))
			}
		}
		wantNewResults(t, results, calls)
		if !isSame(a, kept) || !isSame(b, other) || !slices.Equal(sig, house()) || !slices.Equal(nodes, first) {
			t.Fatalf("a call has changed %v, %v or %v to %v, %v or %v, or the results share their memory", kept, other, first, a, b, nodes)
		}
		form, _ := impl.CanonicalOf(sig, a)
		checkOwnLists(t, form)
	}
}

func TestSymmetriesDoNotShareMemory(t *testing.T) {
	b := repeated(t, "sites; 0; outer; inner", times(4, "dot@-1")...)
	all, _ := impl.SymmetriesOf(house(), b)
	for i, want := range ordersOf(4) {
		if !slices.Equal(all[i], want) {
			t.Fatalf("the symmetry %d is %v; want %v", i, all[i], want)
		}
		spoil(reflect.ValueOf(all[i]))
	}
}
