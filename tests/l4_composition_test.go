package tests

import (
	"fmt"
	"math"
	"math/rand"
	"reflect"
	"slices"
	"strings"
	"testing"

	"loop.example/g01082/impl"
)

// pairCalls are the functions of two Bigraphs with what they should return.
func pairCalls() map[string][2]func(a, b impl.Bigraph) (impl.Bigraph, bool) {
	type call = func(a, b impl.Bigraph) (impl.Bigraph, bool)
	over := func(f func([]impl.Control, impl.Bigraph, impl.Bigraph) (impl.Bigraph, bool)) call {
		return func(a, b impl.Bigraph) (impl.Bigraph, bool) { return f(house(), a, b) }
	}
	return map[string][2]call{
		"ComposeBigraphs": {over(impl.ComposeBigraphs), composedAs},
		"Juxtapose":       {over(impl.Juxtapose), juxtaposedAs},
		"ParallelProduct": {over(impl.ParallelProduct), parallelAs},
		"MergeProduct":    {over(impl.MergeProduct), mergeProductAs},
		"NestBigraphs":    {over(impl.NestBigraphs), nestedAs},
	}
}

// checkPair checks all functions of two valid Bigraphs, and counts those that do not fail.
func checkPair(t *testing.T, a impl.Bigraph, b impl.Bigraph, counts map[string]int) {
	t.Helper()
	for name, calls := range pairCalls() {
		got, ok := calls[0](a, b)
		want, possible := calls[1](a, b)
		wantResult(t, got, ok, want, possible, "%s(%v, %v)", name, a, b)
		if ok {
			counts[name]++
		} else {
			counts["no "+name]++
		}
	}
	fits, ok := impl.FitsAfter(house(), a, b)
	if want := fitsAs(a, b); fits != want || !ok {
		t.Fatalf("FitsAfter(%v, %v) = %v, %v; want %v, true", a, b, fits, ok, want)
	}
	counts[fmt.Sprint("FitsAfter ", fits)]++
}

// wantAtLeast checks that the samples of a test have shown each case often enough.
func wantAtLeast(t *testing.T, counts map[string]int, least int, cases ...string) {
	t.Helper()
	for _, name := range cases {
		if counts[name] < least {
			t.Errorf("only %d samples for: %s", counts[name], name)
		}
	}
}

func TestCompositionsAndProducts(t *testing.T) {
	r, counts := rand.New(rand.NewSource(20)), map[string]int{}
	for i := range 3000 {
		chain, parts := randomChain(r, 2, 1+i%8, 4, pick(r, chainWords())), randomParts(r, 2)
		checkPair(t, chain[0], chain[1], counts)
		checkPair(t, chain[1], chain[0], counts)
		checkPair(t, parts[0], parts[1], counts)
		checkPair(t, randomBigraph(r), randomBigraph(r), counts)
		closed := withWires(chain[0])
		checkPair(t, closed, chain[1], counts)
	}
	wantAtLeast(t, counts, 500, "FitsAfter true", "FitsAfter false", "ComposeBigraphs", "no ComposeBigraphs", "Juxtapose", "no Juxtapose", "ParallelProduct", "no ParallelProduct", "MergeProduct", "no MergeProduct", "NestBigraphs", "no NestBigraphs")
}

func TestCompositionsOfTinyBigraphs(t *testing.T) {
	r, counts, tiny := rand.New(rand.NewSource(21)), map[string]int{}, tinyBigraphs()
	for range 6000 {
		checkPair(t, pick(r, tiny), pick(r, tiny), counts)
	}
	for _, a := range formSamples() {
		for _, b := range []impl.Bigraph{{}, {Roots: 1}, {Outer: []string{"a"}}, {Edges: 1}, identityAs(len(a.Sites), innerOf(a)), twoRooms()} {
			checkPair(t, a, b, counts)
			checkPair(t, b, a, counts)
		}
	}
	wantAtLeast(t, counts, 100, "FitsAfter true", "ComposeBigraphs", "Juxtapose", "ParallelProduct", "NestBigraphs")
}

// pairExample tells the texts of two Bigraphs over house, and that of a result, or no text.
type pairExample struct{ a, b, want string }

func checkExamples(t *testing.T, name string, examples []pairExample) {
	t.Helper()
	calls := pairCalls()[name]
	for _, e := range examples {
		a, one := bigraphOf(house(), e.a)
		b, two := bigraphOf(house(), e.b)
		want, possible := bigraphOf(house(), e.want)
		if !one || !two || possible != (e.want != "") {
			t.Fatal("the example is not valid:", e)
		}
		got, ok := calls[0](a, b)
		wantResult(t, got, ok, want, possible, "%s(%s, %s)", name, e.a, e.b)
	}
}

const (
	nothing   = "0; sites; 0; outer; inner"
	oneRoom   = "1; room@-1; sites 0; 0; outer; inner"
	emptyRoom = "1; room@-1; sites; 0; outer; inner"
	keyOfX    = "1; key@-1 0; sites; 0; outer x; inner"
	idleX     = "0; sites; 0; outer x; inner"
)

func TestComposeExamples(t *testing.T) {
	checkExamples(t, "ComposeBigraphs", []pairExample{
		{nothing, nothing, nothing},
		{oneRoom, oneRoom, "1; room@-1; room@0; sites 1; 0; outer; inner"},
		{oneRoom, "1; sites; 0; outer; inner", emptyRoom},
		{oneRoom, "1; sites -1 -1; 0; outer; inner", "1; room@-1; sites 0 0; 0; outer; inner"},
		{oneRoom, keyOfX, ""},
		{oneRoom, nothing, ""},
		{nothing, oneRoom, ""},
		{emptyRoom, nothing, emptyRoom},
		{emptyRoom, "0; sites; 2; outer; inner", "1; room@-1; sites; 2; outer; inner"},
		{"0; sites; 1; outer; inner x=0", idleX, "0; sites; 1; outer; inner"},
		{"0; sites; 0; outer y z; inner x=1", "0; sites; 0; outer x; inner", "0; sites; 0; outer y z; inner"},
		{"1; room@-1; sites 0; 1; outer; inner x=0", keyOfX, "1; room@-1; key@0 0; sites; 1; outer; inner"},
		{"1; room@-1; sites 0; 0; outer a b; inner x=1 y=1", "1; door@-1 1 2; sites 0; 1; outer x y; inner p=0 q=1 r=2", "1; room@-1; door@0 2 2; sites 1; 1; outer a b; inner p=0 q=2 r=2"},
		{"2; room@-2; box@-1 1; sites -1 0; 2; outer q; inner x=0 y=2", "2; key@-1 2; room@-2; pen@1 0 3 3; sites 1 -1; 2; outer x y; inner c=3 d=1", "2; room@-2; box@-1 1; key@-1 0; room@0; pen@3 2 4 4; sites 3 -1; 4; outer q; inner c=4 d=3"},
		{"1; sites -1 -1; 0; outer; inner", "2; room@-2; room@-1; sites 0 1 -1 -2; 0; outer; inner", "1; room@-1; room@-1; sites 0 1 -1 -1; 0; outer; inner"},
		{"2; sites -2 -1; 0; outer; inner", "2; dot@-1; room@-2; sites -2; 0; outer; inner", "2; dot@-2; room@-1; sites -1; 0; outer; inner"},
		{"1; sites -1; 0; outer x; inner x=0", "1; sites -1; 0; outer y; inner y=0", ""},
		{"1; sites -1; 0; outer x; inner", keyOfX, ""},
		{"1; sites -1 -1; 0; outer; inner", emptyRoom, ""},
	})
}

func TestProductExamples(t *testing.T) {
	checkExamples(t, "Juxtapose", []pairExample{
		{nothing, nothing, nothing},
		{nothing, keyOfX, keyOfX},
		{keyOfX, nothing, keyOfX},
		{keyOfX, keyOfX, ""},
		{keyOfX, idleX, ""},
		{keyOfX, "1; key@-1 0; sites; 0; outer a; inner", "2; key@-1 1; key@-2 0; sites; 0; outer a x; inner"},
		{"1; sites -1; 0; outer x; inner a=0", "1; sites -1; 0; outer y; inner a=0", ""},
		{"0; sites; 1; outer; inner a=0", "0; sites; 1; outer; inner a=0", ""},
		{"1; room@-1; sites 0 -1; 1; outer y; inner d=1 f=0", "2; box@-2 2; sites -1 0; 2; outer x z; inner a=1 e=3", "3; room@-1; box@-3 3; sites 0 -1 -2 1; 3; outer x y z; inner a=2 d=4 e=5 f=0"},
	})
	checkExamples(t, "ParallelProduct", []pairExample{
		{keyOfX, keyOfX, "2; key@-1 0; key@-2 0; sites; 0; outer x; inner"},
		{keyOfX, idleX, keyOfX},
		{idleX, idleX, idleX},
		{nothing, nothing, nothing},
		{"0; sites; 0; outer x; inner a=0", "0; sites; 0; outer x; inner b=0", "0; sites; 0; outer x; inner a=0 b=0"},
		{"0; sites; 0; outer x; inner a=0", "0; sites; 0; outer x; inner a=0", ""},
		{"1; door@-1 1 2; sites; 1; outer b d; inner q=0", "1; door@-1 0 2; sites; 1; outer a b c; inner p=1", "2; door@-1 3 5; door@-2 1 3; sites; 2; outer a b c d; inner p=2 q=0"},
	})
	checkExamples(t, "MergeProduct", []pairExample{
		{nothing, nothing, "1; sites; 0; outer; inner"},
		{idleX, "0; sites; 1; outer; inner a=0", "1; sites; 1; outer x; inner a=0"},
		{keyOfX, keyOfX, "1; key@-1 0; key@-1 0; sites; 0; outer x; inner"},
		{"2; dot@-2; sites -1 -2; 0; outer; inner", "2; dot@-2; dot@-1; sites -2; 0; outer; inner", "1; dot@-1; dot@-1; dot@-1; sites -1 -1 -1; 0; outer; inner"},
		{"2; sites; 0; outer; inner", "3; sites; 0; outer; inner", ""},
		{"0; sites; 1; outer; inner a=0", "0; sites; 1; outer; inner a=0", ""},
	})
	checkExamples(t, "NestBigraphs", []pairExample{
		{nothing, nothing, nothing},
		{oneRoom, keyOfX, "1; room@-1; key@0 0; sites; 0; outer x; inner"},
		{"1; key@-1 0; sites 0; 0; outer x; inner", keyOfX, "1; key@-1 0; key@0 0; sites; 0; outer x; inner"},
		{"1; key@-1 0; sites 0; 0; outer y; inner", "1; door@-1 1 2; sites 0; 0; outer a x y; inner b=1 c=0", "1; key@-1 2; door@0 1 2; sites 1; 0; outer a x y; inner b=1 c=0"},
		{"1; key@-1 0; sites 0; 1; outer x; inner", "1; key@-1 0; sites -1; 1; outer x; inner x=1", "1; key@-1 0; key@0 1; sites 0; 2; outer x; inner x=2"},
		{oneRoom, nothing, ""},
		{emptyRoom, keyOfX, ""},
		{emptyRoom, "0; sites; 0; outer y; inner", "1; room@-1; sites; 0; outer y; inner"},
		{"1; sites -1; 0; outer x; inner x=0", keyOfX, ""},
		{"0; sites; 1; outer; inner a=0", nothing, ""},
		{idleX, "0; sites; 0; outer x; inner a=0", "0; sites; 0; outer x; inner a=0"},
	})
}

func roomsIn(n int) impl.Bigraph {
	return impl.Bigraph{Roots: 1, Nodes: slices.Repeat([]impl.Node{{Parent: -1}}, n), Sites: []int{-1}}
}

// wantPossible checks which of the functions of two Bigraphs fail for two ones.
func wantPossible(t *testing.T, a impl.Bigraph, b impl.Bigraph, want bool, names ...string) {
	t.Helper()
	checkPair(t, a, b, map[string]int{})
	for _, name := range names {
		if _, ok := pairCalls()[name][0](a, b); ok != want {
			t.Errorf("%s(%v, %v) = .., %v", name, a, b, ok)
		}
	}
}

func TestSizesOfCompositionsAndProducts(t *testing.T) {
	products := []string{"Juxtapose", "ParallelProduct", "MergeProduct"}
	all := append(slices.Clone(products), "ComposeBigraphs", "NestBigraphs")
	for m := range 9 {
		for n := range 9 {
			wantPossible(t, roomsIn(m), roomsIn(n), m+n <= 8, all...)
			wantPossible(t, impl.Bigraph{Edges: m}, impl.Bigraph{Edges: n}, m+n <= 8, all...)
		}
	}
	for m := range 5 {
		for n := range 5 {
			wantPossible(t, impl.Bigraph{Roots: m}, impl.Bigraph{Roots: n}, m+n <= 4, products...)
			a, b := impl.Bigraph{Roots: 1, Sites: slices.Repeat([]int{-1}, m)}, impl.Bigraph{Roots: 1, Sites: slices.Repeat([]int{-1}, n)}
			wantPossible(t, a, b, m+n <= 4, products...)
			wantPossible(t, a, impl.Bigraph{Roots: m, Sites: negatives(slices.Repeat([]int{0}, n*min(m, 1)))}, true, "ComposeBigraphs", "NestBigraphs")
		}
	}
	for m := range 17 {
		for n := range 17 {
			names := namesUpTo(m + n)
			a, b := names[:m], names[m:]
			wantPossible(t, impl.Bigraph{Outer: a}, impl.Bigraph{Outer: b}, m+n <= 16, append(products, "NestBigraphs")...)
			wantPossible(t, wired(1, nil, a, slices.Repeat([]string{"0"}, m)), wired(1, nil, b, slices.Repeat([]string{"0"}, n)), m+n <= 16, products...)
			wantPossible(t, wired(0, []string{"x"}, a, slices.Repeat([]string{"x"}, m)), impl.Bigraph{Outer: a}, true, "ComposeBigraphs")
			common := namesUpTo(16)[:max(m, n)]
			wantPossible(t, impl.Bigraph{Outer: common[:m]}, impl.Bigraph{Outer: common[:n]}, true, "ParallelProduct", "MergeProduct", "NestBigraphs")
			wantPossible(t, impl.Bigraph{Outer: common[:m]}, impl.Bigraph{Outer: common[:n]}, min(m, n) == 0, "Juxtapose")
			wantPossible(t, wired(1, nil, common[:m], slices.Repeat([]string{"0"}, m)), wired(1, nil, common[:n], slices.Repeat([]string{"0"}, n)), min(m, n) == 0, products...)
		}
	}
}

func TestFullBigraphsAreComposed(t *testing.T) {
	full := fullBigraph()
	above, below := identityAs(4, full.Outer), identityAs(4, innerOf(full))
	wantPossible(t, above, full, true, "ComposeBigraphs")
	wantPossible(t, full, below, true, "ComposeBigraphs")
	wantPossible(t, full, impl.Bigraph{}, true, "Juxtapose", "ParallelProduct", "MergeProduct")
	wantPossible(t, impl.Bigraph{}, full, true, "Juxtapose", "ParallelProduct", "MergeProduct")
	wantPossible(t, full, impl.Bigraph{Outer: full.Outer}, true, "ParallelProduct", "MergeProduct")
	wantPossible(t, impl.Bigraph{Roots: 4, Sites: []int{-1, -2, -3, -4}, Outer: full.Outer}, full, true, "NestBigraphs")
	for _, more := range []impl.Bigraph{{Roots: 1}, {Edges: 1}, {Outer: []string{"a"}}, {Roots: 1, Sites: []int{-1}}} {
		wantPossible(t, full, more, false, "Juxtapose", "ParallelProduct", "MergeProduct", "ComposeBigraphs")
		wantPossible(t, more, full, false, "Juxtapose", "ParallelProduct", "MergeProduct", "ComposeBigraphs")
	}
}

func TestMergeRoots(t *testing.T) {
	for _, b := range append(formSamples(), twoRooms()) {
		got, ok := impl.MergeRoots(house(), b)
		wantResult(t, got, ok, mergedAs(b), true, "MergeRoots(%v)", b)
	}
	for text, want := range map[string]string{
		nothing:                               "1; sites; 0; outer; inner",
		"4; sites; 0; outer; inner":           "1; sites; 0; outer; inner",
		"0; sites; 1; outer x; inner a=0 b=1": "1; sites; 1; outer x; inner a=0 b=1",
		"3; room@-3; key@0 1; dot@-1; sites -2 0 -3; 1; outer x; inner": "1; room@-1; key@0 1; dot@-1; sites -1 0 -1; 1; outer x; inner",
		emptyRoom: emptyRoom,
	} {
		b, one := bigraphOf(house(), text)
		got, ok := impl.MergeRoots(house(), b)
		if !one || !ok || textOf(house(), got) != want {
			t.Errorf("MergeRoots(%s) = %v, %v; want %s", text, got, ok, want)
		}
	}
}

// checkNames checks the functions that change a name, for a valid Bigraph.
func checkNames(t *testing.T, b impl.Bigraph, name string, to string, counts map[string]int) {
	t.Helper()
	check := func(call string, got impl.Bigraph, ok bool, want impl.Bigraph, possible bool) {
		t.Helper()
		wantResult(t, got, ok, want, possible, "%s(%v, %q, %q)", call, b, name, to)
		if ok {
			counts[call]++
		} else {
			counts["no "+call]++
		}
	}
	got, ok := impl.CloseName(house(), b, name)
	want, possible := closedAs(b, name)
	check("CloseName", got, ok, want, possible)
	got, ok = impl.AddName(house(), b, name)
	want, possible = addedAs(b, name)
	check("AddName", got, ok, want, possible)
	got, ok = impl.JoinNames(house(), b, name, to)
	want, possible = joinedAs(b, name, to)
	check("JoinNames", got, ok, want, possible)
}

func checkOpen(t *testing.T, b impl.Bigraph, edge int, name string) {
	t.Helper()
	got, ok := impl.OpenName(house(), b, edge, name)
	want, possible := openedAs(b, edge, name)
	wantResult(t, got, ok, want, possible, "OpenName(%v, %d, %q)", b, edge, name)
}

func TestNamesAreClosedAddedAndJoined(t *testing.T) {
	counts := map[string]int{}
	for _, b := range append(formSamples(), twoRooms()) {
		names := append(slices.Clone(b.Outer), "a", "m", "zzzz")
		names = append(names, innerOf(b)[:min(len(b.Inner), 2)]...)
		for i, name := range names {
			checkNames(t, b, name, names[(i+1)%len(names)], counts)
			checkNames(t, b, name, names[len(names)-1-i], counts)
			checkNames(t, b, name, name, counts)
		}
	}
	wantAtLeast(t, counts, 500, "CloseName", "no CloseName", "AddName", "no AddName", "JoinNames", "no JoinNames")
}

func TestEdgesAreOpened(t *testing.T) {
	for _, b := range append(formSamples(), twoRooms()) {
		for edge := -1; edge <= 9; edge++ {
			for _, name := range []string{"a", "b", "mm", "zzzz"} {
				checkOpen(t, b, edge, name)
			}
		}
		for i, name := range b.Outer {
			checkOpen(t, b, i%9, name)
		}
	}
	for _, edge := range extremes() {
		checkOpen(t, twoRooms(), edge, "carl")
		checkOpen(t, impl.Bigraph{}, edge, "carl")
	}
}

func TestStringsThatAreNoNames(t *testing.T) {
	for _, b := range []impl.Bigraph{twoRooms(), {}, {Edges: 8}, {Edges: 1, Outer: []string{"a"}}, fullBigraph()} {
		for _, name := range badNames() {
			_, one := impl.CloseName(house(), b, name)
			_, two := impl.AddName(house(), b, name)
			_, three := impl.OpenName(house(), b, 0, name)
			_, four := impl.JoinNames(house(), b, name, "a")
			_, five := impl.JoinNames(house(), b, "bob", name)
			if one || two || three || four || five {
				t.Fatalf("%.100q is taken as a name of %v: %v %v %v %v %v", name, b, one, two, three, four, five)
			}
			checkNames(t, b, name, "a", map[string]int{})
			checkNames(t, b, "bob", name, map[string]int{})
			checkOpen(t, b, 0, name)
		}
	}
}

func TestSizesOfNamesAndEdges(t *testing.T) {
	for edges := range 9 {
		for n := range 17 {
			b := impl.Bigraph{Edges: edges, Outer: namesUpTo(n)}
			_, closed := impl.CloseName(house(), b, "aaaa")
			_, added := impl.AddName(house(), b, "m")
			_, opened := impl.OpenName(house(), b, edges-1, "m")
			_, joined := impl.JoinNames(house(), b, "aaab", "aaaa")
			if closed != (n > 0 && edges < 8) || added != (n < 16) || opened != (edges > 0 && n < 16) || joined != (n > 1) {
				t.Errorf("with %d edges and %d names: %v %v %v %v", edges, n, closed, added, opened, joined)
			}
			checkNames(t, b, "aaaa", "aaab", map[string]int{})
			checkNames(t, b, "m", "aaaa", map[string]int{})
			checkOpen(t, b, edges-1, "m")
		}
	}
}

func TestExamplesOfNames(t *testing.T) {
	sig := house()
	b, ok := bigraphOf(sig, "1; key@-1 3; door@-1 0 4; pen@-1 2 1 3; sites; 2; outer a b c; inner p=3 q=4 r=2")
	if !ok {
		t.Fatal("the example is not valid")
	}
	check := func(call string, got impl.Bigraph, ok bool, want string) {
		t.Helper()
		if text := textOf(sig, got); !ok || text != want {
			t.Errorf("%s = %s, %v; want %s", call, text, ok, want)
		}
	}
	got, ok := impl.CloseName(sig, b, "b")
	check("CloseName", got, ok, "1; key@-1 2; door@-1 0 4; pen@-1 3 1 2; sites; 3; outer a c; inner p=2 q=4 r=3")
	got, ok = impl.OpenName(sig, b, 0, "bb")
	check("OpenName", got, ok, "1; key@-1 2; door@-1 3 4; pen@-1 1 0 2; sites; 1; outer a b bb c; inner p=2 q=4 r=1")
	got, ok = impl.OpenName(sig, b, 1, "aa")
	check("OpenName", got, ok, "1; key@-1 3; door@-1 0 4; pen@-1 1 2 3; sites; 1; outer a aa b c; inner p=3 q=4 r=1")
	got, ok = impl.AddName(sig, b, "ab")
	check("AddName", got, ok, "1; key@-1 4; door@-1 0 5; pen@-1 2 1 4; sites; 2; outer a ab b c; inner p=4 q=5 r=2")
	got, ok = impl.JoinNames(sig, b, "a", "c")
	check("JoinNames", got, ok, "1; key@-1 2; door@-1 0 3; pen@-1 3 1 2; sites; 2; outer b c; inner p=2 q=3 r=3")
	got, ok = impl.JoinNames(sig, b, "c", "a")
	check("JoinNames", got, ok, "1; key@-1 3; door@-1 0 2; pen@-1 2 1 3; sites; 2; outer a b; inner p=3 q=2 r=2")
}

func TestIdleNamesAreClosedJoinedAndOpened(t *testing.T) {
	for _, text := range []string{"0; sites; 0; outer x y; inner", "2; key@-2 1; sites 0; 1; outer x y; inner", "1; sites -1; 1; outer x y; inner a=0 y=2"} {
		b, _ := bigraphOf(house(), text)
		counts := map[string]int{}
		checkNames(t, b, "x", "y", counts)
		checkNames(t, b, "y", "x", counts)
		if counts["CloseName"] != 2 || counts["JoinNames"] != 2 {
			t.Error(text, counts)
		}
		checkOpen(t, b, 0, "a")
		checkOpen(t, b, 0, "z")
	}
}

// composedInOrder composes a list one by one, from the left.
func composedInOrder(list []impl.Bigraph) (impl.Bigraph, bool) {
	whole, ok := cloneOf(list[0]), true
	for _, next := range list[1:] {
		if ok {
			whole, ok = composedAs(whole, next)
		}
	}
	return whole, ok
}

func checkAll(t *testing.T, list []impl.Bigraph) bool {
	t.Helper()
	got, ok := impl.ComposeAll(house(), list)
	want, possible := impl.Bigraph{}, false
	if len(list) >= 1 && len(list) <= 8 {
		want, possible = composedInOrder(list)
	}
	wantResult(t, got, ok, want, possible, "ComposeAll(%v)", list)
	return ok
}

func TestComposeAll(t *testing.T) {
	r, counts := rand.New(rand.NewSource(22)), map[string]int{}
	for i := range 4000 {
		length := i % 11
		chain := randomChain(r, length, 1+r.Intn(2)+8/(length+1), 4, pick(r, chainWords()))
		if checkAll(t, chain) {
			counts[fmt.Sprint(length)]++
		}
		if length > 1 {
			chain[r.Intn(length)] = randomBigraph(r)
			checkAll(t, chain)
		}
	}
	wantAtLeast(t, counts, 50, "1", "2", "3", "4", "5", "6", "7", "8")
	for _, b := range append(formSamples(), fullBigraph()) {
		checkAll(t, []impl.Bigraph{b})
	}
}

func TestComposeAllOfManyRooms(t *testing.T) {
	room, _ := bigraphOf(house(), oneRoom)
	for length := range 12 {
		list := slices.Repeat([]impl.Bigraph{room}, length)
		if ok := checkAll(t, list); ok != (length >= 1 && length <= 8) {
			t.Errorf("ComposeAll of %d rooms = %v", length, ok)
		}
		identities := slices.Repeat([]impl.Bigraph{identityAs(2, []string{"x"})}, length)
		if ok := checkAll(t, identities); ok != (length >= 1 && length <= 8) {
			t.Errorf("ComposeAll of %d identities = %v", length, ok)
		}
	}
	if _, ok := impl.ComposeAll(house(), make([]impl.Bigraph, 200000)); ok {
		t.Error("ComposeAll of a vast list = true")
	}
	if _, ok := impl.ComposeAll(house(), nil); ok {
		t.Error("ComposeAll of no list = true")
	}
	eight := slices.Repeat([]impl.Bigraph{room}, 7)
	if ok := checkAll(t, append(eight, roomsIn(2))); ok {
		t.Error("ComposeAll with nine rooms = true")
	}
}

func checkCut(t *testing.T, b impl.Bigraph, node int) bool {
	t.Helper()
	above, below, ok := impl.CutUnder(house(), b, node)
	over, under, nodes, edges, possible := cutAs(b, node)
	wantResult(t, above, ok, over, possible, "the first one of CutUnder(%v, %d)", b, node)
	wantResult(t, below, ok, under, possible, "the second one of CutUnder(%v, %d)", b, node)
	if !ok {
		return false
	}
	whole, fine := impl.ComposeBigraphs(house(), above, below)
	again, right := impl.RenumberNodes(house(), whole, nodes, edges)
	wantResult(t, again, fine && right, b, true, "CutUnder(%v, %d), composed again,", b, node)
	if !impl.IsPrime(house(), below) || len(above.Sites) != 1 {
		t.Fatalf("CutUnder(%v, %d) = %v, %v", b, node, above, below)
	}
	return true
}

func TestCutUnder(t *testing.T) {
	r, counts := rand.New(rand.NewSource(23)), map[string]int{}
	for range 3000 {
		b := randomAgent(r)
		for node := -1; node <= len(b.Nodes); node++ {
			if checkCut(t, b, node) {
				counts["cut"]++
			}
		}
	}
	wantAtLeast(t, counts, 3000, "cut")
	for _, b := range append(formSamples(), twoRooms(), fullBigraph()) {
		for node := range b.Nodes {
			if ok := checkCut(t, b, node); ok && len(b.Sites)+len(b.Inner) > 0 {
				t.Fatalf("CutUnder of %v, which is no agent", b)
			}
		}
	}
}

func TestCutUnderOtherNumbers(t *testing.T) {
	agent, _ := bigraphOf(house(), "2; room@-1; key@0 0; pen@-2 0 0 0; dot@1; sites; 1; outer; inner")
	for _, node := range extremes() {
		if ok := checkCut(t, agent, node); ok != (node == 0 || node == 1) {
			t.Errorf("CutUnder %d = %v", node, ok)
		}
		checkCut(t, impl.Bigraph{}, node)
	}
}

func TestCutUnderExamples(t *testing.T) {
	for _, e := range []struct {
		b            string
		node         int
		above, below string
	}{
		{emptyRoom, 0, "1; room@-1; sites 0; 0; outer; inner", "1; sites; 0; outer; inner"},
		{"1; box@-1 0; sites; 1; outer x; inner", 0, "1; box@-1 0; sites 0; 1; outer x; inner", "1; sites; 0; outer; inner"},
		{"1; box@-1 0; key@0 0; sites; 1; outer; inner", 0, "1; box@-1 0; sites 0; 1; outer; inner a=0", "1; key@-1 0; sites; 0; outer a; inner"},
		{"1; room@-1; key@0 0; sites; 1; outer; inner", 0, "1; room@-1; sites 0; 0; outer; inner", "1; key@-1 0; sites; 1; outer; inner"},
		{"1; room@-1; key@0 1; key@-1 2; sites; 3; outer; inner", 0, "1; room@-1; key@-1 1; sites 0; 2; outer; inner", "1; key@-1 0; sites; 1; outer; inner"},
		{"1; room@-1; key@0 2; key@-1 2; sites; 3; outer x; inner", 0, "1; room@-1; key@-1 2; sites 0; 3; outer x; inner c=2", "1; key@-1 0; sites; 0; outer c; inner"},
		{"2; dot@-1; room@-2; key@-2 0; door@1 2 3; box@-1 1; pen@3 1 4 2; key@4 3; dot@1; sites; 3; outer x y; inner", 1, "2; dot@-1; room@-2; key@-2 0; box@-1 1; key@3 2; sites 1; 2; outer x y; inner b=1 d=2 e=3", "1; door@-1 0 2; pen@0 1 3 0; dot@-1; sites; 1; outer b d e; inner"},
		{"2; dot@-1; room@-2; key@-2 0; box@-1 1; room@1; pen@4 1 4 2; key@3 3; dot@1; sites; 3; outer x y; inner", 1, "2; dot@-1; room@-2; key@-2 0; box@-1 1; key@3 2; sites 1; 2; outer x y; inner b=1 e=3", "1; room@-1; pen@0 1 2 0; dot@-1; sites; 1; outer b e; inner"},
		{"1; pen@-1 0 0 0; sites; 1; outer; inner", 0, "", ""},
		{"1; dot@-1; sites; 0; outer; inner", 0, "", ""},
		{"1; room@-1; sites 0; 0; outer; inner", 0, "", ""},
		{"1; room@-1; sites; 1; outer; inner a=0", 0, "", ""},
	} {
		b, ok := bigraphOf(house(), e.b)
		if !ok && e.above != "" {
			t.Fatal("the example is not valid:", e.b)
		}
		over, possible := bigraphOf(house(), e.above)
		under, _ := bigraphOf(house(), e.below)
		above, below, ok := impl.CutUnder(house(), b, e.node)
		wantResult(t, above, ok, over, possible, "the first one of CutUnder(%s, %d)", e.b, e.node)
		wantResult(t, below, ok, under, possible, "the second one of CutUnder(%s, %d)", e.b, e.node)
	}
}

// pensUnder is a door with two of so many different links, from a number on, and with all of
// them on the ports of seven pens under it.
func pensUnder(edges int, outer int, first int, links int) impl.Bigraph {
	b := impl.Bigraph{Roots: 1, Edges: edges, Outer: namesUpTo(outer)}
	b.Nodes = append(b.Nodes, impl.Node{Control: 2, Parent: -1, Links: []int{first, first + links - 1}})
	for k := range 7 {
		pen := impl.Node{Control: 3, Parent: 0}
		for i := range 3 {
			pen.Links = append(pen.Links, first+(3*k+i)%links)
		}
		b.Nodes = append(b.Nodes, pen)
	}
	return b
}

func TestCutUnderWithManyNames(t *testing.T) {
	for links := 1; links <= 21; links++ {
		for _, outer := range []int{16, 15, 13} {
			edges := 21 - outer
			b := pensUnder(edges, outer, 0, links)
			// The door has two of the links; the other edges are edges of the second one.
			names := max(links-edges, 0) + min(links, 1)
			if links > 1 && links <= edges {
				names++
			}
			if ok := checkCut(t, b, 0); ok != (names <= 16) {
				t.Errorf("CutUnder with %d names = %v", names, ok)
			}
		}
	}
	for edges := 1; edges <= 8; edges++ {
		b := pensUnder(edges, 16, edges-1, 17)
		if checkCut(t, b, 0) {
			t.Error("CutUnder with 17 names = true")
		}
		b = pensUnder(edges, 16, edges, 16)
		if !checkCut(t, b, 0) {
			t.Error("CutUnder with 16 names = false")
		}
	}
	letters := pensUnder(8, 16, 8, 16)
	_, below, ok := impl.CutUnder(house(), letters, 0)
	if got := strings.Join(below.Outer, ""); !ok || got != "ijklmnopqrstuvwx" {
		t.Errorf("the names of CutUnder are %q", got)
	}
}

// compositionCalls calls each function of the chapter, and tells all results.
func compositionCalls(sig []impl.Control, a impl.Bigraph, b impl.Bigraph, n int, from string, to string) [][]any {
	all := [][]any{}
	tell := func(results ...any) { all = append(all, results) }
	pair := func(f func([]impl.Control, impl.Bigraph, impl.Bigraph) (impl.Bigraph, bool)) {
		got, ok := f(sig, a, b)
		tell(got, ok)
	}
	one := func(got impl.Bigraph, ok bool) { tell(got, ok) }
	fits, ok := impl.FitsAfter(sig, a, b)
	tell(fits, ok)
	pair(impl.ComposeBigraphs)
	pair(impl.Juxtapose)
	pair(impl.ParallelProduct)
	pair(impl.MergeProduct)
	pair(impl.NestBigraphs)
	one(impl.ComposeAll(sig, []impl.Bigraph{a, b}))
	return append(all, callsOfOne(sig, a, n, from, to)...)
}

// callsOfOne calls each function of the chapter that takes one Bigraph.
func callsOfOne(sig []impl.Control, b impl.Bigraph, n int, from string, to string) [][]any {
	all := [][]any{}
	one := func(got impl.Bigraph, ok bool) { all = append(all, []any{got, ok}) }
	one(impl.MergeRoots(sig, b))
	one(impl.CloseName(sig, b, from))
	one(impl.OpenName(sig, b, n, to))
	one(impl.AddName(sig, b, to))
	one(impl.JoinNames(sig, b, from, to))
	one(impl.ComposeAll(sig, []impl.Bigraph{b}))
	above, below, ok := impl.CutUnder(sig, b, n)
	return append(all, []any{above, below, ok})
}

func wantFailures(t *testing.T, all [][]any, told string, args ...any) {
	t.Helper()
	for i, results := range all {
		for _, result := range results {
			if !isZero(reflect.ValueOf(result)) {
				t.Fatalf("call %d of %.300s = %.200v; want a failure", i, fmt.Sprintf(told, args...), results)
			}
		}
	}
}

func TestCompositionFailsForInvalidArguments(t *testing.T) {
	good := []impl.Bigraph{{}, twoRooms(), {Roots: 1}, {Outer: []string{"x"}}, identityAs(2, []string{"a", "b"}), roomsIn(1)}
	for _, bad := range brokenBigraphs() {
		for _, b := range good {
			wantFailures(t, compositionCalls(house(), bad, b, 0, "bob", "x"), "%v and %v", bad, b)
			wantFailures(t, compositionCalls(house(), b, bad, 0, "bob", "x")[:7], "%v and %v", b, bad)
			wantFailures(t, callsOfOne(house(), bad, 0, "a", "b"), "%v", bad)
		}
	}
	for _, sig := range badSignatures() {
		for _, b := range good {
			wantFailures(t, compositionCalls(sig, b, b, 0, "a", "b"), "%v over %v", b, sig)
			wantFailures(t, compositionCalls(sig, identityAs(0, nil), b, 0, "a", "b"), "%v over %v", b, sig)
		}
	}
	for _, sig := range [][]impl.Control{house()[:4], ionControls()} {
		wantFailures(t, compositionCalls(sig, twoRooms(), impl.Bigraph{}, 0, "bob", "eve"), "two rooms over %v", sig)
		wantFailures(t, compositionCalls(sig, impl.Bigraph{}, twoRooms(), 0, "bob", "eve")[:7], "two rooms over %v", sig)
	}
}

func TestResultsOfCompositionAreNew(t *testing.T) {
	r := rand.New(rand.NewSource(24))
	pairs := [][2]impl.Bigraph{{twoRooms(), identityAs(3, []string{"bob", "q", "zz"})}, {identityAs(4, fullBigraph().Outer), fullBigraph()}}
	for range 150 {
		chain, parts := randomChain(r, 2, 4, 4, pick(r, chainWords())), randomParts(r, 2)
		pairs = append(pairs, [2]impl.Bigraph(chain), [2]impl.Bigraph(parts), [2]impl.Bigraph{randomAgent(r), {}})
	}
	for _, p := range pairs {
		sig, a, b := house(), cloneOf(p[0]), cloneOf(p[1])
		from, to := "a", "b"
		if len(a.Outer) > 1 {
			from, to = a.Outer[0], a.Outer[1]
		}
		calls := func() [][]any { return compositionCalls(sig, a, b, 0, from, to) }
		wantNewResults(t, calls(), calls)
		if !isSame(a, p[0]) || !isSame(b, p[1]) || !slices.Equal(sig, house()) {
			t.Fatalf("a call has changed %v to %v and %v, or the results share their memory", p, a, b)
		}
		for _, results := range calls() {
			for _, result := range results {
				if whole, ok := result.(impl.Bigraph); ok {
					checkOwnLists(t, whole)
				}
			}
		}
	}
}

func TestExtremeNumbers(t *testing.T) {
	for _, n := range append(extremes(), math.MinInt/2, math.MaxInt/2) {
		for _, b := range []impl.Bigraph{{}, twoRooms(), {Edges: 3}, pensUnder(8, 3, 0, 11)} {
			checkOpen(t, b, n, "m")
			checkCut(t, b, n)
		}
	}
}
