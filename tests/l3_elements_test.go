package tests

import (
	"fmt"
	"maps"
	"math"
	"math/rand"
	"reflect"
	"slices"
	"strings"
	"testing"

	"loop.example/g01082/impl"
)

// wantResult checks the Bigraph that a call returns, or that it fails. The call is written only
// where it is needed, as its arguments may be vast.
func wantResult(t *testing.T, got impl.Bigraph, ok bool, want impl.Bigraph, possible bool, call string, args ...any) {
	t.Helper()
	if !possible {
		want = impl.Bigraph{}
	}
	if ok != possible || !isSame(got, want) {
		t.Fatalf("%.300s = %v, %v; want %v, %v", fmt.Sprintf(call, args...), got, ok, want, possible)
	}
}

// wantElement also checks that the Bigraph is valid over each signature.
func wantElement(t *testing.T, got impl.Bigraph, ok bool, want impl.Bigraph, possible bool, call string, args ...any) {
	t.Helper()
	wantResult(t, got, ok, want, possible, call, args...)
	for _, sig := range [][]impl.Control{house(), ionControls(), {{Name: "a", Ports: 3, Kind: impl.KindAtomic}}} {
		if !impl.IsBigraph(sig, got) {
			t.Fatalf("%.300s = %v, which is not valid over %v", fmt.Sprintf(call, args...), got, sig)
		}
	}
}

// listsOfNames are lists of names, most of them wrong: names in other orders, names that
// repeat, strings that are no names, and just too many names.
func listsOfNames() [][]string {
	list := [][]string{nil, {}, {"a"}, {"zzzz"}, {"a", "b"}, {"a", "aa"}, {"b", "c", "x", "zz"}}
	for n := 7; n < 20; n++ {
		list = append(list, namesUpTo(n))
	}
	list = append(list, namesUpTo(200000), make([]string, 200000), slices.Repeat([]string{"a"}, 17))
	list = append(list, []string{"b", "a"}, []string{"a", "a"}, []string{"aa", "a"}, []string{"a", "c", "b"}, []string{"a", "b", "b"}, []string{"a", "b", "a"})
	for _, name := range badNames() {
		list = append(list, []string{name}, []string{"a", name}, []string{name, "z"})
	}
	for i := range 16 {
		names := namesUpTo(16)
		names[i] = "?"
		turned := namesUpTo(16)
		turned[i], turned[15-i] = turned[15-i], turned[i]
		list = append(list, names, turned)
	}
	return list
}

func TestIdentityOf(t *testing.T) {
	for _, names := range listsOfNames() {
		for n := -2; n <= 6; n++ {
			b, ok := impl.IdentityOf(n, names)
			possible := n >= 0 && n <= 4 && ascend(names)
			want := impl.Bigraph{}
			if possible {
				want = identityAs(n, names)
			}
			wantElement(t, b, ok, want, possible, "IdentityOf(%d, %q)", n, names)
			if possible && !impl.IsIdentity(house(), b) {
				t.Fatalf("IsIdentity(%v) = false", b)
			}
		}
	}
	for _, n := range []int{math.MinInt, -1000000, 1000000, math.MaxInt} {
		b, ok := impl.IdentityOf(n, nil)
		wantElement(t, b, ok, impl.Bigraph{}, false, "IdentityOf(%d)", n)
	}
	b, ok := impl.IdentityOf(3, []string{"a", "bc"})
	if text := textOf(house(), b); !ok || text != "3; sites -1 -2 -3; 0; outer a bc; inner a=0 bc=1" {
		t.Error("IdentityOf =", text, ok)
	}
}

// listsOfNumbers are all lists of at most most numbers in low..high.
func listsOfNumbers(low int, high int, most int) [][]int {
	list := [][]int{{}}
	for start := 0; most > 0; most-- {
		end := len(list)
		for _, numbers := range list[start:end] {
			for n := low; n <= high; n++ {
				list = append(list, append(slices.Clone(numbers), n))
			}
		}
		start = end
	}
	return list
}

// hasEach reports whether a list has each of the numbers 0, 1, .. once.
func hasEach(list []int) bool {
	return slices.Equal(slices.Sorted(slices.Values(list)), numbersFrom(0, len(list)))
}

// permutations are all lists of at most four numbers 0, 1, .. with each one once.
func permutations() [][]int {
	list := [][]int{}
	for _, to := range listsOfNumbers(0, 3, 4) {
		if hasEach(to) {
			list = append(list, to)
		}
	}
	return list
}

func TestPermutationOf(t *testing.T) {
	lists := append(listsOfNumbers(-1, 5, 5), nil, []int{0, 1, 2, 3, 4}, []int{4, 3, 2, 1, 0}, make([]int, 200000), numbersFrom(0, 200000))
	for _, n := range []int{math.MinInt, math.MinInt + 1, -1000, 1000, math.MaxInt} {
		lists = append(lists, []int{n}, []int{0, n}, []int{n, 0}, []int{1, 0, n}, []int{n, n})
	}
	found := 0
	for _, to := range lists {
		b, ok := impl.PermutationOf(to)
		possible := len(to) <= 4 && hasEach(to)
		want := impl.Bigraph{Roots: len(to), Sites: negatives(to)}
		wantElement(t, b, ok, want, possible, "PermutationOf(%v)", to)
		if possible {
			found++
		}
		if possible && !impl.IsPermutation(house(), b) {
			t.Fatalf("IsPermutation(%v) = false", b)
		}
	}
	if found != 1+1+1+2+6+24 {
		t.Error("the lists have", found, "permutations")
	}
}

func TestSwapOf(t *testing.T) {
	for _, m := range extremes() {
		for _, n := range extremes() {
			b, ok := impl.SwapOf(m, n)
			possible := min(m, n) >= 0 && max(m, n) <= 4 && m+n <= 4
			want := impl.Bigraph{}
			if possible {
				want = impl.Bigraph{Roots: m + n, Sites: negatives(append(numbersFrom(n, m), numbersFrom(0, n)...))}
			}
			wantElement(t, b, ok, want, possible, "SwapOf(%d, %d)", m, n)
		}
	}
	b, ok := impl.SwapOf(1, 3)
	if text := textOf(house(), b); !ok || text != "4; sites -4 -1 -2 -3; 0; outer; inner" {
		t.Error("SwapOf(1, 3) =", text, ok)
	}
}

func TestMergeOfAndBarrenOf(t *testing.T) {
	for _, n := range extremes() {
		possible := n >= 0 && n <= 4
		merge, ok := impl.MergeOf(n)
		want := impl.Bigraph{Roots: 1}
		for range min(n, 4) {
			want.Sites = append(want.Sites, -1)
		}
		wantElement(t, merge, ok, want, possible, "MergeOf(%d)", n)
		barren, ok := impl.BarrenOf(n)
		wantElement(t, barren, ok, impl.Bigraph{Roots: n}, possible, "BarrenOf(%d)", n)
	}
}

// wantIon checks IonOf and AtomOf by their texts.
func wantIon(t *testing.T, sig []impl.Control, control int, names []string) {
	t.Helper()
	possible := control >= 0 && control < len(sig) && len(names) == sig[control].Ports
	for _, name := range names {
		possible = possible && namePattern.MatchString(name)
	}
	atom, fine := impl.AtomOf(sig, control, names)
	ion, ok := impl.IonOf(sig, control, names)
	want, withSite := impl.Bigraph{}, impl.Bigraph{}
	holds := false
	if possible {
		holds = sig[control].Kind != impl.KindAtomic
		outer := distinct(names)
		head := "1; " + sig[control].Name + "@-1"
		for _, name := range names {
			head += fmt.Sprint(" ", slices.Index(outer, name))
		}
		tail := strings.TrimRight("; 0; outer "+strings.Join(outer, " "), " ") + "; inner"
		want, _ = bigraphOf(sig, head+"; sites"+tail)
		withSite, _ = bigraphOf(sig, head+"; sites 0"+tail)
	}
	wantResult(t, atom, fine, want, possible, "AtomOf(%d, %q)", control, names)
	wantResult(t, ion, ok, withSite, possible && holds, "IonOf(%d, %q)", control, names)
	if fine && !impl.IsBigraph(sig, atom) || ok && !impl.IsBigraph(sig, ion) {
		t.Fatalf("IonOf(%d, %q) or AtomOf is not valid", control, names)
	}
}

func TestIonOfAndAtomOf(t *testing.T) {
	lists := [][]string{}
	for _, numbers := range listsOfNumbers(0, 2, 4) {
		names := []string{}
		for _, n := range numbers {
			names = append(names, []string{"b", "ab", "zzzz"}[n])
		}
		lists = append(lists, names)
	}
	for _, name := range badNames() {
		lists = append(lists, []string{name}, []string{name, "a"}, []string{"a", name}, []string{"b", name, "a"}, []string{name, name})
	}
	lists = append(lists, nil, make([]string, 200000), namesUpTo(17))
	for _, names := range lists {
		for control := -1; control <= 7; control++ {
			wantIon(t, house(), control, names)
		}
	}
	for _, control := range extremes() {
		wantIon(t, house(), control, nil)
		wantIon(t, ionControls(), control, []string{"x"})
	}
	for kind := range 3 {
		for ports := range 4 {
			sig := []impl.Control{{Name: "c", Ports: ports, Kind: kind}}
			wantIon(t, sig, 0, slices.Repeat([]string{"y"}, ports))
			wantIon(t, sig, 0, slices.Repeat([]string{"y"}, ports+1))
		}
	}
	ion, ok := impl.IonOf(house(), 2, []string{"y", "x"})
	if text := textOf(house(), ion); !ok || text != "1; door@-1 1 0; sites 0; 0; outer x y; inner" {
		t.Error("IonOf a door =", text, ok)
	}
}

func TestIonOfFailsForOtherSignatures(t *testing.T) {
	for _, sig := range badSignatures() {
		for control := range 2 {
			for ports := range 4 {
				names := namesUpTo(ports)
				ion, ok := impl.IonOf(sig, control, names)
				wantResult(t, ion, ok, ion, false, "IonOf over %v", sig)
				atom, ok := impl.AtomOf(sig, control, names)
				wantResult(t, atom, ok, atom, false, "AtomOf over %.100v", sig)
			}
		}
	}
}

func wantSubstitution(t *testing.T, from []string, to []string) {
	t.Helper()
	b, ok := impl.SubstitutionOf(from, to)
	possible := ascend(from) && len(to) == len(from)
	for _, name := range to {
		possible = possible && namePattern.MatchString(name)
	}
	want := impl.Bigraph{}
	if possible {
		want = wired(0, distinct(to), from, to)
	}
	wantElement(t, b, ok, want, possible, "SubstitutionOf(%q, %q)", from, to)
	if possible && !impl.IsSubstitution(house(), b) {
		t.Fatalf("IsSubstitution(%v) = false", b)
	}
}

func TestSubstitutionOf(t *testing.T) {
	for _, names := range listsOfNames() {
		wantSubstitution(t, names, names)
		wantSubstitution(t, names, slices.Repeat([]string{"x"}, len(names)))
		wantSubstitution(t, namesUpTo(min(len(names), 16)), names)
		wantSubstitution(t, append(slices.Clone(names), "zzzz"), names)
		wantSubstitution(t, names, append(slices.Clone(names), "zzzz"))
		wantSubstitution(t, names, nil)
		wantSubstitution(t, nil, names)
	}
	r := rand.New(rand.NewSource(5))
	for range 2000 {
		from, to := randomNames(r, 16), []string{}
		for range from {
			to = append(to, pick(r, nameWords[:4+r.Intn(20)]))
		}
		wantSubstitution(t, from, to)
	}
	b, ok := impl.SubstitutionOf([]string{"a", "b", "c"}, []string{"y", "x", "y"})
	if text := textOf(house(), b); !ok || text != "0; sites; 0; outer x y; inner a=1 b=0 c=1" {
		t.Error("SubstitutionOf =", text, ok)
	}
}

func TestNewNamesAndClosureOf(t *testing.T) {
	for _, names := range listsOfNames() {
		fresh, ok := impl.NewNames(names)
		wantElement(t, fresh, ok, impl.Bigraph{Outer: names}, ascend(names), "NewNames(%q)", names)
		possible := ascend(names) && len(names) <= 8
		want := impl.Bigraph{Edges: len(names)}
		for i, name := range names {
			want.Inner = append(want.Inner, impl.Wire{Name: name, Link: i})
		}
		shut, ok := impl.ClosureOf(names)
		wantElement(t, shut, ok, want, possible, "ClosureOf(%q)", names)
		if possible && (!impl.IsLean(house(), shut) || !impl.IsWiring(house(), shut)) {
			t.Fatalf("%v is no lean wiring", shut)
		}
		if ascend(names) && !impl.IsSubstitution(house(), fresh) {
			t.Fatalf("IsSubstitution(%v) = false", fresh)
		}
	}
}

// formTests are the functions that report forms.
func formTests() map[string]func([]impl.Control, impl.Bigraph) bool {
	return map[string]func([]impl.Control, impl.Bigraph) bool{
		"placing":      impl.IsPlacing,
		"permutation":  impl.IsPermutation,
		"identity":     impl.IsIdentity,
		"wiring":       impl.IsWiring,
		"substitution": impl.IsSubstitution,
		"renaming":     impl.IsRenaming,
		"discrete":     impl.IsDiscrete,
		"prime":        impl.IsPrime,
		"lean":         impl.IsLean,
		"guarding":     impl.IsGuarding,
	}
}

// formSamples are Bigraphs of all forms, and others that just miss them.
func formSamples() []impl.Bigraph {
	list := append(sampleBigraphs(), tinyBigraphs()...)
	for roots := range 5 {
		list = append(list, withSites(impl.Bigraph{Roots: roots}, 4)...)
	}
	r := rand.New(rand.NewSource(6))
	for n := range 17 {
		renaming := randomRenaming(r, n)
		idle, twice := cloneOf(renaming), cloneOf(renaming)
		idle.Outer = append(idle.Outer, "zzzz")
		list = append(list, renaming, identityAs(n%5, namesUpTo(n)), randomWiring(r, n%9, namesUpTo(n), namesUpTo(16)))
		if n > 1 {
			twice.Inner[0].Link = twice.Inner[1].Link
			list = append(list, twice, withWires(renaming, renaming.Inner[1:]...))
		}
		if isFine(house(), idle) {
			list = append(list, idle)
		}
	}
	return list
}

func TestForms(t *testing.T) {
	found := map[string]int{}
	for _, b := range formSamples() {
		if !isFine(house(), b) {
			t.Fatalf("the sample is not valid: %v", b)
		}
		forms := formsOf(b)
		for form, test := range formTests() {
			if got := test(house(), b); got != forms[form] {
				t.Fatalf("Is%s(%v) = %v", form, b, got)
			}
			if forms[form] {
				found[form]++
			}
		}
	}
	for form := range formTests() {
		if found[form] < 20 {
			t.Errorf("only %d samples are of the form %s", found[form], form)
		}
	}
}

func TestFormsOfNothing(t *testing.T) {
	b := impl.Bigraph{}
	for form, test := range formTests() {
		if test(house(), b) != (form != "prime") {
			t.Errorf("the Bigraph without roots, sites and names is wrongly told to be of the form %s, or not", form)
		}
	}
}

func TestFormsWithIdleNamesAndEdges(t *testing.T) {
	for text, want := range map[string]string{
		"0; sites; 1; outer; inner":                  "guarding wiring",
		"0; sites; 1; outer; inner a=0":              "guarding lean wiring",
		"0; sites; 0; outer x; inner":                "guarding lean substitution wiring",
		"0; sites; 0; outer x; inner x=0":            "discrete identity lean renaming substitution wiring",
		"0; sites; 0; outer x; inner a=0":            "discrete lean renaming substitution wiring",
		"0; sites; 0; outer x; inner a=0 b=0":        "lean substitution wiring",
		"0; sites; 0; outer x y; inner a=0 b=0":      "lean substitution wiring",
		"0; sites; 0; outer x y; inner a=1 b=0":      "discrete lean renaming substitution wiring",
		"0; sites; 0; outer a b; inner a=1 b=0":      "discrete lean renaming substitution wiring",
		"1; sites -1; 0; outer; inner":               "discrete identity lean permutation placing prime",
		"1; sites; 0; outer; inner":                  "discrete guarding lean placing prime",
		"1; sites -1 -1; 0; outer; inner":            "discrete lean placing prime",
		"2; sites -2 -1; 0; outer; inner":            "discrete lean permutation placing",
		"2; sites -1 -1; 0; outer; inner":            "discrete lean placing",
		"2; sites -1 -2; 0; outer x; inner x=0":      "discrete identity lean",
		"2; sites -2 -1; 0; outer x; inner x=0":      "discrete lean",
		"1; sites -1; 0; outer x; inner":             "lean prime",
		"1; sites -1; 1; outer; inner":               "prime",
		"1; room@-1; sites 0; 0; outer; inner":       "discrete guarding lean prime",
		"1; room@-1; sites 0 -1; 0; outer; inner":    "discrete lean prime",
		"1; key@-1 0; sites 0; 0; outer x; inner":    "discrete guarding lean prime",
		"1; key@-1 0; sites; 0; outer x; inner a=0":  "lean",
		"1; key@-1 0; sites; 1; outer x; inner a=0":  "guarding lean",
		"1; key@-1 1; sites; 1; outer x; inner a=0":  "guarding lean",
		"1; key@-1 1; sites; 1; outer x; inner":      "guarding prime",
		"1; door@-1 0 0; sites; 0; outer x; inner":   "guarding lean prime",
		"1; door@-1 1 0; sites; 0; outer x y; inner": "discrete guarding lean prime",
	} {
		b, ok := bigraphOf(house(), text)
		forms := []string{}
		for form, test := range formTests() {
			if test(house(), b) {
				forms = append(forms, form)
			}
		}
		slices.Sort(forms)
		if got := strings.Join(forms, " "); !ok || got != want {
			t.Errorf("the forms of %s are %s; want %s", text, got, want)
		}
	}
}

// checkInverse checks InverseOf, and that a Bigraph and its inverse undo each other.
func checkInverse(t *testing.T, b impl.Bigraph) {
	t.Helper()
	sig, forms := house(), formsOf(b)
	got, ok := impl.InverseOf(sig, b)
	if !forms["permutation"] && !forms["renaming"] {
		wantResult(t, got, ok, impl.Bigraph{}, false, "InverseOf(%v)", b)
		return
	}
	want := impl.Bigraph{Roots: b.Roots, Sites: make([]int, len(b.Sites))}
	if forms["renaming"] {
		to := map[string]string{}
		for i, link := range linkNames(b) {
			to[link] = b.Inner[i].Name
		}
		names := []string{}
		for _, name := range b.Outer {
			names = append(names, to[name])
		}
		want = wired(0, innerOf(b), b.Outer, names)
	}
	for i, parent := range b.Sites {
		want.Sites[-1-parent] = -1 - i
	}
	wantElement(t, got, ok, want, true, "InverseOf(%v)", b)
	back, ok := impl.InverseOf(sig, got)
	wantElement(t, back, ok, b, true, "InverseOf(%v)", got)
	for _, pair := range [][2]impl.Bigraph{{b, got}, {got, b}} {
		checkUndoes(t, pair[0], pair[1])
	}
}

// checkUndoes checks that a permutation or a renaming after another one is an identity.
func checkUndoes(t *testing.T, a impl.Bigraph, b impl.Bigraph) {
	t.Helper()
	if a.Roots == 0 {
		whole, ok := impl.ComposeWirings(house(), a, b)
		identity, fine := impl.IdentityOf(0, a.Outer)
		wantElement(t, whole, ok, identity, fine, "ComposeWirings(%v, %v)", a, b)
		if !impl.IsIdentity(house(), whole) {
			t.Fatalf("IsIdentity(%v) = false", whole)
		}
		return
	}
	to := []int{}
	for _, parent := range b.Sites {
		to = append(to, -1-a.Sites[-1-parent])
	}
	whole, ok := impl.PermutationOf(to)
	identity, fine := impl.IdentityOf(a.Roots, nil)
	wantElement(t, whole, ok, identity, fine, "%v after %v", a, b)
	if !impl.IsIdentity(house(), whole) {
		t.Fatalf("IsIdentity(%v) = false", whole)
	}
}

func TestInverseOf(t *testing.T) {
	for _, b := range formSamples() {
		checkInverse(t, b)
	}
	for _, to := range permutations() {
		b, ok := impl.PermutationOf(to)
		if !ok {
			t.Fatalf("PermutationOf(%v) fails", to)
		}
		checkInverse(t, b)
	}
	r := rand.New(rand.NewSource(7))
	for i := range 2000 {
		checkInverse(t, randomRenaming(r, i%17))
	}
	for m := range 5 {
		for n := range 5 - m {
			swap, _ := impl.SwapOf(m, n)
			other, fine := impl.SwapOf(n, m)
			back, ok := impl.InverseOf(house(), swap)
			wantElement(t, back, ok, other, fine, "InverseOf(SwapOf(%d, %d))", m, n)
		}
	}
}

func TestInverseOfExamples(t *testing.T) {
	for text, want := range map[string]string{
		"0; sites; 0; outer; inner":                     "0; sites; 0; outer; inner",
		"4; sites -2 -3 -4 -1; 0; outer; inner":         "4; sites -4 -1 -2 -3; 0; outer; inner",
		"0; sites; 0; outer x y z; inner a=2 b=0 c=1":   "0; sites; 0; outer a b c; inner x=1 y=2 z=0",
		"0; sites; 0; outer b; inner a=0":               "0; sites; 0; outer a; inner b=0",
		"2; sites -1 -1; 0; outer; inner":               "",
		"1; sites; 0; outer; inner":                     "",
		"1; sites -1; 0; outer x; inner x=0":            "",
		"1; sites -1; 0; outer x; inner":                "",
		"1; sites -1; 1; outer; inner":                  "",
		"0; sites; 1; outer; inner":                     "",
		"0; sites; 1; outer; inner a=0":                 "",
		"0; sites; 0; outer x; inner":                   "",
		"0; sites; 0; outer x; inner a=0 b=0":           "",
		"0; sites; 0; outer x y; inner a=0":             "",
		"0; sites; 0; outer x y; inner a=0 b=0":         "",
		"1; room@-1; sites 0; 0; outer; inner":          "",
		"1; room@-1; sites -1; 0; outer; inner":         "",
		"2; sites -2 -1; 0; outer x y; inner a=1 b=0":   "",
		"0; sites; 1; outer x; inner a=1":               "",
		"0; sites; 0; outer x y; inner a=0 b=1 c=1":     "",
		"0; sites; 0; outer x y z; inner a=0 b=2 c=0":   "",
		"1; key@-1 0; sites -1; 0; outer x; inner":      "",
		"3; sites -1 -2; 0; outer; inner":               "",
		"2; sites -1 -2 -1; 0; outer; inner":            "",
		"0; sites; 8; outer; inner a=0 b=1 c=2 d=3 e=4": "",
	} {
		b, ok := bigraphOf(house(), text)
		expected, possible := bigraphOf(house(), want)
		got, fine := impl.InverseOf(house(), b)
		if !ok {
			t.Fatal("the sample is not valid:", text)
		}
		wantResult(t, got, fine, expected, possible, "InverseOf(%s)", text)
	}
}

func checkComposed(t *testing.T, a impl.Bigraph, b impl.Bigraph) {
	t.Helper()
	want, possible := composedByNames(a, b)
	got, ok := impl.ComposeWirings(house(), a, b)
	wantElement(t, got, ok, want, possible, "ComposeWirings(%v, %v)", a, b)
}

// wiringChain makes wirings that can be composed, of which the first one is outermost.
func wiringChain(r *rand.Rand, length int) []impl.Bigraph {
	list := []impl.Bigraph{}
	face := randomNames(r, pick(r, []int{3, 16}))
	for range length {
		inner := randomNames(r, pick(r, []int{3, 16}))
		w := randomWiring(r, r.Intn(pick(r, []int{1, 4, 9})), face, inner)
		list = append(list, w)
		face = innerOf(w)
	}
	return list
}

func TestComposeWirings(t *testing.T) {
	r := rand.New(rand.NewSource(8))
	composed := 0
	for range 4000 {
		chain := wiringChain(r, 2)
		checkComposed(t, chain[0], chain[1])
		checkComposed(t, chain[1], chain[0])
		if chain[0].Edges+chain[1].Edges <= 8 {
			composed++
		}
	}
	if composed < 1000 {
		t.Error("only", composed, "pairs can be composed")
	}
	wirings := []impl.Bigraph{}
	for _, b := range tinyBigraphs() {
		if b.Roots == 0 {
			wirings = append(wirings, b)
		}
	}
	for _, a := range wirings {
		for _, b := range wirings {
			checkComposed(t, a, b)
		}
	}
}

func TestComposeWiringsIsAssociative(t *testing.T) {
	r, sig, composed := rand.New(rand.NewSource(9)), house(), 0
	for range 4000 {
		c := wiringChain(r, 3)
		outer, one := impl.ComposeWirings(sig, c[0], c[1])
		inner, two := impl.ComposeWirings(sig, c[1], c[2])
		if !one || !two {
			continue
		}
		left, one := impl.ComposeWirings(sig, outer, c[2])
		right, two := impl.ComposeWirings(sig, c[0], inner)
		if one != two || !isSame(left, right) {
			t.Fatalf("composing %v gives %v, %v and %v, %v", c, left, one, right, two)
		}
		if one {
			composed++
		}
	}
	if composed < 500 {
		t.Error("only", composed, "triples can be composed")
	}
}

func TestIdentitiesAreNeutral(t *testing.T) {
	r := rand.New(rand.NewSource(10))
	for range 1000 {
		w := wiringChain(r, 1)[0]
		above, _ := impl.IdentityOf(0, w.Outer)
		below, _ := impl.IdentityOf(0, innerOf(w))
		got, ok := impl.ComposeWirings(house(), above, w)
		wantElement(t, got, ok, w, true, "the identity after %v", w)
		got, ok = impl.ComposeWirings(house(), w, below)
		wantElement(t, got, ok, w, true, "%v after the identity", w)
	}
}

func TestSubstitutionsAreComposedAsFunctions(t *testing.T) {
	r := rand.New(rand.NewSource(11))
	for range 1000 {
		from := randomNames(r, 16)
		first, second, both := map[string]string{}, map[string]string{}, []string{}
		middle, to := []string{}, []string{}
		for _, name := range from {
			first[name] = pick(r, nameWords[:20])
			middle = append(middle, first[name])
		}
		for _, name := range distinct(middle) {
			second[name] = pick(r, nameWords[:10])
			to = append(to, second[name])
		}
		for _, name := range from {
			both = append(both, second[first[name]])
		}
		f, one := impl.SubstitutionOf(from, middle)
		g, two := impl.SubstitutionOf(distinct(middle), to)
		want, three := impl.SubstitutionOf(from, both)
		got, ok := impl.ComposeWirings(house(), g, f)
		wantElement(t, got, ok, want, one && two && three, "%v after %v", g, f)
		if !impl.IsSubstitution(house(), got) {
			t.Fatalf("IsSubstitution(%v) = false", got)
		}
	}
}

func TestNewNamesAndClosuresAreComposed(t *testing.T) {
	for n := range 17 {
		names := namesUpTo(n)
		fresh, _ := impl.NewNames(names)
		shut, possible := impl.ClosureOf(names)
		idle, ok := impl.ComposeWirings(house(), shut, fresh)
		if possible {
			wantElement(t, idle, ok, impl.Bigraph{Edges: n}, true, "a closure after new names")
		}
		renaming := wired(0, []string{"x", "y"}, names, slices.Repeat([]string{"y"}, n))
		one, ok := impl.ComposeWirings(house(), renaming, fresh)
		wantElement(t, one, ok, impl.Bigraph{Outer: []string{"x", "y"}}, true, "a substitution after new names")
	}
}

func TestComposeWiringsWithManyEdges(t *testing.T) {
	for m := range 9 {
		for n := range 9 {
			a := impl.Bigraph{Edges: m, Outer: []string{"x"}, Inner: []impl.Wire{{Name: "p", Link: m}, {Name: "q", Link: m / 2}}}
			b := impl.Bigraph{Edges: n, Outer: []string{"p", "q"}, Inner: []impl.Wire{{Name: "a", Link: n}, {Name: "b", Link: n + 1}, {Name: "c", Link: n / 2}}}
			checkComposed(t, a, b)
			if _, ok := impl.ComposeWirings(house(), a, b); ok != (m+n <= 8) {
				t.Errorf("ComposeWirings with %d and %d edges = %v", m, n, ok)
			}
		}
	}
}

func TestComposeWiringsExample(t *testing.T) {
	a, _ := bigraphOf(house(), "0; sites; 2; outer x y; inner a=3 b=1 c=2")
	b, _ := bigraphOf(house(), "0; sites; 1; outer a b c; inner d=3 e=0 f=1 g=2 h=1")
	got, ok := impl.ComposeWirings(house(), a, b)
	if text := textOf(house(), got); !ok || text != "0; sites; 3; outer x y; inner d=3 e=2 f=4 g=1 h=4" {
		t.Error("ComposeWirings =", text, ok)
	}
}

func TestComposeWiringsFails(t *testing.T) {
	x, y, both, none := []string{"x"}, []string{"y"}, []string{"x", "y"}, []string{}
	for _, pair := range [][2]impl.Bigraph{
		{wired(0, x, x, x), wired(0, y, x, y)},
		{wired(0, x, x, x), wired(0, none, none, none)},
		{wired(0, none, none, none), wired(0, x, x, x)},
		{wired(0, x, x, x), wired(0, both, x, y)},
		{wired(0, both, both, both), wired(0, x, x, x)},
		{wired(0, both, both, both), wired(0, y, x, y)},
		{wired(0, both, y, y), wired(0, both, both, both)},
		{wired(1, none, x, []string{"0"}), wired(1, none, x, []string{"0"})},
		{identityAs(1, x), wired(0, x, x, x)},
		{wired(0, x, x, x), identityAs(1, x)},
		{identityAs(1, x), identityAs(1, x)},
		{identityAs(2, nil), identityAs(2, nil)},
		{{Roots: 1}, {}},
		{{}, {Roots: 1}},
	} {
		if _, possible := composedByNames(pair[0], pair[1]); possible {
			t.Fatal("these can be composed:", pair)
		}
		checkComposed(t, pair[0], pair[1])
	}
	checkComposed(t, impl.Bigraph{}, impl.Bigraph{})
}

func TestShadowOfAndWiresOf(t *testing.T) {
	for _, b := range append(formSamples(), twoRooms()) {
		want := impl.Bigraph{Roots: b.Roots, Sites: slices.Clone(b.Sites)}
		for i, parent := range b.Sites {
			if parent >= 0 {
				above := placesAbove(b, parent)
				want.Sites[i] = above[len(above)-1]
			}
		}
		shadow, ok := impl.ShadowOf(house(), b)
		wantElement(t, shadow, ok, want, true, "ShadowOf(%v)", b)
		wires, ok := impl.WiresOf(house(), b)
		wantElement(t, wires, ok, impl.Bigraph{Edges: b.Edges, Outer: b.Outer, Inner: b.Inner}, true, "WiresOf(%v)", b)
		forms := formsOf(b)
		if forms["placing"] && !isSame(shadow, b) || forms["wiring"] && !isSame(wires, b) {
			t.Fatalf("%v has the shadow %v and the wires %v", b, shadow, wires)
		}
		if !impl.IsPlacing(house(), shadow) || !impl.IsWiring(house(), wires) {
			t.Fatalf("the shadow %v is no placing, or the wires %v are no wiring", shadow, wires)
		}
	}
}

func TestShadowOfDeepSites(t *testing.T) {
	shadow, ok := impl.ShadowOf(house(), fullBigraph())
	wantElement(t, shadow, ok, impl.Bigraph{Roots: 4, Sites: []int{-4, -1, -1, -1}}, true, "ShadowOf(fullBigraph)")
	shadow, ok = impl.ShadowOf(house(), twoRooms())
	wantElement(t, shadow, ok, impl.Bigraph{Roots: 3, Sites: []int{-1, -2, -1}}, true, "ShadowOf(twoRooms)")
}

// pointsOfBigraph counts ports and inner names.
func pointsOfBigraph(b impl.Bigraph) int { return len(linkNames(b)) }

func checkDiscrete(t *testing.T, b impl.Bigraph) {
	t.Helper()
	wiring, discrete, ok := impl.DiscreteOf(house(), b)
	n := pointsOfBigraph(b)
	if n > 16 {
		if ok || !isSame(wiring, impl.Bigraph{}) || !isSame(discrete, impl.Bigraph{}) {
			t.Fatalf("DiscreteOf(%v) = %v, %v, %v; want a failure", b, wiring, discrete, ok)
		}
		return
	}
	names := []string{}
	for _, letter := range "abcdefghijklmnop"[:n] {
		names = append(names, "p"+string(letter))
	}
	want := wired(b.Edges, b.Outer, names, linkNames(b))
	wantElement(t, wiring, ok, want, true, "the wiring of DiscreteOf(%v)", b)
	if !slices.Equal(discrete.Outer, names) || !slices.Equal(linkNames(discrete), names) || discrete.Edges != 0 {
		t.Fatalf("DiscreteOf(%v) = %v", b, discrete)
	}
	if !impl.IsDiscrete(house(), discrete) || !isSame(linkedBy(wiring, discrete), b) {
		t.Fatalf("DiscreteOf(%v) = %v, %v", b, wiring, discrete)
	}
}

func TestDiscreteOf(t *testing.T) {
	numbers := map[int]int{}
	for _, b := range append(formSamples(), twoRooms()) {
		checkDiscrete(t, b)
		numbers[pointsOfBigraph(b)]++
	}
	for ports := range 9 {
		for inner := range 17 {
			b := impl.Bigraph{Roots: 1, Edges: 8, Nodes: slices.Repeat([]impl.Node{{Control: 2, Parent: -1, Links: []int{7, 3}}}, ports)}
			for i, name := range namesUpTo(inner) {
				b.Inner = append(b.Inner, impl.Wire{Name: name, Link: i % 8})
			}
			checkDiscrete(t, b)
			numbers[pointsOfBigraph(b)]++
		}
	}
	for n := range 20 {
		if numbers[n] == 0 {
			t.Error("no sample has just", n, "points")
		}
	}
}

func TestDiscreteOfTwoRooms(t *testing.T) {
	wiring, discrete, ok := impl.DiscreteOf(house(), twoRooms())
	want := "3; room@-1; key@0 0; box@-1 1; box@2 2; pen@-2 3 4 5; dot@0; sites 0 -2 0; 0; outer pa pb pc pd pe pf pg ph pi; inner bob=6 q=7 zz=8"
	if text := textOf(house(), discrete); !ok || text != want {
		t.Error("DiscreteOf =", text, ok)
	}
	if text := textOf(house(), wiring); text != "0; sites; 3; outer ann bob eve; inner pa=4 pb=1 pc=4 pd=0 pe=3 pf=0 pg=0 ph=5 pi=0" {
		t.Error("the wiring of DiscreteOf =", text)
	}
}

func TestLeanOf(t *testing.T) {
	for _, b := range append(formSamples(), twoRooms()) {
		lean, ok := impl.LeanOf(house(), b)
		wantResult(t, lean, ok, leanAs(b), true, "LeanOf(%v)", b)
		if !impl.IsLean(house(), lean) || impl.IsLean(house(), b) && !isSame(lean, b) {
			t.Fatalf("LeanOf(%v) = %v", b, lean)
		}
		again, ok := impl.LeanOf(house(), lean)
		wantResult(t, again, ok, lean, true, "LeanOf(%v)", lean)
	}
	for text, want := range map[string]string{
		"0; sites; 8; outer; inner":                                      "0; sites; 0; outer; inner",
		"0; sites; 8; outer x y; inner a=7 b=2 c=9":                      "0; sites; 2; outer x y; inner a=1 b=0 c=3",
		"1; key@-1 3; key@-1 1; key@-1 5; sites; 5; outer x; inner":      "1; key@-1 1; key@-1 0; key@-1 2; sites; 2; outer x; inner",
		"1; door@-1 0 2; sites 0; 3; outer x; inner a=3":                 "1; door@-1 0 1; sites 0; 2; outer x; inner a=2",
		"2; sites -1 -2; 1; outer x; inner x=1":                          "2; sites -1 -2; 0; outer x; inner x=0",
		"1; room@-1; key@0 2; sites 0 -1; 3; outer x y; inner a=1 b=4":   "1; room@-1; key@0 1; sites 0 -1; 2; outer x y; inner a=0 b=3",
		"0; sites; 2; outer x; inner a=0 b=1 c=2":                        "0; sites; 2; outer x; inner a=0 b=1 c=2",
		"1; key@-1 7; sites; 8; outer a b c; inner a=8 b=9 c=10":         "1; key@-1 0; sites; 1; outer a b c; inner a=1 b=2 c=3",
		"4; pen@-4 0 0 0; dot@-4; sites -1 -2 -3 -4; 2; outer x; inner":  "4; pen@-4 0 0 0; dot@-4; sites -1 -2 -3 -4; 1; outer x; inner",
		"4; pen@-4 1 1 1; dot@-4; sites -1 -2 -3 -4; 2; outer xy; inner": "4; pen@-4 0 0 0; dot@-4; sites -1 -2 -3 -4; 1; outer xy; inner",
	} {
		b, ok := bigraphOf(house(), text)
		lean, fine := impl.LeanOf(house(), b)
		if got := textOf(house(), lean); !ok || !fine || got != want {
			t.Errorf("LeanOf %s = %s, %v; want %s", text, got, fine, want)
		}
	}
}

// formCalls calls each function of the chapter that takes a signature and a Bigraph, and tells
// all results.
func formCalls(sig []impl.Control, b impl.Bigraph) [][]any {
	all := [][]any{}
	tell := func(results ...any) { all = append(all, results) }
	tests := formTests()
	for _, form := range slices.Sorted(maps.Keys(tests)) {
		tell(tests[form](sig, b))
	}
	inverse, ok := impl.InverseOf(sig, b)
	tell(inverse, ok)
	shadow, ok := impl.ShadowOf(sig, b)
	tell(shadow, ok)
	wires, ok := impl.WiresOf(sig, b)
	tell(wires, ok)
	wiring, discrete, ok := impl.DiscreteOf(sig, b)
	tell(wiring, discrete, ok)
	lean, ok := impl.LeanOf(sig, b)
	tell(lean, ok)
	below, _ := impl.IdentityOf(0, innerOf(b))
	above, _ := impl.IdentityOf(0, b.Outer)
	first, ok := impl.ComposeWirings(sig, b, below)
	tell(first, ok)
	second, ok := impl.ComposeWirings(sig, above, b)
	tell(second, ok)
	return all
}

func TestElementsFailForInvalidArguments(t *testing.T) {
	check := func(sig []impl.Control, b impl.Bigraph) {
		t.Helper()
		for i, results := range formCalls(sig, b) {
			for _, result := range results {
				if !isZero(reflect.ValueOf(result)) {
					t.Fatalf("call %d of %.200v over %.200v = %.200v; want a failure", i, b, sig, results)
				}
			}
		}
	}
	for _, b := range brokenBigraphs() {
		check(house(), b)
	}
	for _, sig := range badSignatures() {
		for _, b := range []impl.Bigraph{{}, identityAs(2, nil), wired(0, []string{"x"}, []string{"a"}, []string{"x"})} {
			check(sig, b)
		}
	}
	check(house()[:5], twoRooms())
	check(ionControls(), twoRooms())
	for _, names := range [][]string{{"b", "a"}, {"a", "a"}, {"A"}, {""}, {"abcde"}, namesUpTo(17)} {
		inner := impl.Bigraph{Edges: 1}
		for _, name := range names {
			inner.Inner = append(inner.Inner, impl.Wire{Name: name})
		}
		check(house(), impl.Bigraph{Outer: names})
		check(house(), inner)
		check(house(), wired(0, names, names, names))
	}
	for _, n := range []int{-1, 5, 1000000, math.MaxInt, math.MinInt} {
		check(house(), impl.Bigraph{Roots: n})
		check(house(), impl.Bigraph{Roots: n, Sites: []int{-1}})
	}
	check(house(), impl.Bigraph{Edges: 9})
	check(house(), impl.Bigraph{Sites: []int{-1}})
	check(house(), impl.Bigraph{Roots: 1, Sites: slices.Repeat([]int{-1}, 5)})
}

// elementCalls calls each function of the chapter that takes lists, and tells all results.
func elementCalls(sig []impl.Control, to []int, from []string, names []string) [][]any {
	all := [][]any{}
	tell := func(b impl.Bigraph, ok bool) { all = append(all, []any{b, ok}) }
	tell(impl.IdentityOf(len(to), from))
	tell(impl.PermutationOf(to))
	tell(impl.SwapOf(len(to)/2, 2))
	tell(impl.MergeOf(len(to)))
	tell(impl.BarrenOf(len(to)))
	tell(impl.IonOf(sig, 2, names[:2]))
	tell(impl.AtomOf(sig, 3, names[:3]))
	tell(impl.SubstitutionOf(from, names))
	tell(impl.SubstitutionOf(from, from))
	tell(impl.NewNames(from))
	tell(impl.ClosureOf(from))
	return all
}

func TestElementsAreNewAndArgumentsAreKept(t *testing.T) {
	sig, to, from, names := house(), []int{2, 0, 1}, []string{"a", "b", "c", "d"}, []string{"y", "x", "y", "q"}
	results := elementCalls(sig, to, from, names)
	wantNewResults(t, results, func() [][]any { return elementCalls(sig, to, from, names) })
	if fmt.Sprint(sig, to, from, names) != fmt.Sprint(house(), []int{2, 0, 1}, []string{"a", "b", "c", "d"}, []string{"y", "x", "y", "q"}) {
		t.Error("a call has changed its arguments, or the results share their memory:", sig, to, from, names)
	}
}

// wantNewResults overwrites all results, one after the other, and checks that those behind it
// stay, and that the same calls give the same results again.
func wantNewResults(t *testing.T, first [][]any, again func() [][]any) {
	t.Helper()
	told := fmt.Sprintf("%v", first)
	for i, results := range first {
		for j := range results {
			rest := fmt.Sprintf("%v", results[j+1:])
			spoil(reflect.ValueOf(results[j]))
			if fmt.Sprintf("%v", results[j+1:]) != rest {
				t.Fatalf("the results of call %d share memory", i)
			}
		}
		if rest := fmt.Sprintf("%v", first[i+1:]); !strings.HasSuffix(told, strings.TrimPrefix(rest, "[")) {
			t.Fatalf("the results of call %d share memory with others", i)
		}
	}
	if now := fmt.Sprintf("%v", again()); now != told {
		t.Fatalf("the second time the results are %s; want %s", now, told)
	}
}

func TestFormsAreNewAndBigraphsAreKept(t *testing.T) {
	samples := append(sampleBigraphs()[:150], twoRooms(), identityAs(4, nil), identityAs(0, namesUpTo(16)), identityAs(2, namesUpTo(2)))
	r := rand.New(rand.NewSource(12))
	for range 100 {
		samples = append(samples, wiringChain(r, 1)[0], randomRenaming(r, 5))
	}
	for _, b := range samples {
		sig, kept := house(), cloneOf(b)
		wantNewResults(t, formCalls(sig, b), func() [][]any { return formCalls(sig, b) })
		if !isSame(b, kept) || !slices.Equal(sig, house()) {
			t.Fatalf("a call has changed %v to %v, or the results share its memory", kept, b)
		}
		lean, _ := impl.LeanOf(sig, b)
		checkOwnLists(t, lean)
		if _, discrete, ok := impl.DiscreteOf(sig, b); ok {
			checkOwnLists(t, discrete)
		}
	}
}

func TestComposedWiringsAreNew(t *testing.T) {
	r := rand.New(rand.NewSource(13))
	for range 300 {
		c := wiringChain(r, 2)
		kept := fmt.Sprint(c)
		whole, ok := impl.ComposeWirings(house(), c[0], c[1])
		told := fmt.Sprint(whole)
		spoil(reflect.ValueOf(whole))
		again, fine := impl.ComposeWirings(house(), c[0], c[1])
		if fmt.Sprint(c) != kept || ok != fine || fmt.Sprint(again) != told {
			t.Fatalf("ComposeWirings changes its arguments %s to %v, or shares their memory", kept, c)
		}
	}
}
