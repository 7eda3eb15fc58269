package tests

import (
	"fmt"
	"math/rand"
	"slices"
	"testing"

	"loop.example/g01082/impl"
)

func valueOf(t *testing.T, term []impl.TermStep) impl.Bigraph {
	t.Helper()
	return must(t, fmt.Sprint("TermValue ", term))(impl.TermValue(house(), term))
}

// normalText is the text of the NormalTerm, and empty if there is none.
func normalText(t *testing.T, term []impl.TermStep) string {
	t.Helper()
	normal, ok := impl.NormalTerm(house(), term)
	if value := valueOf(t, term); ok == (value.Edges+len(value.Outer) > 16) {
		t.Fatalf("NormalTerm(%v) = %v, %v", term, normal, ok)
	}
	text, fine := impl.TermText(house(), normal)
	if fine != ok {
		t.Fatalf("TermText(%v) = %s, %v", normal, text, fine)
	}
	return text
}

func TestValuesOfTermsOfBigraphs(t *testing.T) {
	t.Parallel()
	count := 0
	for _, b := range append(lawSamples(), tinyBigraphs()...) {
		b = withoutInner(b)
		term, ok := impl.TermOf(house(), b)
		if !ok {
			continue
		}
		count++
		value := valueOf(t, term)
		leadsTo(t, b, value)
		// The value has its nodes in the order of the term, so there is nothing left to move.
		again, ok := impl.TermOf(house(), value)
		wantSteps(t, again, ok, term, true, "TermOf(%v)", value)
		wantResult(t, valueOf(t, again), true, value, true, "TermValue(%v)", again)
	}
	if count < 2000 {
		t.Error("only so many Bigraphs have terms:", count)
	}
}

func TestEdgesKeepTheirNumbers(t *testing.T) {
	for _, text := range []string{
		"1; pen@-1 2 0 1; sites; 3; outer; inner",
		"1; key@-1 3; key@-1 1; sites; 5; outer; inner",
		"2; door@-1 4 2; key@0 0; key@-2 5; sites -2 1; 5; outer c; inner",
		"1; room@-1; door@0 7 0; dot@0; key@-1 8; sites 0; 8; outer a b c d e f g h; inner",
	} {
		b := read(t, text)
		term, ok := impl.TermOf(house(), b)
		if !ok {
			t.Fatal("no term of", text)
		}
		// In these, each node comes behind all that is under the nodes before it.
		wantResult(t, valueOf(t, term), true, b, true, "TermValue of the term of %s", text)
	}
}

func TestAxiomsKeepValues(t *testing.T) {
	t.Parallel()
	counts := map[string]int{}
	for _, term := range append(validTerms(83, 400, 14), closedTerms(84, 400, 14)...) {
		value, normal := valueOf(t, term), normalText(t, term)
		for at := range term {
			for axiom := impl.SwapMerge; axiom <= impl.LiftSide; axiom++ {
				other, ok := impl.ApplyAxiom(house(), term, axiom, at)
				if !ok {
					continue
				}
				counts[fmt.Sprint("axiom ", axiom)]++
				leadsTo(t, value, valueOf(t, other))
				same, ok := impl.SameTerms(house(), term, other)
				wantReport(t, same, ok, true, "SameTerms(%v, %v)", term, other)
				if got := normalText(t, other); got != normal {
					t.Fatalf("the axiom %d at %d makes the NormalTerm %s of %v into %s", axiom, at, normal, term, got)
				}
			}
		}
	}
	for axiom := impl.SwapMerge; axiom <= impl.LiftSide; axiom++ {
		wantAtLeast(t, counts, 30, fmt.Sprint("axiom ", axiom))
	}
}

func TestManyAxiomsOneAfterTheOther(t *testing.T) {
	t.Parallel()
	r, made := rand.New(rand.NewSource(85)), 0
	for _, term := range append(validTerms(86, 60, 20), closedTerms(87, 60, 20)...) {
		value, now := valueOf(t, term), term
		for range 150 {
			next, ok := impl.ApplyAxiom(house(), now, 1+r.Intn(7), r.Intn(len(now)))
			if ok {
				now = next
				made++
			}
		}
		leadsTo(t, value, valueOf(t, now))
	}
	if made < 300 {
		t.Error("only so many axioms could be applied:", made)
	}
}

func TestSwapsAreUndoneByThemselves(t *testing.T) {
	t.Parallel()
	counts := map[int]int{}
	for _, term := range append(validTerms(88, 150, 14), closedTerms(89, 900, 14)...) {
		for at := range term {
			for _, axiom := range []int{impl.SwapMerge, impl.SwapClose} {
				if other, ok := impl.ApplyAxiom(house(), term, axiom, at); ok {
					back, ok := impl.ApplyAxiom(house(), other, axiom, at)
					wantSteps(t, back, ok, term, true, "ApplyAxiom(%v, %d, %d)", other, axiom, at)
					counts[axiom]++
				}
			}
		}
	}
	if counts[impl.SwapMerge] < 50 || counts[impl.SwapClose] < 50 {
		t.Error("only so many swaps:", counts)
	}
}

// fewWords are the words of steps for terms that often have isomorphic values.
var fewWords = []string{"0", "1", "@0", "room:", "key:x", "key:y", "|", "||", "/x", "/y", "+x"}

func TestSameNormalTermsExactlyIfIsomorphic(t *testing.T) {
	lists, all := [][]impl.TermStep{nil}, [][]impl.TermStep{}
	for range 5 {
		lists = slices.DeleteFunc(longerBy(lists, fewWords), func(term []impl.TermStep) bool {
			stack, _, ok := stackAs(term)
			return !ok || len(stack) > 2
		})
		for _, term := range lists {
			if _, ok := valueAs(term); ok && len(all) < 4000 {
				all = append(all, term)
			}
		}
	}
	texts, shapes, keys := map[string]string{}, map[string]string{}, map[string]int{}
	for _, term := range all {
		value, text := valueOf(t, term), normalText(t, term)
		shape := shapeOf(value)
		if other, ok := texts[shape]; ok && other != text {
			t.Fatalf("the NormalTerms %s and %s are of isomorphic values, such as %v", text, other, value)
		}
		if other, ok := shapes[text]; ok && other != shape {
			t.Fatalf("the NormalTerm %s is also of values that are not isomorphic to %v", text, value)
		}
		texts[shape], shapes[text] = text, shape
		keys[shape]++
	}
	if len(texts) < 100 || len(texts)*3 > len(all) {
		t.Errorf("%d terms have %d NormalTerms", len(all), len(texts))
	}
}

func TestSameTermsExactlyIfIsomorphic(t *testing.T) {
	t.Parallel()
	terms, counts := append(validTerms(90, 60, 5), closedTerms(91, 60, 5)...), map[string]int{}
	for i, term := range terms {
		for _, other := range terms[:i+1] {
			want := shapeOf(valueOf(t, term)) == shapeOf(valueOf(t, other))
			same, ok := impl.SameTerms(house(), term, other)
			wantReport(t, same, ok, want, "SameTerms(%v, %v)", term, other)
			if got := normalText(t, term) == normalText(t, other); got != want {
				t.Fatalf("the NormalTerms of %v and %v are equal, or not", term, other)
			}
			counts[fmt.Sprint(want)]++
		}
	}
	wantAtLeast(t, counts, 130, "true", "false")
}

func TestNormalTermsAreNormal(t *testing.T) {
	r := rand.New(rand.NewSource(92))
	for _, term := range append(validTerms(93, 500, 16), validTerms(94, 60, 45)...) {
		value := valueOf(t, term)
		normal, ok := impl.NormalTerm(house(), term)
		if !ok {
			continue
		}
		again, ok := impl.NormalTerm(house(), normal)
		wantSteps(t, again, ok, normal, true, "NormalTerm(%v)", normal)
		leadsTo(t, value, valueOf(t, normal))
		same, ok := impl.SameTerms(house(), term, normal)
		wantReport(t, same, ok, true, "SameTerms(%v, %v)", term, normal)
		if key := keyOf(t, valueOf(t, normal)); key != keyOf(t, value) {
			t.Fatalf("the value of the NormalTerm of %v has another key", term)
		}
		// Other numbers of nodes and edges make another term of the same NormalTerm.
		other, ok := impl.TermOf(house(), shuffled(r, value))
		moved, fine := impl.NormalTerm(house(), other)
		wantSteps(t, moved, ok && fine, normal, true, "NormalTerm(%v)", other)
	}
}

// closedAgents are terms without sites, so that two of them make one.
func closedAgents(t *testing.T) [][]impl.TermStep {
	t.Helper()
	list := [][]impl.TermStep{}
	for _, term := range append(validTerms(95, 500, 8), closedTerms(96, 300, 8)...) {
		if len(valueOf(t, term).Sites) == 0 {
			list = append(list, term)
		}
	}
	return list
}

func TestStepsAreCompositionsAndProducts(t *testing.T) {
	agents, counts := closedAgents(t), map[string]int{}
	check := func(name string, last impl.TermStep, want impl.Bigraph, possible bool, terms ...[]impl.TermStep) {
		t.Helper()
		term := append(slices.Concat(terms...), last)
		got, ok := impl.TermValue(house(), term)
		wantResult(t, got, ok, want, possible, "TermValue(%v)", term)
		counts[fmt.Sprint(name, " ", ok)]++
	}
	for i, a := range agents {
		b := agents[(i+1)%len(agents)]
		x, y := valueOf(t, a), valueOf(t, b)
		both, ok := merging(x, y)
		check("merge", impl.TermStep{Kind: impl.TermMerge}, both, ok, a, b)
		both, ok = parallel(x, y)
		check("side", impl.TermStep{Kind: impl.TermSide}, both, ok, a, b)
		for _, name := range []string{"a", "x", "new"} {
			other, ok := impl.CloseName(house(), x, name)
			check("close", impl.TermStep{Kind: impl.TermClose, Names: []string{name}}, other, ok, a)
			other, ok = impl.AddName(house(), x, name)
			check("name", impl.TermStep{Kind: impl.TermName, Names: []string{name}}, other, ok, a)
			ion := must(t, "IonOf")(impl.IonOf(house(), 2, []string{name, "x"}))
			other, ok = impl.NestBigraphs(house(), ion, x)
			check("node", impl.TermStep{Kind: impl.TermNode, Control: 2, Names: []string{name, "x"}}, other, ok, a)
		}
	}
	for _, name := range []string{"merge", "side", "close", "name", "node"} {
		wantAtLeast(t, counts, 100, name+" true")
	}
	wantAtLeast(t, counts, 100, "close false", "name false", "node false")
}

func TestAtomsAreNodesAroundNothing(t *testing.T) {
	for control, c := range house() {
		names := []string{"y", "x", "y"}[:c.Ports]
		atom := must(t, "AtomOf")(impl.AtomOf(house(), control, names))
		term, ok := impl.TermOf(house(), atom)
		want := []impl.TermStep{{Kind: impl.TermOne}, {Kind: impl.TermNode, Control: control, Names: names}}
		wantSteps(t, term, ok, want, true, "TermOf(%v)", atom)
		wantResult(t, valueOf(t, want), true, atom, true, "TermValue(%v)", want)
		ion, isIon := impl.IonOf(house(), control, names)
		around := []impl.TermStep{{Kind: impl.TermSite}, want[1]}
		got, ok := impl.TermValue(house(), around)
		wantResult(t, got, ok, ion, isIon, "TermValue(%v)", around)
	}
}
