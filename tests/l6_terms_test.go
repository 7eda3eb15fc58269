package tests

import (
	"fmt"
	"math"
	"math/rand"
	"slices"
	"strings"
	"testing"

	"loop.example/g01082/impl"
)

// steps returns the steps over house with these words, which need not be a term.
func steps(t *testing.T, text string) []impl.TermStep {
	t.Helper()
	list, ok := stepsOf(text)
	if !ok {
		t.Fatal("the example has words of no steps:", text)
	}
	return list
}

func wantSteps(t *testing.T, got []impl.TermStep, ok bool, want []impl.TermStep, possible bool, call string, args ...any) {
	t.Helper()
	if !possible {
		want = nil
	}
	if ok != possible || !isSameTerm(got, want) {
		t.Fatalf("%.600s = %v, %v; want %v, %v", fmt.Sprintf(call, args...), got, ok, want, possible)
	}
}

func wantText(t *testing.T, got string, ok bool, want string, possible bool, call string, args ...any) {
	t.Helper()
	if !possible {
		want = ""
	}
	if ok != possible || got != want {
		t.Fatalf("%.600s = %q, %v; want %q, %v", fmt.Sprintf(call, args...), got, ok, want, possible)
	}
}

// checkTerm checks all that is said of one list of steps over house, and says whether it is a
// term.
func checkTerm(t *testing.T, term []impl.TermStep) bool {
	t.Helper()
	want, valid := valueAs(term)
	is, ok := impl.IsTerm(house(), term)
	wantReport(t, is, ok, valid, "IsTerm(%v)", term)
	value, ok := impl.TermValue(house(), term)
	wantResult(t, value, ok, want, valid, "TermValue(%v)", term)
	parts, partsOK := impl.TermParts(house(), term)
	depth, depthOK := impl.TermDepth(house(), term)
	text, textOK := impl.TermText(house(), term)
	if !valid {
		wantInts(t, parts, partsOK, nil, false, "TermParts(%v)", term)
		wantText(t, text, textOK, "", false, "TermText(%v)", term)
		if depth != 0 || depthOK {
			t.Fatalf("TermDepth(%v) = %d, %v; want 0, false", term, depth, depthOK)
		}
		return false
	}
	wantInts(t, parts, partsOK, partsAs(term), true, "TermParts(%v)", term)
	wantText(t, text, textOK, stepWords(term), true, "TermText(%v)", term)
	if _, most, _ := stackAs(term); depth != most || !depthOK {
		t.Fatalf("TermDepth(%v) = %d, %v; want %d, true", term, depth, depthOK, most)
	}
	read, ok := impl.ParseTerm(house(), text)
	wantSteps(t, read, ok, term, true, "ParseTerm(%s)", text)
	return true
}

// checkAxioms applies each axiom, and numbers that are none, at each step and beside the steps.
func checkAxioms(t *testing.T, term []impl.TermStep, counts map[string]int) {
	t.Helper()
	_, valid := valueAs(term)
	for axiom := range 9 {
		for at := -1; at <= len(term); at++ {
			want, possible := []impl.TermStep(nil), false
			if valid {
				want, possible = replacedAs(term, axiom, at)
			}
			got, ok := impl.ApplyAxiom(house(), term, axiom, at)
			wantSteps(t, got, ok, want, possible, "ApplyAxiom(%v, %d, %d)", term, axiom, at)
			counts[fmt.Sprint("axiom ", axiom, " ", ok)]++
		}
	}
}

// shortWords are the words of steps for all short terms.
var shortWords = []string{"0", "1", "@0", "@1", "room:", "key:x", "door:x,y", "dot:", "|", "||", "/x", "/y", "+x", "+y"}

// longerBy lists all lists of steps with one of these words more.
func longerBy(lists [][]impl.TermStep, words []string) [][]impl.TermStep {
	longer := [][]impl.TermStep{}
	for _, list := range lists {
		for _, word := range words {
			more, _ := stepsOf(word)
			longer = append(longer, append(slices.Clone(list), more...))
		}
	}
	return longer
}

// shortTerms lists all steps of up to three words, those of four that can be made, and those of
// five that can be made and leave one Bigraph.
func shortTerms() [][]impl.TermStep {
	all, lists := [][]impl.TermStep{nil}, [][]impl.TermStep{nil}
	for size := 1; size <= 5; size++ {
		lists = slices.DeleteFunc(longerBy(lists, shortWords), func(term []impl.TermStep) bool {
			if size == 5 && !isWhole(term) {
				return true
			}
			_, _, ok := stackAs(term)
			return size > 3 && !ok
		})
		all = append(all, lists...)
	}
	return all
}

func TestAllShortTerms(t *testing.T) {
	t.Parallel()
	counts := map[string]int{}
	for _, term := range shortTerms() {
		if checkTerm(t, term) {
			counts[fmt.Sprint("terms of ", len(term))]++
			checkAxioms(t, term, counts)
		} else {
			counts["no term"]++
		}
	}
	wantAtLeast(t, counts, 3, "terms of 1", "terms of 2")
	wantAtLeast(t, counts, 20, "terms of 3", "terms of 4", "terms of 5", "no term")
	for axiom := impl.SwapMerge; axiom <= impl.DropOne; axiom++ {
		wantAtLeast(t, counts, 20, fmt.Sprintf("axiom %d true", axiom))
	}
}

func TestRandomTerms(t *testing.T) {
	t.Parallel()
	r, counts := rand.New(rand.NewSource(70)), map[string]int{}
	for range 2000 {
		term := randomTerm(r, pick(r, [][]int{allKinds, closeKinds}), pick(r, []int{6, 12, 30}))
		if !checkTerm(t, term) {
			counts["no term"]++
			continue
		}
		counts["term"]++
		for _, other := range changedTerms(r, term) {
			counts[fmt.Sprint("changed ", checkTerm(t, other))]++
		}
	}
	wantAtLeast(t, counts, 700, "term", "changed true", "changed false")
}

func TestTermExamples(t *testing.T) {
	for _, e := range []struct {
		text, value string
		parts       []int
		depth       int
	}{
		{"0", nothing, []int{0}, 1},
		{"1", "1; sites; 0; outer; inner", []int{0}, 1},
		{"@0", "1; sites -1; 0; outer; inner", []int{0}, 1},
		{"1 key:x @0 |", "1; key@-1 0; sites -1; 0; outer x; inner", []int{0, 0, 2, 0}, 2},
		{"0 0 ||", nothing, []int{0, 1, 0}, 2},
		{"0 0 |", "1; sites; 0; outer; inner", []int{0, 1, 0}, 2},
		{"0 1 |", "1; sites; 0; outer; inner", []int{0, 1, 0}, 2},
		{"1 1 ||", "2; sites; 0; outer; inner", []int{0, 1, 0}, 2},
		{"1 1 || 1 1 || ||", "4; sites; 0; outer; inner", []int{0, 1, 0, 3, 4, 3, 0}, 3},
		{"1 1 || 1 || 1 ||", "4; sites; 0; outer; inner", []int{0, 1, 0, 3, 0, 5, 0}, 2},
		{"1 1 1 1 || || ||", "4; sites; 0; outer; inner", []int{0, 1, 2, 3, 2, 1, 0}, 4},
		{"1 1 || 1 1 || |", "1; sites; 0; outer; inner", []int{0, 1, 0, 3, 4, 3, 0}, 3},
		{"1 dot:", "1; dot@-1; sites; 0; outer; inner", []int{0, 0}, 1},
		{"1 room:", emptyRoom, []int{0, 0}, 1},
		{"@0 room:", oneRoom, []int{0, 0}, 1},
		{"0 1 | room:", emptyRoom, []int{0, 1, 0, 0}, 2},
		{"1 key:x room:", "1; room@-1; key@0 0; sites; 0; outer x; inner", []int{0, 0, 0}, 1},
		{"1 dot: 1 key:x | room:", "1; room@-1; dot@0; key@0 0; sites; 0; outer x; inner", []int{0, 0, 2, 2, 0, 0}, 2},
		{"@1 @0 ||", "2; sites -2 -1; 0; outer; inner", []int{0, 1, 0}, 2},
		{"@2 room: @0 || @1 ||", "3; room@-1; sites -2 -3 0; 0; outer; inner", []int{0, 0, 2, 0, 4, 0}, 2},
		{"@1 @3 | @0 @2 | room: |", "1; room@-1; sites 0 -1 0 -1; 0; outer; inner", []int{0, 1, 0, 3, 4, 3, 3, 0}, 3},
		{"1 pen:x,y,x", "1; pen@-1 0 1 0; sites; 0; outer x y; inner", []int{0, 0}, 1},
		{"1 door:y,x", "1; door@-1 1 0; sites; 0; outer x y; inner", []int{0, 0}, 1},
		{"1 key:x 1 key:x ||", "2; key@-1 0; key@-2 0; sites; 0; outer x; inner", []int{0, 0, 2, 2, 0}, 2},
		{"1 key:x /x 1 key:x /x ||", "2; key@-1 0; key@-2 1; sites; 2; outer; inner", []int{0, 0, 0, 3, 3, 3, 0}, 2},
		{"1 key:x /x key:x", "1; key@-1 1; key@0 0; sites; 1; outer x; inner", []int{0, 0, 0, 0}, 1},
		{"1 key:x key:x /x", "1; key@-1 0; key@0 0; sites; 1; outer; inner", []int{0, 0, 0, 0}, 1},
		{"0 +x", idleX, []int{0, 0}, 1},
		{"0 +x /x", "0; sites; 1; outer; inner", []int{0, 0, 0}, 1},
		{"0 +x /x +x /x +x", "0; sites; 2; outer x; inner", []int{0, 0, 0, 0, 0, 0}, 1},
		{"1 +x dot:", "1; dot@-1; sites; 0; outer x; inner", []int{0, 0, 0}, 1},
		{"1 +x /x +y pen:x,y,z", "1; pen@-1 1 2 3; sites; 1; outer x y z; inner", []int{0, 0, 0, 0, 0}, 1},
		{"1 +y key:x /x", "1; key@-1 0; sites; 1; outer y; inner", []int{0, 0, 0, 0}, 1},
		{"1 door:a,b /b /a", "1; door@-1 1 0; sites; 2; outer; inner", []int{0, 0, 0, 0}, 1},
		{"1 door:b,c +a /b", "1; door@-1 0 2; sites; 1; outer a c; inner", []int{0, 0, 0, 0}, 1},
		{"1 key:x /x +x dot: room: |", "", nil, 0},
		{"1 room: 1 dot: | 1 key:zzzz | +a", "1; room@-1; dot@-1; key@-1 1; sites; 0; outer a zzzz; inner", []int{0, 0, 2, 2, 0, 5, 5, 0, 0}, 2},
	} {
		term := steps(t, e.text)
		if checkTerm(t, term) != (e.value != "") {
			t.Error("a term, or not:", e.text)
		}
		value, ok := impl.TermValue(house(), term)
		parts, partsOK := impl.TermParts(house(), term)
		depth, depthOK := impl.TermDepth(house(), term)
		text := ""
		if ok {
			text = textOf(house(), value)
		}
		if text != e.value || !slices.Equal(parts, e.parts) || depth != e.depth || ok != (e.value != "") || ok != partsOK || ok != depthOK {
			t.Errorf("the term %s has the value %q, the parts %v and the depth %d; want %q, %v and %d", e.text, text, parts, depth, e.value, e.parts, e.depth)
		}
	}
}

func TestNodesComeInOrder(t *testing.T) {
	text := "1 dot: key:x 1 room: 1 dot: | | @0 room: | box:y 1 pen:x,y,z ||"
	want := "2; box@-1 1; key@0 0; dot@1; room@0; dot@0; room@0; pen@-2 0 1 2; sites 5; 0; outer x y z; inner"
	value, ok := impl.TermValue(house(), steps(t, text))
	if !ok || textOf(house(), value) != want {
		t.Errorf("TermValue(%s) = %v, %v; want %s", text, value, ok, want)
	}
}

func TestStacksWithTooManyOrTooFew(t *testing.T) {
	bad := []string{
		"1 1", "0 0", "0 1", "@0 @1", "1 1 1 |", "1 key:x @0", "1 1 1 1 | |", "0 0 0 ||",
		"|", "||", "1 |", "1 ||", "0 ||", "1 1 | |", "1 1 || ||", "room:", "dot:", "key:x", "/x", "+x", "key:x /x", "| 1 1", "1 | 1", "+x 0", "1 1 | 1",
	}
	for _, text := range bad {
		if checkTerm(t, steps(t, text)) {
			t.Error("a term:", text)
		}
	}
	for _, term := range [][]impl.TermStep{nil, {}} {
		if checkTerm(t, term) {
			t.Error("a term without steps")
		}
		checkAxioms(t, term, map[string]int{})
	}
	if term, ok := impl.ParseTerm(house(), ""); ok || len(term) > 0 {
		t.Errorf(`ParseTerm("") = %v, %v`, term, ok)
	}
}

func TestNodesTakeOneRoot(t *testing.T) {
	for text, want := range map[string]bool{
		"1 room:": true, "@0 room:": true, "1 key:x room:": true, "1 1 | room:": true, "0 0 | room:": true,
		"0 room:": false, "1 1 || room:": false, "@0 1 || room:": false, "0 dot:": false, "1 1 || dot:": false, "0 0 || dot:": false, "0 0 | dot:": true, "1 1 || 1 || room:": false, "1 1 || 1 || 1 || room:": false,
		"1 dot:": true, "1 1 | dot:": true, "1 +x dot:": true, "1 +x /x dot:": true, "1 +x /x +y pen:y,z,x": true,
		"@0 dot:": false, "1 room: dot:": false, "1 dot: dot:": false, "1 key:x dot:": false, "1 key:x /x dot:": false, "@0 pen:x,y,z": false, "@0 +x dot:": false, "1 pen:x,y,z pen:x,y,z": false,
		"@0 key:x": true, "@0 box:x": true, "1 dot: box:x": true, "@0 door:x,x": true,
	} {
		if checkTerm(t, steps(t, text)) != want {
			t.Error("a term, or not:", text)
		}
	}
}

func TestNumbersOfSites(t *testing.T) {
	merged := func(numbers []int) []impl.TermStep {
		term := []impl.TermStep{{Kind: impl.TermEmpty}}
		for _, n := range numbers {
			term = append(term, impl.TermStep{Kind: impl.TermSite, Site: n}, impl.TermStep{Kind: impl.TermMerge})
		}
		return term
	}
	count := 0
	for _, numbers := range listsOfNumbers(-1, 4, 3) {
		if checkTerm(t, merged(numbers)) {
			count++
		}
	}
	if count != 1+1+2+6 {
		t.Error("terms with up to three sites:", count)
	}
	for _, numbers := range ordersOf(4) {
		if !checkTerm(t, merged(numbers)) {
			t.Error("no term with the sites", numbers)
		}
		for _, n := range append(extremes(), 4, 5, 64, 65) {
			for i := range numbers {
				other := slices.Clone(numbers)
				other[i] = n
				if checkTerm(t, merged(other)) != slices.Equal(other, numbers) {
					t.Error("a term, or not, with the sites", other)
				}
			}
		}
	}
	if checkTerm(t, merged([]int{0, 1, 2, 3, 4})) || checkTerm(t, merged([]int{0, 1, 2, 3, 3})) {
		t.Error("a term with five sites")
	}
}

// lastSteps are terms of few steps that end with steps of all Kinds.
func lastSteps() []string {
	return []string{"0", "1", "@0", "1 room:", "1 dot:", "1 key:x", "1 pen:x,y,z", "1 1 |", "1 1 ||", "1 key:x /x", "1 +x"}
}

func TestFieldsThatAreNotUsed(t *testing.T) {
	bad := 0
	for _, text := range lastSteps() {
		term := steps(t, text)
		if !checkTerm(t, term) {
			t.Fatal("no term:", text)
		}
		last := len(term) - 1
		for _, n := range extremes() {
			control, site := cloneOfSteps(term), cloneOfSteps(term)
			control[last].Control, site[last].Site = n, n
			for _, other := range [][]impl.TermStep{control, site} {
				if !checkTerm(t, other) {
					bad++
				}
			}
		}
		for _, names := range [][]string{nil, {}, {""}, {"x"}, {"x", "x"}, {"x", "y", "z"}, {"x", "y", "z", "x"}, slices.Repeat([]string{"x"}, 100000)} {
			other := cloneOfSteps(term)
			other[last].Names = names
			checkTerm(t, other)
		}
	}
	if bad < 600 {
		t.Error("only so many terms were not valid:", bad)
	}
	for _, s := range []impl.TermStep{{Kind: 0, Control: 1}, {Kind: 0, Site: 1}, {Kind: 0, Names: []string{"x"}}, {Kind: 1, Control: 1}, {Kind: 1, Site: 3}, {Kind: 1, Names: []string{""}}, {Kind: 2, Control: 5}, {Kind: 2, Names: []string{"x"}}} {
		if checkTerm(t, []impl.TermStep{s}) {
			t.Error("a term:", s)
		}
	}
	one := impl.TermStep{Kind: impl.TermOne}
	for _, s := range []impl.TermStep{{Kind: 3, Control: 1, Site: 1, Names: []string{"x"}}, {Kind: 7, Control: 1, Names: []string{"x"}}, {Kind: 7, Site: 1, Names: []string{"x"}}, {Kind: 7, Names: []string{"x", "y"}}, {Kind: 7}} {
		if checkTerm(t, []impl.TermStep{one, s}) {
			t.Error("a term:", s)
		}
	}
}

func TestControlsAndNamesOfNodes(t *testing.T) {
	one := impl.TermStep{Kind: impl.TermOne}
	for control := -1; control <= 6; control++ {
		for count := range 5 {
			node := impl.TermStep{Kind: impl.TermNode, Control: control, Names: namesUpTo(count)}
			want := control >= 0 && control < 6 && house()[control].Ports == count
			if checkTerm(t, []impl.TermStep{one, node}) != want {
				t.Error("a term, or not:", node)
			}
		}
	}
	for _, n := range extremes() {
		checkTerm(t, []impl.TermStep{one, {Kind: impl.TermNode, Control: n}})
		checkTerm(t, []impl.TermStep{one, {Kind: impl.TermNode, Control: n, Names: []string{"x"}}})
	}
	sig := house()[:2]
	for control, want := range []bool{true, true, false, false} {
		names := namesUpTo(house()[control].Ports)
		is, ok := impl.IsTerm(sig, []impl.TermStep{one, {Kind: impl.TermNode, Control: control, Names: names}})
		wantReport(t, is, ok, want, "IsTerm with the control %d over %v", control, sig)
	}
}

func TestUnknownKinds(t *testing.T) {
	for _, n := range extremes() {
		if n >= 0 && n <= 7 {
			continue
		}
		for _, term := range [][]impl.TermStep{{{Kind: n}}, {{Kind: 1}, {Kind: n}}, {{Kind: 1}, {Kind: n, Names: []string{"x"}}}, {{Kind: 1}, {Kind: 1}, {Kind: n}}} {
			if checkTerm(t, term) {
				t.Error("a term:", term)
			}
		}
	}
}

func TestNamesThatAreThereOrNot(t *testing.T) {
	for text, want := range map[string]bool{
		"0 +x": true, "0 +x +y": true, "0 +x +x": false, "1 key:x +x": false, "1 key:x +y": true, "0 +x /x +x": true,
		"0 /x": false, "0 +x /y": false, "0 +x /x /x": false, "1 key:x /x /x": false, "1 key:x /y": false, "1 key:x 1 key:y || /x /y": true,
		"1 key:x /x 1 key:y || /x": false, "1 key:x /x 1 key:x || /x": true, "0 +x 0 +x ||": true, "0 +x 0 +x || /x /x": false,
	} {
		if checkTerm(t, steps(t, text)) != want {
			t.Error("a term, or not:", text)
		}
	}
	one := impl.TermStep{Kind: impl.TermOne}
	for _, name := range badNames() {
		for _, s := range []impl.TermStep{{Kind: impl.TermName, Names: []string{name}}, {Kind: impl.TermClose, Names: []string{name}}, {Kind: impl.TermNode, Control: 1, Names: []string{name}}, {Kind: impl.TermNode, Control: 2, Names: []string{"x", name}}, {Kind: impl.TermNode, Control: 3, Names: []string{name, "x", "x"}}} {
			if checkTerm(t, []impl.TermStep{one, s}) {
				t.Fatalf("a term: %.200v", s)
			}
		}
	}
	for _, name := range goodNames() {
		for _, s := range []impl.TermStep{{Kind: impl.TermName, Names: []string{name}}, {Kind: impl.TermNode, Control: 1, Names: []string{name}}} {
			if !checkTerm(t, []impl.TermStep{one, s, {Kind: impl.TermClose, Names: []string{name}}}) {
				t.Fatal("no term:", s)
			}
		}
	}
}

// chained repeats words behind others.
func chained(start string, count int, words string) string {
	return start + strings.Repeat(" "+words, count)
}

// named are words of steps for the first of the names of one letter.
func named(mark string, count int) string {
	text := ""
	for i := range count {
		text += " " + mark + "abcdefghijklmnopqrstuvwxyz"[i:i+1]
	}
	return text
}

func TestFacesThatGetTooLarge(t *testing.T) {
	nodes := func(n int) string { return chained("1", n, "room:") }
	for text, want := range map[string]bool{
		chained("1", 3, "1 ||"): true, chained("1", 4, "1 ||"): false, chained("0", 4, "1 ||"): true, chained("0", 5, "1 ||") + " 0 |": false,
		chained("1", 29, "1 |"): true, "1 1 || 1 1 || |": true, "1 1 || 1 1 || 1 || |": false, "1 1 || 1 || 1 |": true, "1 1 || 1 || 1 || 1 |": false, "1 1 || 1 || 1 || 0 |": true,
		nodes(8): true, nodes(9): false, nodes(8) + " 1 dot: |": false, nodes(7) + " 1 dot: |": true, nodes(8) + " " + nodes(1) + " ||": false, nodes(4) + " " + nodes(4) + " ||": true, nodes(8) + " dot:": false,
		"0" + named("+", 16): true, "0" + named("+", 17): false, "0" + named("+", 16) + " /a +q": true, "0" + named("+", 16) + " +q /a": false,
		"1" + named("+", 16) + " key:a": true, "1" + named("+", 16) + " key:q": false, "1" + named("+", 15) + " key:q": true, "1" + named("+", 15) + " door:q,r": false,
		"0" + named("+", 16) + " 0 +a ||": true, "0" + named("+", 16) + " 0 +q ||": false, "0" + named("+", 16) + " 1 +q |": false, "0" + named("+", 16) + " 0 +q /q ||": true,
		"0" + named("+", 8) + named("/", 8): true, "0" + named("+", 9) + named("/", 9): false, "0" + named("+", 9) + named("/", 8): true,
		chained("0", 8, "+x /x"): true, chained("0", 9, "+x /x"): false, chained("0", 8, "+x /x") + " 0 ||": true, chained("0", 8, "+x /x") + " 0 +x /x ||": false, chained("0", 4, "+x /x") + " " + chained("0", 4, "+x /x") + " ||": true,
		chained("0", 8, "+x /x") + named("+", 16): true, chained("0", 8, "+x /x") + named("+", 17): false,
	} {
		if checkTerm(t, steps(t, text)) != want {
			t.Error("a term, or not:", text)
		}
	}
}

func TestTermsOfTheGreatestLength(t *testing.T) {
	for text, want := range map[string]bool{
		chained("1", 29, "1 |") + " +x": true, chained("1", 29, "1 |") + " +x /x": false,
		chained("1 key:x", 29, "1 |"): true, chained("1 key:x /x", 29, "1 |"): false,
		chained("0 0 0", 28, "0 | |"): false, chained("0 +x", 29, "0 ||"): true, chained("0 +x", 29, "0 ||") + " /x": false,
		strings.TrimSpace(strings.Repeat("0 ", 30) + strings.Repeat("|| ", 29)): true, strings.TrimSpace(strings.Repeat("0 ", 31) + strings.Repeat("|| ", 30)): false,
		strings.TrimSpace(strings.Repeat("0 ", 30)+strings.Repeat("|| ", 29)) + " +x": true,
		strings.TrimSpace(strings.Repeat("0 ", 60)):                                   false,
	} {
		if checkTerm(t, steps(t, text)) != want {
			t.Error("a term, or not:", len(strings.Fields(text)), text)
		}
	}
	full := steps(t, chained("1 key:x", 29, "1 |"))
	depth, ok := impl.TermDepth(house(), steps(t, strings.TrimSpace(strings.Repeat("0 ", 30)+strings.Repeat("|| ", 29))))
	if len(full) != 60 || depth != 30 || !ok {
		t.Errorf("%d steps, and the depth %d, %v; want 60, 30", len(full), depth, ok)
	}
	checkAxioms(t, full, map[string]int{})
	for _, term := range [][]impl.TermStep{make([]impl.TermStep, 61), make([]impl.TermStep, 100000), append(full, impl.TermStep{Kind: impl.TermName, Names: []string{"y"}})} {
		checkTerm(t, term)
		wantFailures(t, termCalls(house(), term, term, impl.SwapMerge, 4), "%d steps", len(term))
	}
}

// checkTermOf checks the term of one Bigraph over house, valid or not, and says whether it has
// one.
func checkTermOf(t *testing.T, b impl.Bigraph) bool {
	t.Helper()
	want, possible := termAs(b)
	term, ok := impl.TermOf(house(), b)
	if !possible {
		wantSteps(t, term, ok, nil, false, "TermOf(%v)", b)
		return false
	}
	wantSteps(t, term, ok, steps(t, want), true, "TermOf(%v)", b)
	checkTerm(t, term)
	return true
}

// withoutInner leaves out the inner names.
func withoutInner(b impl.Bigraph) impl.Bigraph {
	b = cloneOf(b)
	b.Inner = nil
	return b
}

func TestTermsOfBigraphs(t *testing.T) {
	t.Parallel()
	counts := map[string]int{}
	for _, b := range slices.Concat(sampleBigraphs(), lightSamples(), tinyBigraphs(), brokenBigraphs(), []impl.Bigraph{twoRooms(), roomsIn(8)}) {
		with := checkTermOf(t, b)
		counts[fmt.Sprint("inner names: ", len(b.Inner) > 0, " ", with)]++
		counts[fmt.Sprint("without: ", checkTermOf(t, withoutInner(b)))]++
	}
	wantAtLeast(t, counts, 10, "inner names: false true", "inner names: false false", "inner names: true false", "without: true", "without: false")
	if counts["inner names: true true"] > 0 {
		t.Error("terms of Bigraphs with inner names")
	}
}

func TestTermOfExamples(t *testing.T) {
	for _, e := range [][2]string{
		{nothing, "0"},
		{"1; sites; 0; outer; inner", "1"},
		{"2; sites; 0; outer; inner", "1 1 ||"},
		{"4; sites; 0; outer; inner", "1 1 || 1 || 1 ||"},
		{"1; sites -1; 0; outer; inner", "@0"},
		{"1; sites -1 -1 -1; 0; outer; inner", "@0 @1 | @2 |"},
		{"2; sites -2 -1; 0; outer; inner", "@1 @0 ||"},
		{"3; sites -3; 0; outer; inner", "1 1 || @0 ||"},
		{emptyRoom, "1 room:"},
		{oneRoom, "@0 room:"},
		{"1; dot@-1; sites; 0; outer; inner", "1 dot:"},
		{"1; dot@-1; sites -1; 0; outer; inner", "1 dot: @0 |"},
		{"1; dot@-1; room@-1; sites 1 -1; 0; outer; inner", "1 dot: @0 room: | @1 |"},
		{"1; room@-1; room@0; room@-1; dot@0; sites 1; 0; outer; inner", "@0 room: 1 dot: | room: 1 room: |"},
		{"2; room@-2; room@-1; dot@0; sites 0; 0; outer; inner", "1 room: 1 dot: @0 | room: ||"},
		{keyOfX, "1 key:x"},
		{"1; key@-1 0; sites; 1; outer; inner", "1 key:a /a"},
		{"1; key@-1 0; sites; 1; outer a; inner", "1 key:b +a /b"},
		{"1; key@-1 1; sites; 1; outer a; inner", "1 key:a +b /b"},
		{"1; door@-1 0 2; sites; 2; outer a; inner", "1 door:b,a +c /b /c"},
		{"1; pen@-1 2 0 1; sites; 3; outer; inner", "1 pen:c,a,b /a /b /c"},
		{"1; pen@-1 1 1 1; sites; 0; outer x y z; inner", "1 pen:y,y,y +x +z"},
		{"0; sites; 2; outer a aa b c x; inner", "0 +d +e +a +aa +b +c +x /d /e"},
		{"0; sites; 1; outer; inner", "0 +a /a"},
		{"0; sites; 8; outer; inner", "0" + named("+", 8) + named("/", 8)},
		{idleX, "0 +x"},
		{"0; sites; 8; outer a b c d e f g h; inner", "0 +i +j +k +l +m +n +o +p" + named("+", 8) + " /i /j /k /l /m /n /o /p"},
		{"0; sites; 1; outer a b c d e f g h i j k l m n o; inner", "0 +p" + named("+", 15) + " /p"},
		{"0; sites; 0; outer a b c d e f g h i j k l m n o p; inner", "0" + named("+", 16)},
	} {
		b := read(t, e[0])
		term, ok := impl.TermOf(house(), b)
		wantSteps(t, term, ok, steps(t, e[1]), true, "TermOf(%s)", e[0])
		text, ok := impl.TermText(house(), term)
		wantText(t, text, ok, e[1], true, "TermText(%v)", term)
		checkTermOf(t, b)
	}
}

// manySteps has 8 dots and 4 sites in one root, 3 more roots, and so many idle edges and names.
func manySteps(t *testing.T, edges int, outer int) impl.Bigraph {
	t.Helper()
	b := read(t, "4; "+strings.Repeat("dot@-2; ", 8)+"sites -2 -2 -2 -2; 0; outer; inner")
	b.Edges = edges
	b.Outer = namesUpTo(outer)
	return b
}

func TestBigraphsWithTermsThatAreTooLong(t *testing.T) {
	for _, e := range []struct {
		edges, outer int
		want         int
	}{{0, 0, 37}, {8, 0, 53}, {0, 16, 53}, {7, 8, 59}, {7, 9, 60}, {8, 7, 60}, {8, 8, 0}, {8, 9, 0}, {8, 16, 0}, {1, 16, 0}} {
		b := manySteps(t, e.edges, e.outer)
		term, ok := impl.TermOf(house(), b)
		if ok != (e.want > 0) || len(term) != e.want {
			t.Errorf("TermOf(%v) has %d steps, %v; want %d", b, len(term), ok, e.want)
		}
		checkTermOf(t, b)
	}
	for n := range 9 {
		for outer := range 17 {
			checkTermOf(t, manySteps(t, n, outer))
			checkTermOf(t, impl.Bigraph{Edges: n, Outer: namesUpTo(outer)})
			checkTermOf(t, impl.Bigraph{Edges: n, Roots: 1, Outer: sortedWords[:outer]})
		}
	}
}

func TestInnerNamesHaveNoTerms(t *testing.T) {
	for _, text := range []string{"0; sites; 0; outer x; inner x=0", "0; sites; 1; outer; inner a=0", "1; key@-1 0; sites; 1; outer; inner a=0 b=0", "1; sites -1; 0; outer y; inner x=0"} {
		term, ok := impl.TermOf(house(), read(t, text))
		wantSteps(t, term, ok, nil, false, "TermOf(%s)", text)
	}
}

// wantApplied checks what an axiom makes of the words of a term at a step; none stand for a
// failure.
func wantApplied(t *testing.T, axiom int, before string, at int, after string) {
	t.Helper()
	term := steps(t, before)
	got, ok := impl.ApplyAxiom(house(), term, axiom, at)
	if after == "" {
		wantSteps(t, got, ok, nil, false, "ApplyAxiom(%s, %d, %d)", before, axiom, at)
	} else {
		wantSteps(t, got, ok, steps(t, after), true, "ApplyAxiom(%s, %d, %d)", before, axiom, at)
	}
	checkAxioms(t, term, map[string]int{})
}

func TestAxiomExamples(t *testing.T) {
	for _, e := range []struct {
		axiom  int
		before string
		at     int
		after  string
	}{
		{impl.SwapMerge, "1 key:x @0 |", 3, "@0 1 key:x |"},
		{impl.SwapMerge, "1 key:x @0 | room:", 3, "@0 1 key:x | room:"},
		{impl.SwapMerge, "1 key:x @0 | room:", 4, ""},
		{impl.SwapMerge, "1 key:x @0 |", 2, ""},
		{impl.SwapMerge, "0 1 |", 2, "1 0 |"},
		{impl.SwapMerge, "1 1 || 1 dot: |", 5, "1 dot: 1 1 || |"},
		{impl.SwapMerge, "1 dot: @0 ||", 3, ""},
		{impl.SwapMerge, "@1 @0 1 | @2 | ||", 5, "@1 @2 @0 1 | | ||"},
		{impl.ShiftMerge, "@0 @1 | @2 |", 4, "@0 @1 @2 | |"},
		{impl.ShiftMerge, "@0 @1 | @2 |", 2, ""},
		{impl.ShiftMerge, "@0 @1 @2 | |", 4, ""},
		{impl.ShiftMerge, "@0 @1 || @2 |", 4, ""},
		{impl.ShiftMerge, "@0 @1 | @2 ||", 4, ""},
		{impl.ShiftMerge, "@0 @1 | room: @2 |", 5, ""},
		{impl.ShiftMerge, "1 dot: room: 1 key:x | @0 | +y", 7, "1 dot: room: 1 key:x @0 | | +y"},
		{impl.ShiftMerge, "0 1 1 || | 1 1 || |", 8, "0 1 1 || 1 1 || | |"},
		{impl.ShiftMerge, "0 1 1 || | 1 1 || 1 || |", 10, ""},
		{impl.ShiftMerge, "1 1 || 1 1 || | 1 1 || |", 10, "1 1 || 1 1 || 1 1 || | |"},
		{impl.ShiftMerge, "1 1 || 0 | 1 1 || 1 || |", 10, "1 1 || 0 1 1 || 1 || | |"},
		{impl.DropOne, "1 key:x 1 |", 3, "1 key:x"},
		{impl.DropOne, "1 1 |", 2, "1"},
		{impl.DropOne, "1 1 | 1 | room:", 4, "1 1 | room:"},
		{impl.DropOne, "1 1 | 1 | room:", 2, "1 1 | room:"},
		{impl.DropOne, "0 1 |", 2, ""},
		{impl.DropOne, "1 1 || 1 |", 4, ""},
		{impl.DropOne, "1 0 |", 2, ""},
		{impl.DropOne, "1 @0 |", 2, ""},
		{impl.DropOne, "@0 1 dot: |", 3, ""},
		{impl.DropOne, "@0 1 ||", 2, ""},
		{impl.DropOne, "@0 1 +x |", 3, ""},
		{impl.DropOne, "0 0 || 0 | 1 |", 6, "0 0 || 0 |"},
		{impl.ShiftSide, "@0 @1 || @2 ||", 4, "@0 @1 @2 || ||"},
		{impl.ShiftSide, "@0 @1 || @2 || @3 ||", 6, "@0 @1 || @2 @3 || ||"},
		{impl.ShiftSide, "@0 @1 || @2 || @3 ||", 4, "@0 @1 @2 || || @3 ||"},
		{impl.ShiftSide, "@0 @1 | @2 ||", 4, ""},
		{impl.ShiftSide, "@0 @1 || @2 |", 4, ""},
		{impl.ShiftSide, "@0 @1 @2 || ||", 4, ""},
		{impl.ShiftSide, "0 +x 1 key:x || 0 ||", 6, "0 +x 1 key:x 0 || ||"},
		{impl.SwapClose, "1 door:x,y /x /y", 3, "1 door:x,y /y /x"},
		{impl.SwapClose, "1 door:x,y /y /x room:", 3, "1 door:x,y /x /y room:"},
		{impl.SwapClose, "1 door:x,y /x /y", 2, ""},
		{impl.SwapClose, "1 door:x,y /x 1 | /y", 5, ""},
		{impl.SwapClose, "1 key:x /x +x /x", 4, ""},
		{impl.SwapClose, "1 pen:x,y,z /x /y /z", 4, "1 pen:x,y,z /x /z /y"},
		{impl.LiftNode, "1 key:x /x room:", 3, "1 key:x room: /x"},
		{impl.LiftNode, "1 key:x /x key:y", 3, "1 key:x key:y /x"},
		{impl.LiftNode, "1 key:x /x key:x", 3, ""},
		{impl.LiftNode, "1 key:x /x door:y,x", 3, ""},
		{impl.LiftNode, "1 key:x /x door:x,y", 3, ""},
		{impl.LiftNode, "1 key:x room:", 2, ""},
		{impl.LiftNode, "1 key:x +y room:", 3, ""},
		{impl.LiftNode, "1 +x /x dot: +x", 3, "1 +x dot: /x +x"},
		{impl.LiftNode, "1 +x /x pen:y,y,x", 3, ""},
		{impl.LiftNode, "1 door:x,y /x /y room: @0 ||", 4, "1 door:x,y /x room: /y @0 ||"},
		{impl.LiftNode, "1 key:x /x 1 | room:", 5, ""},
		{impl.LiftSide, "1 key:x /x @0 ||", 4, "1 key:x @0 || /x"},
		{impl.LiftSide, "1 key:x /x 1 key:y ||", 5, "1 key:x 1 key:y || /x"},
		{impl.LiftSide, "1 key:x /x 1 key:x ||", 5, ""},
		{impl.LiftSide, "1 key:x /x 0 +x ||", 5, ""},
		{impl.LiftSide, "1 key:x /x 1 key:x /x ||", 6, "1 key:x 1 key:x /x || /x"},
		{impl.LiftSide, "1 key:x 1 key:y /y ||", 5, ""},
		{impl.LiftSide, "1 key:x /x @0 |", 4, ""},
		{impl.LiftSide, "@0 1 key:x /x ||", 4, ""},
		{impl.LiftSide, "1 key:x /x 1 || @0 || room: 0", 4, ""},
		{impl.LiftSide, "1 key:x /x 1 || @0 ||", 4, "1 key:x 1 || /x @0 ||"},
	} {
		wantApplied(t, e.axiom, e.before, e.at, e.after)
	}
}

func TestAxiomsWithTooManyNames(t *testing.T) {
	names := named("+", 15)
	for _, e := range []struct {
		axiom         int
		before, after string
	}{
		{impl.LiftNode, "1" + names + " +x /x key:p", "1" + names + " +x key:p /x"},
		{impl.LiftNode, "1" + names + " +x /x key:a", "1" + names + " +x key:a /x"},
		{impl.LiftSide, "0" + names + " +x /x 0 +p ||", "0" + names + " +x 0 +p || /x"},
		{impl.LiftSide, "0" + names + " +x /x 0 +a ||", "0" + names + " +x 0 +a || /x"},
	} {
		after := e.after
		if strings.Contains(e.before, "p") {
			// The closed name would be the seventeenth one.
			after = ""
		}
		wantApplied(t, e.axiom, e.before, len(strings.Fields(e.before))-1, after)
	}
}

func TestAxiomsOfRandomTerms(t *testing.T) {
	t.Parallel()
	counts := map[string]int{}
	for _, term := range slices.Concat(validTerms(71, 500, 14), closedTerms(72, 500, 14), validTerms(73, 25, 45)) {
		checkAxioms(t, term, counts)
	}
	for axiom := impl.SwapMerge; axiom <= impl.LiftSide; axiom++ {
		wantAtLeast(t, counts, 40, fmt.Sprintf("axiom %d true", axiom), fmt.Sprintf("axiom %d false", axiom))
	}
	for _, axiom := range []int{0, 8} {
		if counts[fmt.Sprintf("axiom %d true", axiom)] > 0 {
			t.Error("an axiom:", axiom)
		}
	}
}

func TestAxiomsAndStepsThatAreNone(t *testing.T) {
	for _, text := range []string{"1 1 | 1 |", "@0 @1 || @2 ||", "1 door:x,y /x /y room: 1 ||"} {
		term := steps(t, text)
		for _, n := range append(extremes(), math.MinInt/2, math.MaxInt/2) {
			for axiom := impl.SwapMerge; axiom <= impl.LiftSide; axiom++ {
				want, possible := appliedAs(term, axiom, n)
				got, ok := impl.ApplyAxiom(house(), term, axiom, n)
				wantSteps(t, got, ok, want, possible, "ApplyAxiom(%s, %d, %d)", text, axiom, n)
			}
			if n < impl.SwapMerge || n > impl.LiftSide {
				got, ok := impl.ApplyAxiom(house(), term, n, len(term)-1)
				wantSteps(t, got, ok, nil, false, "ApplyAxiom(%s, %d)", text, n)
			}
		}
	}
}

func checkParsed(t *testing.T, text string) bool {
	t.Helper()
	want, possible := termOfText(text)
	got, ok := impl.ParseTerm(house(), text)
	wantSteps(t, got, ok, want, possible, "ParseTerm(%q)", text)
	return ok
}

func TestParseChangedTerms(t *testing.T) {
	t.Parallel()
	r, counts := rand.New(rand.NewSource(74)), map[string]int{}
	for _, term := range append(validTerms(75, 150, 8), validTerms(76, 20, 30)...) {
		text := stepWords(term)
		counts[fmt.Sprint(checkParsed(t, text))]++
		for i := range len(text) + 1 {
			for _, c := range []string{" ", "0", "1", "@", ":", "|", "/", "+", ",", "x", "\x00", pick(r, []string{"-", "9", "X", "\n", "\t", "é"})} {
				counts[fmt.Sprint(checkParsed(t, text[:i]+c+text[i:]))]++
				if i < len(text) {
					counts[fmt.Sprint(checkParsed(t, text[:i]+c+text[i+1:]))]++
				}
			}
			if i < len(text) {
				counts[fmt.Sprint(checkParsed(t, text[:i]+text[i+1:]))]++
			}
		}
	}
	wantAtLeast(t, counts, 500, "true", "false")
}

func TestParseTermFails(t *testing.T) {
	for _, text := range []string{
		"", " ", "1 ", " 1", "1  room:", "1\troom:", "1 room:\n", "2", "00", "01", "10", "|||", "| |", "@", "@00", "@-0", "@+0", "@ 0", "@a", "@01", "@1", "@4", "@0 @0 |", "@9999999999999999999",
		"1 room", "1 room::", "1 room:x", "1 room:,", "1 key", "1 key:", "1 key:,", "1 key:x,", "1 key:,x", "1 key:x,y", "1 key:x:", "1 key::x", "1 key: x", "1 door:x", "1 door:x,,y", "1 door:x;y", "1 :x", "1 :", "1 Key:x", "1 keys:x", "1 ke:x", "1 key:X", "1 key:xxxxx", "1 pen:x,y",
		"1 +", "1 /", "1 + x", "1 +x,y", "1 +x +x", "1 /x", "1 key:x /", "1 key:x /x,x", "1 key:x //x", "1 ++x", "1 +X", "1 +aaaaa", "1 1", "1 |", "||", "1 1 |\x00", "0 room:", "@0 dot:", "1 key:x @0 | ", "1 key:x  @0 |",
		strings.Repeat("a", 100000), strings.Repeat(" ", 4000), strings.Repeat("1 ", 1000000), chained("1", 29, "1 |") + " +x /x", chained("1", 2000, "1 |"),
	} {
		if checkParsed(t, text) {
			t.Errorf("ParseTerm(%.80q) does not fail", text)
		}
	}
	for _, text := range []string{"0", "1", "@0", "1 room:", "1 pen:zzzz,a,zzzz", chained("1", 29, "1 |") + " +x"} {
		if !checkParsed(t, text) {
			t.Errorf("ParseTerm(%q) fails", text)
		}
	}
}

func TestTheLongestTexts(t *testing.T) {
	text := chained("1 pen:zzzz,zzzz,zzzz", 7, "1 pen:zzzz,zzzz,zzzz |")
	for _, name := range namesUpTo(8) {
		text += " +" + name
	}
	for _, name := range namesUpTo(8) {
		text += " /" + name
	}
	text = chained(text, 1, "+yyyy +xxxx +wwww +vvvv +uuuu +tttt +ssss +rrrr +qqqq +pppp +oooo +nnnn +mmmm +llll +kkkk 0 || 0 || 0 ||")
	if words := len(strings.Fields(text)); words != 60 || len(text) < 370 || !checkParsed(t, text) {
		t.Errorf("a text of %d words and %d bytes", words, len(text))
	}
	if !checkTerm(t, steps(t, text)) || checkParsed(t, text+" +abcd") || checkParsed(t, text+" ") {
		t.Error("a term, or not, around", text)
	}
}

func TestTermsOverTheirSignature(t *testing.T) {
	for _, e := range []struct {
		sig  []impl.Control
		text string
		want bool
	}{
		{ionControls(), "1 k:x", true}, {ionControls(), "1 key:x", false}, {house(), "1 k:x", false},
		{house()[:2], "1 key:x", true}, {house()[:1], "1 key:x", false}, {house()[1:], "1 key:x", true}, {house()[1:], "1 room:", false},
		{[]impl.Control{{Name: "zzzz", Ports: 3, Kind: impl.KindAtomic}}, "1 zzzz:zzzz,zzzz,zzzz", true},
	} {
		term, ok := impl.ParseTerm(e.sig, e.text)
		text, fine := impl.TermText(e.sig, term)
		if ok != e.want || fine != e.want || e.want && text != e.text || !e.want && (len(term) > 0 || text != "") {
			t.Errorf("ParseTerm(%v, %s) = %v, %v with the text %q", e.sig, e.text, term, ok, text)
		}
	}
}

func TestNormalTermExamples(t *testing.T) {
	for text, want := range map[string]string{
		"0":                                   "0",
		"0 0 ||":                              "0",
		"0 0 |":                               "1",
		"@0 1 |":                              "@0",
		"@0 1 key:x |":                        "1 key:x @0 |",
		"1 key:x 1 room: |":                   "1 room: 1 key:x |",
		"1 room: 1 key:x room: |":             "1 key:x room: 1 room: |",
		"1 key:x room: 1 room: |":             "1 key:x room: 1 room: |",
		"1 key:x /x":                          "1 key:a /a",
		"1 door:q,p /p /q":                    "1 door:a,b /a /b",
		"1 key:x /x 1 key:a ||":               "1 key:b 1 key:a || /b",
		"1 +x /x key:a":                       "1 key:a +b /b",
		"0 +x /x +y":                          "0 +a +y /a",
		"0 1 || 1 || 1 || 1 ||":               "1 1 || 1 || 1 ||",
		"1 +x +a key:x /x":                    "1 key:b +a /b",
		"0 +x /x" + named("+", 16):            "",
		"0 +x /x" + named("+", 15):            "0 +p" + named("+", 15) + " /p",
		chained("0", 8, "+x /x"):              "0" + named("+", 8) + named("/", 8),
		chained("0", 8, "+x /x") + " +i":      "0" + named("+", 8) + " +i" + named("/", 8),
		"1 +a /a" + named("+", 15) + " key:p": "",
	} {
		term, ok := impl.NormalTerm(house(), steps(t, text))
		if want == "" {
			wantSteps(t, term, ok, nil, false, "NormalTerm(%s)", text)
			continue
		}
		wantSteps(t, term, ok, steps(t, want), true, "NormalTerm(%s)", text)
	}
}

func TestNormalTerms(t *testing.T) {
	counts := map[string]int{}
	for _, term := range append(validTerms(77, 900, 14), validTerms(78, 100, 26)...) {
		value, _ := valueAs(term)
		if len(value.Nodes) > 5 {
			continue
		}
		_, _, form := canonicalAs(value)
		want, possible := termAs(form)
		got, ok := impl.NormalTerm(house(), term)
		if !possible {
			wantSteps(t, got, ok, nil, false, "NormalTerm(%v)", term)
			counts["none"]++
			continue
		}
		wantSteps(t, got, ok, steps(t, want), true, "NormalTerm(%v)", term)
		counts["some"]++
	}
	wantAtLeast(t, counts, 500, "some")
}

func TestSameTermExamples(t *testing.T) {
	for _, e := range []struct {
		t, u string
		want bool
	}{
		{"0", "0", true}, {"0", "1", false}, {"1", "1 1 |", true}, {"1", "1 1 ||", false}, {"0", "0 0 ||", true}, {"0", "0 +x", false}, {"0", "0 +x /x", false},
		{"0 +x", "0 +y", false}, {"0 +x /x", "0 +y /y", true}, {"0 +x +y", "0 +y +x", true},
		{"1 key:x @0 |", "@0 1 key:x |", true}, {"1 key:x @0 ||", "@0 1 key:x ||", false}, {"@0 @1 |", "@1 @0 |", true}, {"@0 @1 ||", "@1 @0 ||", false},
		{"1 room: @0 |", "@0 room: 1 |", false}, {"@0 room: @1 |", "@1 room: @0 |", false},
		{"1 door:x,y", "1 door:y,x", false}, {"1 door:x,y /x", "1 door:y,x /x", false}, {"1 door:x,y /x /y", "1 door:y,x /x /y", true}, {"1 door:x,x /x", "1 door:x,y /x /y", false},
		{"1 key:x 1 key:x || /x", "1 key:x /x 1 key:x /x ||", false}, {"1 key:x /x 1 key:x ||", "1 key:y /y 1 key:x ||", true}, {"1 key:x /x 1 key:x ||", "1 key:x 1 key:y /y ||", false},
		{"1 room: 1 dot: |", "1 dot: 1 room: |", true}, {"1 room: 1 dot: |", "1 dot: room:", false},
	} {
		for _, pair := range [][2]string{{e.t, e.u}, {e.u, e.t}} {
			same, ok := impl.SameTerms(house(), steps(t, pair[0]), steps(t, pair[1]))
			wantReport(t, same, ok, e.want, "SameTerms(%s, %s)", pair[0], pair[1])
		}
	}
}

func TestSameTermsNeedTwoTerms(t *testing.T) {
	good := steps(t, "1 key:x @0 |")
	for _, text := range []string{"1 1", "@1", "|", "/x", "@0 dot:", "0 room:"} {
		bad := steps(t, text)
		for _, pair := range [][2][]impl.TermStep{{good, bad}, {bad, good}, {bad, bad}} {
			if same, ok := impl.SameTerms(house(), pair[0], pair[1]); same || ok {
				t.Errorf("SameTerms(%v, %v) = %v, %v", pair[0], pair[1], same, ok)
			}
		}
	}
}

// termCalls calls each function of the chapter that takes a term, and tells all results; IsTerm
// comes last.
func termCalls(sig []impl.Control, term []impl.TermStep, other []impl.TermStep, axiom int, at int) [][]any {
	all := [][]any{}
	tell := func(results ...any) { all = append(all, results) }
	value, ok := impl.TermValue(sig, term)
	tell(value, ok)
	parts, ok := impl.TermParts(sig, term)
	tell(parts, ok)
	depth, ok := impl.TermDepth(sig, term)
	tell(depth, ok)
	normal, ok := impl.NormalTerm(sig, term)
	tell(normal, ok)
	same, ok := impl.SameTerms(sig, term, other)
	tell(same, ok)
	applied, ok := impl.ApplyAxiom(sig, term, axiom, at)
	tell(applied, ok)
	text, ok := impl.TermText(sig, term)
	tell(text, ok)
	return all
}

func TestTermsFailForInvalidArguments(t *testing.T) {
	for _, text := range []string{"0", "1 1 |", "1 key:x /x", "@0 @1 |"} {
		term := steps(t, text)
		for _, sig := range badSignatures() {
			wantFailures(t, termCalls(sig, term, term, impl.SwapMerge, len(term)-1), "%s over %v", text, sig)
			is, ok := impl.IsTerm(sig, term)
			parsed, parsedOK := impl.ParseTerm(sig, text)
			if is || ok || parsedOK || len(parsed) > 0 {
				t.Fatalf("IsTerm(%v, %s) = %v, %v, and ParseTerm = %v, %v", sig, text, is, ok, parsed, parsedOK)
			}
		}
	}
	vast := make([]impl.Control, 1000000)
	if parsed, ok := impl.ParseTerm(vast, strings.Repeat("b:x ", 900)); ok || len(parsed) > 0 {
		t.Error("ParseTerm over no signature =", parsed, ok)
	}
	for _, sig := range badSignatures() {
		for _, b := range []impl.Bigraph{{}, {Roots: 1}, roomsIn(2)} {
			term, ok := impl.TermOf(sig, b)
			wantSteps(t, term, ok, nil, false, "TermOf(%v, %v)", sig, b)
		}
	}
	term, ok := impl.TermOf(house()[:4], twoRooms())
	wantSteps(t, term, ok, nil, false, "TermOf two rooms over another signature")
}

func TestTermsThatAreNotValidFailEverywhere(t *testing.T) {
	t.Parallel()
	r := rand.New(rand.NewSource(79))
	for _, term := range validTerms(80, 300, 12) {
		for _, other := range changedTerms(r, term) {
			if _, ok := valueAs(other); !ok {
				at := r.Intn(len(other) + 1)
				wantFailures(t, termCalls(house(), other, term, 1+r.Intn(7), at), "%v", other)
				wantFailures(t, termCalls(house(), other, other, 1+r.Intn(7), at), "%v", other)
			}
		}
	}
}

func TestResultsOfTermsAreNew(t *testing.T) {
	t.Parallel()
	r := rand.New(rand.NewSource(81))
	for _, term := range append(validTerms(82, 400, 12), steps(t, "1 door:x,y /x /y"), steps(t, "@0")) {
		axiom, at := 1+r.Intn(7), len(term)-1
		for try := range 7 * len(term) {
			if _, ok := appliedAs(term, 1+try%7, try/7); ok {
				axiom, at = 1+try%7, try/7
			}
		}
		sig, first, second := house(), cloneOfSteps(term), cloneOfSteps(term)
		calls := func() [][]any { return termCalls(sig, first, second, axiom, at) }
		wantNewResults(t, calls(), calls)
		if !isSameTerm(first, term) || !isSameTerm(second, term) || !slices.Equal(sig, house()) {
			t.Fatalf("a call has changed %v to %v and %v, or the results share their memory", term, first, second)
		}
		value, _ := impl.TermValue(sig, first)
		checkOwnLists(t, value)
		text, _ := impl.TermText(sig, first)
		parsed, _ := impl.ParseTerm(sig, text)
		checkOwnNames(t, parsed)
		normal, _ := impl.NormalTerm(sig, first)
		checkOwnNames(t, normal)
		applied, _ := impl.ApplyAxiom(sig, first, axiom, at)
		checkOwnNames(t, applied)
	}
}

// checkOwnNames puts a mark into the names of each step in turn, and looks at all others.
func checkOwnNames(t *testing.T, term []impl.TermStep) {
	t.Helper()
	for k := range term {
		kept := cloneOfSteps(term)
		names := term[k].Names
		_ = append(names[:len(names):cap(names)], slices.Repeat([]string{"mark"}, cap(names)-len(names))...)
		for i := range names {
			names[i] = "mark"
			kept[k].Names[i] = "mark"
		}
		if !isSameTerm(term, kept) {
			t.Fatalf("the names of the step %d are also those of another: %v; want %v", k, term, kept)
		}
	}
}

func TestTermsOfBigraphsAreNew(t *testing.T) {
	for _, b := range append(sampleBigraphs()[:150], twoRooms(), read(t, keyOfX)) {
		b = withoutInner(b)
		sig, kept := house(), cloneOf(b)
		calls := func() [][]any {
			term, ok := impl.TermOf(sig, b)
			return [][]any{{term, ok}}
		}
		wantNewResults(t, calls(), calls)
		if !isSame(b, kept) || !slices.Equal(sig, house()) {
			t.Fatalf("TermOf has changed %v to %v, or the result shares its memory", kept, b)
		}
		term, _ := impl.TermOf(sig, b)
		checkOwnNames(t, term)
	}
}

func TestLimitsOfTerms(t *testing.T) {
	if impl.MaxTerm != 60 {
		t.Error("MaxTerm =", impl.MaxTerm)
	}
	kinds := []int{impl.TermEmpty, impl.TermOne, impl.TermSite, impl.TermNode, impl.TermMerge, impl.TermSide, impl.TermClose, impl.TermName}
	axioms := []int{impl.SwapMerge, impl.ShiftMerge, impl.DropOne, impl.ShiftSide, impl.SwapClose, impl.LiftNode, impl.LiftSide}
	if !slices.Equal(kinds, numbersFrom(0, 8)) || !slices.Equal(axioms, numbersFrom(1, 7)) {
		t.Error("the Kinds are", kinds, "and the axioms", axioms)
	}
}
