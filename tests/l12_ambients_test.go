package tests

import (
	"fmt"
	"math"
	"math/rand"
	"slices"
	"strings"
	"testing"

	"loop.example/g01082/impl"
)

// processIn is the process in preorder with a text.
func processIn(t *testing.T, text string) impl.Process {
	t.Helper()
	p, ok := processOfText(text)
	if !ok {
		t.Fatalf("%q is no text of a process", text)
	}
	return p
}

func wantProcess(t *testing.T, got impl.Process, ok bool, want impl.Process, possible bool, call string, args ...any) {
	t.Helper()
	if !possible {
		want = impl.Process{}
	}
	if ok != possible || !isSameProcess(got, want) {
		t.Fatalf("%.600s = %v, %v; want %v, %v", fmt.Sprintf(call, args...), got, ok, want, possible)
	}
}

// wantProcesses checks a list of processes in preorder by their texts.
func wantProcesses(t *testing.T, got []impl.Process, ok bool, texts []string, possible bool, call string, args ...any) {
	t.Helper()
	want := []impl.Process{}
	for _, text := range texts {
		want = append(want, processIn(t, text))
	}
	if ok != possible || !slices.EqualFunc(got, want, isSameProcess) {
		t.Fatalf("%.600s = %v, %v; want %q, %v", fmt.Sprintf(call, args...), got, ok, texts, possible)
	}
}

func wantAmbSteps(t *testing.T, got []impl.AmbStep, ok bool, want []impl.AmbStep, call string, args ...any) {
	t.Helper()
	if !ok || !slices.Equal(got, want) {
		t.Fatalf("%.600s = %v, %v; want %v", fmt.Sprintf(call, args...), got, ok, want)
	}
}

// callsOfProcess calls each function of the chapter that takes a process, but for IsProcess.
func callsOfProcess(p impl.Process, node int, s impl.AmbStep, name string) [][]any {
	text, one := impl.ProcessText(p)
	form, two := impl.CanonicalProcess(p)
	first, three := impl.AreCongruent(p, impl.Process{})
	second, four := impl.AreCongruent(impl.Process{}, p)
	idle, five := impl.IsIdleNode(p, node)
	steps, six := impl.AmbSteps(p)
	made, seven := impl.MakeAmbStep(p, s)
	results, eight := impl.AmbResults(p)
	shows, nine := impl.ShowsAmbient(p, name)
	list, ten := impl.ShortestShow(p, name)
	code, eleven := impl.EncodeProcess(p)
	return [][]any{{text, one}, {form, two}, {first, three}, {second, four}, {idle, five}, {steps, six}, {made, seven}, {results, eight}, {shows, nine}, {list, ten}, {code, eleven}}
}

// checkProcess checks all that is said of a valid process alone, and returns its steps.
func checkProcess(t *testing.T, p impl.Process) []impl.AmbStep {
	t.Helper()
	if !impl.IsProcess(p) {
		t.Fatalf("IsProcess(%v) = false", p)
	}
	text, ok := impl.ProcessText(p)
	wantText(t, text, ok, processText(p), true, "ProcessText(%v)", p)
	read, ok := impl.ParseProcess(text)
	wantProcess(t, read, ok, processIn(t, text), true, "ParseProcess(%q)", text)
	if isSameProcess(read, p) != isPreorderAs(p) {
		t.Fatalf("ParseProcess(%q) = %v, which is another process than %v", text, read, p)
	}
	form, ok := impl.CanonicalProcess(p)
	if !ok || !isCanonicalFor(p, form) {
		t.Fatalf("CanonicalProcess(%v) = %v, %v", p, form, ok)
	}
	for _, node := range append(numbersFrom(-2, len(p.Nodes)+4), math.MinInt, math.MaxInt) {
		idle, ok := impl.IsIdleNode(p, node)
		is := staysIn([]int{node}, 0, len(p.Nodes)-1)
		if ok != is || idle != (is && isIdleAs(p, node)) {
			t.Fatalf("IsIdleNode(%v, %d) = %v, %v", p, node, idle, ok)
		}
	}
	b, ok := impl.EncodeProcess(p)
	want, _ := bigraphOf(controlsOfAmbients(), encodingWords(p))
	wantResult(t, b, ok, want, true, "EncodeProcess(%v)", p)
	again, ok := impl.DecodeProcess(b)
	wantProcess(t, again, ok, p, true, "DecodeProcess(%v)", b)
	return checkAmbSteps(t, p)
}

// checkAmbSteps checks the steps and the results of a valid process.
func checkAmbSteps(t *testing.T, p impl.Process) []impl.AmbStep {
	t.Helper()
	all := stepsAs(p)
	steps, ok := impl.AmbSteps(p)
	wantAmbSteps(t, steps, ok, all, "AmbSteps(%v)", p)
	for _, s := range all {
		checkMade(t, p, s)
	}
	results, ok := impl.AmbResults(p)
	wantProcesses(t, results, ok, resultsAs(p), true, "AmbResults(%v)", p)
	return steps
}

// checkMade checks a step, which need not be possible, and returns the reasons why it is not.
func checkMade(t *testing.T, p impl.Process, s impl.AmbStep) []string {
	t.Helper()
	faults, want := faultsOfStep(p, s), impl.Process{}
	if len(faults) == 0 {
		want = processIn(t, resultText(p, s))
	}
	got, ok := impl.MakeAmbStep(p, s)
	wantProcess(t, got, ok, want, len(faults) == 0, "MakeAmbStep(%v, %v), with the faults %v,", p, s, faults)
	return faults
}

func checkShows(t *testing.T, p impl.Process, name string) {
	t.Helper()
	shows, ok := impl.ShowsAmbient(p, name)
	wantReport(t, shows, ok, showsAs(p, name), "ShowsAmbient(%v, %q)", p, name)
}

// checkShortest returns how many shortest lists there are.
func checkShortest(t *testing.T, p impl.Process, name string) int {
	t.Helper()
	lists, want := shortestShowsAs(p, name), []string{}
	if len(lists) > 0 {
		want = slices.MinFunc(lists, slices.Compare)
	}
	list, ok := impl.ShortestShow(p, name)
	wantProcesses(t, list, ok, want, len(lists) > 0, "ShortestShow(%v, %q)", p, name)
	return len(lists)
}

func checkCongruent(t *testing.T, p impl.Process, q impl.Process) bool {
	t.Helper()
	want := areCongruentAs(p, q)
	for _, pair := range [][2]impl.Process{{p, q}, {q, p}} {
		are, ok := impl.AreCongruent(pair[0], pair[1])
		wantReport(t, are, ok, want, "AreCongruent(%v, %v)", pair[0], pair[1])
	}
	return want
}

func checkParsedProcess(t *testing.T, s string) bool {
	t.Helper()
	want, possible := processOfText(s)
	p, ok := impl.ParseProcess(s)
	wantProcess(t, p, ok, want, possible, "ParseProcess(%.300q)", s)
	return ok
}

func TestConstantsOfAmbients(t *testing.T) {
	got := []int{impl.AmbPlace, impl.AmbIn, impl.AmbOut, impl.AmbOpen}
	if want := []int{0, 1, 2, 3}; !slices.Equal(got, want) {
		t.Error("the constants are", got)
	}
}

// longProcess has so many nodes, each in the one before it.
func longProcess(nodes int, kind int) impl.Process {
	p := impl.Process{}
	for k := range nodes {
		p.Nodes = append(p.Nodes, impl.AmbNode{Kind: kind, Name: "zzzz", Parent: k - 1})
	}
	return p
}

// wideProcess has so many nodes, all at the top.
func wideProcess(nodes int, kind int) impl.Process {
	p := longProcess(nodes, kind)
	for k := range p.Nodes {
		p.Nodes[k].Parent = -1
	}
	return p
}

// brokenProcesses are processes that are not valid, each for one reason.
func brokenProcesses() []impl.Process {
	list := []impl.Process{longProcess(9, 0), wideProcess(9, 3), wideProcess(10, 0), longProcess(1000000, 0), wideProcess(1000000, 1), {Nodes: make([]impl.AmbNode, 1)}}
	change := func(k int, node impl.AmbNode) {
		q := amb("a@-1 b@0 in:a@1 zzzz@0 out:b@3 open:zz@-1 a@5 b@-1")
		q.Nodes[k] = node
		list = append(list, q)
	}
	for k, node := range amb("a@-1 b@0 in:a@1 zzzz@0 out:b@3 open:zz@-1 a@5 b@-1").Nodes {
		for _, kind := range extremes() {
			if kind < 0 || kind > 3 {
				change(k, impl.AmbNode{Kind: kind, Name: node.Name, Parent: node.Parent})
			}
		}
		for _, name := range badNames() {
			change(k, impl.AmbNode{Kind: node.Kind, Name: name, Parent: node.Parent})
		}
		for _, parent := range extremes() {
			if parent < -1 || parent >= k {
				change(k, impl.AmbNode{Kind: node.Kind, Name: node.Name, Parent: parent})
			}
		}
	}
	return list
}

func TestProcessesThatAreValid(t *testing.T) {
	list := []impl.Process{{}, {Nodes: []impl.AmbNode{}}, amb("a@-1"), amb("a@-1 b@0 in:a@1 zzzz@0 out:b@3 open:zz@-1 a@5 b@-1")}
	for kind := range 4 {
		for nodes := range 9 {
			list = append(list, longProcess(nodes, kind), wideProcess(nodes, kind))
		}
		for _, name := range goodNames() {
			list = append(list, impl.Process{Nodes: []impl.AmbNode{{Kind: kind, Name: name, Parent: -1}}})
		}
	}
	for _, p := range list {
		checkProcess(t, p)
		checkShows(t, p, "zzzz")
		checkShortest(t, p, "zzzz")
	}
}

func TestProcessesThatAreNotValid(t *testing.T) {
	for _, p := range brokenProcesses() {
		if isProcessAs(p) || impl.IsProcess(p) {
			t.Fatalf("IsProcess(%.300v) = true", p)
		}
		for node := range 3 {
			for kind := range 4 {
				wantFailures(t, callsOfProcess(p, node, impl.AmbStep{Kind: kind, Cap: 2, Place: node}, "a"), "%.300v", p)
			}
		}
	}
}

func TestSmallProcesses(t *testing.T) {
	t.Parallel()
	for nodes := range 4 {
		for _, p := range allProcesses(nodes, "a", "b") {
			checkProcess(t, p)
			for _, name := range []string{"a", "b", "ab"} {
				checkShows(t, p, name)
				checkShortest(t, p, name)
			}
			for _, s := range allAmbSteps(nodes) {
				checkMade(t, p, s)
			}
		}
	}
	for _, p := range allProcesses(4, "a") {
		checkProcess(t, p)
		checkShortest(t, p, "a")
	}
}

// allAmbSteps are all AmbSteps with numbers of nodes, and with numbers next to these.
func allAmbSteps(nodes int) []impl.AmbStep {
	list := []impl.AmbStep{}
	for kind := -1; kind <= 4; kind++ {
		for cap := -1; cap <= nodes; cap++ {
			for place := -1; place <= nodes; place++ {
				list = append(list, impl.AmbStep{Kind: kind, Cap: cap, Place: place})
			}
		}
	}
	return list
}

func TestRandomProcesses(t *testing.T) {
	t.Parallel()
	counts := map[string]int{}
	for _, p := range processSamples(331, 4000, 8) {
		steps := checkProcess(t, p)
		for _, s := range steps {
			counts[fmt.Sprint("step ", s.Kind)]++
		}
		results, _ := impl.AmbResults(p)
		counts[fmt.Sprint("fewer results ", len(results) < len(steps))]++
		counts[fmt.Sprint("preorder ", isPreorderAs(p))]++
		for _, s := range allAmbSteps(len(p.Nodes)) {
			if faults := checkMade(t, p, s); len(faults) == 1 {
				counts[fmt.Sprint(s.Kind, " ", faults[0])]++
			}
		}
		for _, name := range placeNames(p) {
			checkShows(t, p, name)
			lists, shows := checkShortest(t, p, name), showsAs(p, name)
			counts[fmt.Sprint("lists ", min(lists, 2), " at once ", shows)]++
		}
	}
	wantAtLeast(t, counts, 200, "step 1", "step 2", "step 3", "fewer results true", "fewer results false", "preorder true", "preorder false")
	wantAtLeast(t, counts, 20, "lists 0 at once false", "lists 1 at once true", "lists 1 at once false", "lists 2 at once false")
	// Each reason alone makes a step impossible. What a step needs of the Place rules out more for a
	// prefix that goes out: its Place is above it, so that it would be idle under a prefix.
	for _, kind := range []string{"1", "2", "3"} {
		for _, fault := range []string{"no node", "idle", "other Name", "other Kind"} {
			wantAtLeast(t, counts, 20, kind+" "+fault)
		}
	}
	wantAtLeast(t, counts, 20, "1 no ambient", "3 no ambient", "1 no sibling", "1 at the top", "1 itself", "2 not the Parent", "2 at the top", "3 no sibling")
}

func TestTextsOfProcesses(t *testing.T) {
	for _, e := range []struct{ words, text string }{
		{"", "0"},
		{"a@-1", "a[0]"},
		{"in:a@-1", "in a.(0)"},
		{"out:a@-1", "out a.(0)"},
		{"open:a@-1", "open a.(0)"},
		{"a@-1 in:b@0 b@-1", "a[in b.(0)]|b[0]"},
		{"b@-1 a@-1", "b[0]|a[0]"},
		{"a@-1 a@-1 a@0", "a[a[0]]|a[0]"},
		{"a@-1 b@-1 c@0 d@1 e@0", "a[c[0]|e[0]]|b[d[0]]"},
		{"open:a@-1 out:b@0 in:c@1 x@2 y@2 z@1 in:w@0", "open a.(out b.(in c.(x[0]|y[0])|z[0])|in w.(0))"},
		{"in@-1 out@0 open@1 in:in@0 out:out@1 open:open@2 amb@-1", "in[out[open[open open.(0)]|out out.(0)]|in in.(0)]|amb[0]"},
		{"zzzz@-1 open:zzzz@0 zzzz@1 open:zzzz@2 zzzz@3 open:zzzz@4 zzzz@5 open:zzzz@6", "zzzz[open zzzz.(zzzz[open zzzz.(zzzz[open zzzz.(zzzz[open zzzz.(0)])])])]"},
		{"a@-1 b@-1 c@-1 d@-1 in:e@-1 in:f@-1 in:g@-1 in:h@-1", "a[0]|b[0]|c[0]|d[0]|in e.(0)|in f.(0)|in g.(0)|in h.(0)"},
	} {
		text, ok := impl.ProcessText(amb(e.words))
		wantText(t, text, ok, e.text, true, "ProcessText(%s)", e.words)
		checkProcess(t, amb(e.words))
	}
}

func TestReadingTextsOfProcesses(t *testing.T) {
	for _, e := range []struct{ text, words string }{
		{"0", ""},
		{"b[0]|a[0]", "b@-1 a@-1"},
		{"a[c[0]|e[0]]|b[d[0]]", "a@-1 c@0 e@0 b@-1 d@3"},
		{"in in.(in[0])|in[in in.(0)]", "in:in@-1 in@0 in@-1 in:in@2"},
		{"open a.(out b.(in c.(x[0]|y[0])|z[0])|in w.(0))", "open:a@-1 out:b@0 in:c@1 x@2 y@2 z@1 in:w@0"},
		{"a[a[a[a[a[a[a[a[0]]]]]]]]", "a@-1 a@0 a@1 a@2 a@3 a@4 a@5 a@6"},
	} {
		p, ok := impl.ParseProcess(e.text)
		wantProcess(t, p, ok, amb(e.words), true, "ParseProcess(%q)", e.text)
	}
}

func TestTextsThatAreNoProcesses(t *testing.T) {
	bad := []string{
		"", " ", "00", "0|0", "0|a[0]", "a[0]|0", "|", "|a[0]", "a[0]|", "a[0]||b[0]", "[0]", "a", "a[]", "a[0", "a0]", "a]0[", "a[0]]", "[a[0]]", "a[[0]]", "a[0)", "a(0)", "a(0]", "(0)", "(a[0])",
		"a [0]", " a[0]", "a[0] ", "a[ 0]", "a[0 ]", "a[0] |b[0]", "a[0]| b[0]", "a[0]b[0]", "a[b]", "a[0b[0]]", "a[b[0]0]", "a[1]", "a[00]", "a[0|b[0]]", "a[b[0]|0]", "a[b[0]|]", "a[|b[0]]",
		"in a.(0", "in a.0)", "in a.()", "in a(0)", "in a.[0]", "in a.(0]", "in a[0]", "in  a.(0)", "ina.(0)", "in a .(0)", "in a. (0)", " in a.(0)", "in a.(0) ", "in a..(0)", "in .(0)", "in.(0)", "in a.((0))", "in a.b[0]", "in a", "in a.", "in a.(", "In a.(0)", "IN a.(0)",
		"amb a.(0)", "amb a[0]", "on a.(0)", "inn a.(0)", "ou a.(0)", "opens a.(0)", "a a.(0)", "in in a.(0)", "in a b.(0)", "in aaaaa.(0)", "aaaaa[0]", "A[0]", "a1[0]", "é[0]", "in é.(0)", "a[0]\n", "\na[0]", "a[0\x00]", "\x00", "a\xff[0]", "\xff", "0\xff", "a[0]|\xff", "a.[0]", ".a[0]", "a.(0)",
		"]", ")", "][", "a[0]]|b[0]", "a[0])|b[0]", "a[b[0]|in c.(0)", "a[b[0]|in c.(0)])", "a[in b.(0])", "in a.(b[0)]", "a[b[c[0]]", "a[b[c[0]]]]", "a,b[0]", "a[0],b[0]", "0[0]", "0.(0)", "0[", "0]", "-1", "-", "a[-]",
	}
	for _, s := range bad {
		if checkParsedProcess(t, s) {
			t.Errorf("ParseProcess(%q) does not fail", s)
		}
	}
	for _, s := range []string{strings.Repeat("a[", 9) + "0" + strings.Repeat("]", 9), strings.Repeat("a[0]|", 8) + "a[0]", strings.Repeat("in a.(0)|", 8) + "in a.(0)", strings.Repeat("in a.(", 9) + "0" + strings.Repeat(")", 9)} {
		if checkParsedProcess(t, s) {
			t.Errorf("ParseProcess(%q) with nine nodes does not fail", s)
		}
	}
}

func TestChangedTextsOfProcesses(t *testing.T) {
	t.Parallel()
	r, counts, marks := rand.New(rand.NewSource(332)), map[bool]int{}, "0|[]().iabo \x00\xff"
	for _, p := range processSamples(333, 400, 8) {
		text := processText(p)
		for i := range text {
			c := string(marks[r.Intn(len(marks))])
			for _, s := range []string{text[:i] + text[i+1:], text[:i] + c + text[i+1:], text[:i] + c + text[i:], text[:i] + text[i:i+1] + text[i:], text[:i], text[i:]} {
				counts[checkParsedProcess(t, s)]++
			}
		}
		checkParsedProcess(t, text+text)
		checkParsedProcess(t, text+"|"+text)
	}
	if counts[true] < 500 || counts[false] < 5000 {
		t.Error("too few samples:", counts)
	}
}

func TestShortStringsAsProcesses(t *testing.T) {
	t.Parallel()
	for _, s := range wordsOver("a0[]|", 7) {
		checkParsedProcess(t, s)
	}
	for _, s := range wordsOver("a0[]().| ", 4) {
		checkParsedProcess(t, s)
		checkParsedProcess(t, "in a.("+s)
		checkParsedProcess(t, "in "+s+"0)")
		checkParsedProcess(t, "a["+s+"in b.(0)]")
	}
}

func TestCanonicalProcesses(t *testing.T) {
	for _, e := range []struct{ words, text string }{
		{"", "0"},
		{"b@-1 a@-1", "a[0]|b[0]"},
		{"a@-1 b@-1", "a[0]|b[0]"},
		{"b@-1 a@0 b@-1", "b[0]|b[a[0]]"},
		{"a@-1 a@-1 a@1 a@-1", "a[0]|a[0]|a[a[0]]"},
		{"out:a@-1 open:a@-1 in:a@-1 ina@-1 in@-1", "in a.(0)|in[0]|ina[0]|open a.(0)|out a.(0)"},
		{"a@-1 b@-1 c@1 d@0 b@0 a@1", "a[b[0]|d[0]]|b[a[0]|c[0]]"},
		{"in:b@-1 b@0 a@0", "in b.(a[0]|b[0])"},
		{"ab@-1 a@-1 abc@-1 a@1", "a[a[0]]|ab[0]|abc[0]"},
		// Texts with more in them need not be greater: `]` comes before `a`, and `0` before all names.
		{"a@-1 b@0 a@-1 b@2 b@3", "a[b[0]]|a[b[b[0]]]"},
		{"a@-1 b@0 c@0 a@-1 b@3 a@4", "a[b[0]|c[0]]|a[b[a[0]]]"},
		{"a@-1 z@0 a@-1 z@2 a@2", "a[a[0]|z[0]]|a[z[0]]"},
		// What is in a node is put in order before the node is compared with others.
		{"x@-1 b@0 a@0 x@-1 a@3 c@3", "x[a[0]|b[0]]|x[a[0]|c[0]]"},
		{"x@-1 c@0 a@0 x@-1 b@3 a@3", "x[a[0]|b[0]]|x[a[0]|c[0]]"},
	} {
		form, ok := impl.CanonicalProcess(amb(e.words))
		wantProcess(t, form, ok, processIn(t, e.text), true, "CanonicalProcess(%s)", e.words)
	}
}

func TestOneOrderOfNodesIsCanonical(t *testing.T) {
	t.Parallel()
	list := append(processSamples(334, 250, 5), allProcesses(3, "a", "b")...)
	for _, p := range list {
		forms := map[string]bool{}
		for _, order := range ordersOf(len(p.Nodes)) {
			q := orderedBy(p, order)
			if isProcessAs(q) && isPreorderAs(q) && neverDescends(q) {
				forms[fmt.Sprint(q)] = true
			}
		}
		form, ok := impl.CanonicalProcess(p)
		if !ok || len(forms) != 1 || !forms[fmt.Sprint(form)] {
			t.Fatalf("CanonicalProcess(%v) = %v, %v; want %v", p, form, ok, forms)
		}
	}
}

func TestCongruentProcesses(t *testing.T) {
	for _, e := range []struct {
		p, q string
		are  bool
	}{
		{"", "", true},
		{"", "a@-1", false},
		{"a@-1", "a@-1", true},
		{"a@-1", "b@-1", false},
		{"a@-1", "in:a@-1", false},
		{"in:a@-1", "out:a@-1", false},
		{"a@-1 b@-1", "b@-1 a@-1", true},
		{"a@-1 b@-1", "a@-1 b@0", false},
		{"a@-1 a@0", "a@-1 a@-1", false},
		{"a@-1 a@-1", "a@-1", false},
		{"a@-1 a@-1 b@-1", "a@-1 b@-1 b@-1", false},
		{"a@-1 a@-1 b@0", "a@-1 a@-1 b@1", true},
		{"a@-1 a@-1 b@0 c@1", "a@-1 a@-1 b@0 c@0", false},
		{"a@-1 b@0 a@-1 c@2", "a@-1 a@-1 c@0 b@1", true},
		{"a@-1 b@0 a@-1 c@2", "a@-1 a@-1 b@0 d@1", false},
		{"a@-1 b@0 c@1", "a@-1 b@0 c@0", false},
		{"a@-1 b@0 c@1 d@0", "a@-1 d@0 b@0 c@2", true},
		{"in:a@-1 b@0 c@-1 d@2", "c@-1 d@0 in:a@-1 b@2", true},
		// Nodes with the same text, or with the same nodes in all, that are in different nodes.
		{"a@-1 b@-1 x@0 x@1 y@2 z@3", "a@-1 b@-1 x@0 x@1 z@2 y@3", false},
		{"a@-1 a@-1 x@0 x@1 y@2 z@3", "a@-1 a@-1 x@0 x@1 z@2 y@3", true},
	} {
		if are := checkCongruent(t, amb(e.p), amb(e.q)); are != e.are {
			t.Errorf("%s and %s are congruent: %v", e.p, e.q, are)
		}
	}
}

func TestCongruentSamples(t *testing.T) {
	t.Parallel()
	r, counts := rand.New(rand.NewSource(335)), map[string]int{}
	for _, p := range processSamples(336, 1200, 8) {
		q := shuffledProcess(r, p)
		if !checkCongruent(t, p, q) {
			t.Fatalf("%v and %v are congruent", p, q)
		}
		counts[fmt.Sprint("same ", isSameProcess(p, q))]++
		for _, other := range changedProcesses(p) {
			counts[fmt.Sprint("changed ", checkCongruent(t, q, other))]++
		}
	}
	wantAtLeast(t, counts, 50, "same true", "same false", "changed true", "changed false")
	small := allProcesses(2, "a", "b")
	for _, p := range small {
		for _, q := range small {
			checkCongruent(t, p, q)
		}
	}
}

func TestCongruenceNeedsTwoProcesses(t *testing.T) {
	good := amb("a@-1 in:b@0")
	for _, bad := range brokenProcesses() {
		first, one := impl.AreCongruent(good, bad)
		second, two := impl.AreCongruent(bad, good)
		third, three := impl.AreCongruent(bad, bad)
		wantFailures(t, [][]any{{first, one}, {second, two}, {third, three}}, "AreCongruent of %.300v", bad)
	}
}

func TestIdleNodes(t *testing.T) {
	p := amb("a@-1 in:b@0 c@1 d@2 out:e@3 f@-1 open:g@-1 h@6")
	for node, want := range []bool{false, false, true, true, true, false, false, true} {
		idle, ok := impl.IsIdleNode(p, node)
		wantReport(t, idle, ok, want, "IsIdleNode(%v, %d)", p, node)
	}
	for _, node := range extremes() {
		if node < 0 || node > 7 {
			idle, ok := impl.IsIdleNode(p, node)
			none, fine := impl.IsIdleNode(impl.Process{}, node)
			wantFailures(t, [][]any{{idle, ok}, {none, fine}}, "IsIdleNode(%d)", node)
		}
	}
	none, ok := impl.IsIdleNode(impl.Process{}, 0)
	wantFailures(t, [][]any{{none, ok}}, "IsIdleNode without nodes")
}

// in, out and opened are steps of each Kind.
func in(cap int, place int) impl.AmbStep { return impl.AmbStep{Kind: 1, Cap: cap, Place: place} }

func out(cap int, place int) impl.AmbStep { return impl.AmbStep{Kind: 2, Cap: cap, Place: place} }

func opened(cap int, place int) impl.AmbStep { return impl.AmbStep{Kind: 3, Cap: cap, Place: place} }

// A stepExample is a process with its steps and the texts of their results, in the order of the steps.
type stepExample struct {
	words   string
	steps   []impl.AmbStep
	results []string
}

func checkStepExamples(t *testing.T, examples []stepExample) {
	t.Helper()
	for _, e := range examples {
		p := amb(e.words)
		steps, ok := impl.AmbSteps(p)
		wantAmbSteps(t, steps, ok, e.steps, "AmbSteps(%s)", e.words)
		for i, s := range e.steps {
			made, ok := impl.MakeAmbStep(p, s)
			wantProcess(t, made, ok, processIn(t, e.results[i]), true, "MakeAmbStep(%s, %v)", e.words, s)
		}
		texts := slices.Clone(e.results)
		slices.Sort(texts)
		results, ok := impl.AmbResults(p)
		wantProcesses(t, results, ok, slices.Compact(texts), true, "AmbResults(%s)", e.words)
		checkProcess(t, p)
	}
}

func TestStepsInto(t *testing.T) {
	checkStepExamples(t, []stepExample{
		{"a@-1 in:b@0 b@-1", []impl.AmbStep{in(1, 2)}, []string{"b[a[0]]"}},
		{"b@-1 a@-1 in:b@1", []impl.AmbStep{in(2, 0)}, []string{"b[a[0]]"}},
		{"a@-1 in:b@0 x@1 y@1 z@2 u@0 b@-1 v@6", []impl.AmbStep{in(1, 6)}, []string{"b[a[u[0]|x[z[0]]|y[0]]|v[0]]"}},
		// At any depth under ambients.
		{"c@-1 a@0 in:b@1 b@0 a@-1 b@4", []impl.AmbStep{in(2, 3)}, []string{"a[b[0]]|c[b[a[0]]]"}},
		{"d@-1 c@0 b@1 a@1 in:b@3 c@0", []impl.AmbStep{in(4, 2)}, []string{"d[c[0]|c[b[a[0]]]]"}},
		// Several ambients with the Name side by side, and several prefixes.
		{"a@-1 in:b@0 b@-1 x@2 b@-1 y@4", []impl.AmbStep{in(1, 2), in(1, 4)}, []string{"b[a[0]|x[0]]|b[y[0]]", "b[a[0]|y[0]]|b[x[0]]"}},
		{"a@-1 in:b@0 b@-1 b@-1", []impl.AmbStep{in(1, 2), in(1, 3)}, []string{"b[0]|b[a[0]]", "b[0]|b[a[0]]"}},
		{"a@-1 in:b@0 in:b@0 b@-1", []impl.AmbStep{in(1, 3), in(2, 3)}, []string{"b[a[in b.(0)]]", "b[a[in b.(0)]]"}},
		{"a@-1 in:b@0 b@-1 in:a@2", []impl.AmbStep{in(1, 2), in(3, 0)}, []string{"b[a[0]|in a.(0)]", "a[b[0]|in b.(0)]"}},
		// An ambient with the Name of its own prefix goes into others, and not into itself.
		{"a@-1 in:a@0", nil, nil},
		{"a@-1 in:a@0 a@-1", []impl.AmbStep{in(1, 2)}, []string{"a[a[0]]"}},
		{"a@-1 in:a@0 a@-1 in:a@2", []impl.AmbStep{in(1, 2), in(3, 0)}, []string{"a[a[0]|in a.(0)]", "a[a[0]|in a.(0)]"}},
		// Ambients with the Name one in the other: only the sibling counts.
		{"a@-1 in:b@0 b@-1 b@2", []impl.AmbStep{in(1, 2)}, []string{"b[a[0]|b[0]]"}},
		{"b@-1 a@0 in:b@1 b@0", []impl.AmbStep{in(2, 3)}, []string{"b[b[a[0]]]"}},
		{"b@-1 a@0 in:b@1", nil, nil},
		{"a@-1 in:b@0 b@0", nil, nil},
		// Prefixes at the top and under prefixes, and what they have in them.
		{"in:b@-1 b@-1", nil, nil},
		{"in:b@-1 b@0 a@0 in:b@2", nil, nil},
		{"a@-1 in:c@0 in:b@1 b@-1", nil, nil},
		{"x@-1 open:c@0 a@1 in:b@2 b@1", nil, nil},
		{"a@-1 in:b@0 c@1 in:d@2 d@1 b@-1", []impl.AmbStep{in(1, 5)}, []string{"b[a[c[in d.(0)]|d[0]]]"}},
		{"in:x@-1 in:b@0 in:b@-1 b@-1", nil, nil},
	})
}

func TestStepsOutOf(t *testing.T) {
	checkStepExamples(t, []stepExample{
		{"b@-1 a@0 out:b@1", []impl.AmbStep{out(2, 0)}, []string{"a[0]|b[0]"}},
		{"m@-1 n@0 out:m@1", []impl.AmbStep{out(2, 0)}, []string{"m[0]|n[0]"}},
		{"b@-1 a@0 out:b@1 x@2 y@2 z@3 u@1 v@0", []impl.AmbStep{out(2, 0)}, []string{"a[u[0]|x[z[0]]|y[0]]|b[v[0]]"}},
		{"c@-1 b@0 a@1 out:b@2 d@0", []impl.AmbStep{out(3, 1)}, []string{"c[a[0]|b[0]|d[0]]"}},
		// Several with the same Name, one in the other: only the Parent counts.
		{"b@-1 b@0 a@1 out:b@2", []impl.AmbStep{out(3, 1)}, []string{"b[a[0]|b[0]]"}},
		{"b@-1 b@0 out:b@1", []impl.AmbStep{out(2, 0)}, []string{"b[0]|b[0]"}},
		{"b@-1 c@0 a@1 out:b@2", nil, nil},
		{"b@-1 out:b@0", nil, nil},
		{"b@-1 out:b@0 b@-1", nil, nil},
		{"a@-1 out:b@0 b@-1", nil, nil},
		{"a@-1 out:b@0 b@0", nil, nil},
		{"b@-1 a@0 out:b@1 a@0 out:b@3", []impl.AmbStep{out(2, 0), out(4, 0)}, []string{"a[0]|b[a[out b.(0)]]", "a[0]|b[a[out b.(0)]]"}},
		{"b@-1 a@0 out:b@1 out:b@1", []impl.AmbStep{out(2, 0), out(3, 0)}, []string{"a[out b.(0)]|b[0]", "a[out b.(0)]|b[0]"}},
		{"b@-1 a@0 out:b@1 b@-1", []impl.AmbStep{out(2, 0)}, []string{"a[0]|b[0]|b[0]"}},
		// Prefixes at the top and under prefixes.
		{"out:b@-1 b@-1", nil, nil},
		{"b@-1 out:b@0 out:b@1", nil, nil},
		{"in:b@-1 b@0 a@1 out:b@2", nil, nil},
		{"b@-1 out:b@0 a@1 out:b@2", nil, nil},
		{"b@-1 a@0 out:c@1 out:b@2", nil, nil},
		{"in:b@-1 a@0 out:b@1", nil, nil},
		{"b@-1 a@0 out:b@1 b@2 a@3 out:b@4", []impl.AmbStep{out(2, 0)}, []string{"a[b[a[out b.(0)]]]|b[0]"}},
	})
}

func TestStepsThatOpen(t *testing.T) {
	checkStepExamples(t, []stepExample{
		{"a@-1 open:a@-1 b@1", []impl.AmbStep{opened(1, 0)}, []string{"b[0]"}},
		{"open:a@-1 a@-1", []impl.AmbStep{opened(0, 1)}, []string{"0"}},
		{"open:a@-1 x@0 y@0 a@-1 z@3 u@4 in:w@3 v@-1", []impl.AmbStep{opened(0, 3)}, []string{"in w.(0)|v[0]|x[0]|y[0]|z[u[0]]"}},
		{"c@-1 d@0 open:a@1 x@2 a@1 y@4 a@0", []impl.AmbStep{opened(2, 4)}, []string{"c[a[0]|d[x[0]|y[0]]]"}},
		{"open:a@-1 a@-1 x@1 a@-1 y@3", []impl.AmbStep{opened(0, 1), opened(0, 3)}, []string{"a[y[0]]|x[0]", "a[x[0]]|y[0]"}},
		{"open:a@-1 a@-1 a@-1", []impl.AmbStep{opened(0, 1), opened(0, 2)}, []string{"a[0]", "a[0]"}},
		{"a@-1 open:a@-1 a@-1 open:a@-1", []impl.AmbStep{opened(1, 0), opened(1, 2), opened(3, 0), opened(3, 2)}, slices.Repeat([]string{"a[0]|open a.(0)"}, 4)},
		// An ambient is not opened by prefixes in it, nor by those in others, nor one in it by those beside it.
		{"a@-1 open:a@0", nil, nil},
		{"a@-1 open:a@0 a@0", []impl.AmbStep{opened(1, 2)}, []string{"a[0]"}},
		{"a@-1 b@-1 open:a@1", nil, nil},
		{"b@-1 a@0 open:a@-1", nil, nil},
		{"a@-1 a@0 open:a@-1", []impl.AmbStep{opened(2, 0)}, []string{"a[0]"}},
		// Prefixes under prefixes, and prefixes with the Name.
		{"open:a@-1 open:a@0 a@0", nil, nil},
		{"in:b@-1 open:a@0 a@0", nil, nil},
		{"open:a@-1 open:a@-1", nil, nil},
		{"open:a@-1 in:a@-1 out:a@-1", nil, nil},
		{"open:b@-1 a@-1", nil, nil},
		{"open:a@-1 open:b@0 b@0 a@-1", []impl.AmbStep{opened(0, 3)}, []string{"b[0]|open b.(0)"}},
		{"c@-1 in:d@0 b@1 open:a@2 a@2", nil, nil},
	})
}

func TestOrderOfStepsAndResults(t *testing.T) {
	// All Kinds, in an order of nodes that is neither that of the Kinds nor that of the results.
	checkStepExamples(t, []stepExample{
		{
			"open:a@-1 b@-1 a@-1 out:b@2 c@1 out:b@4 in:b@2 open:b@-1",
			[]impl.AmbStep{in(6, 1), out(5, 1), opened(0, 2), opened(7, 1)},
			[]string{"b[a[out b.(0)]|c[out b.(0)]]|open a.(0)|open b.(0)", "a[in b.(0)|out b.(0)]|b[0]|c[0]|open a.(0)|open b.(0)", "b[c[out b.(0)]]|in b.(0)|open b.(0)|out b.(0)", "a[in b.(0)|out b.(0)]|c[out b.(0)]|open a.(0)"},
		},
		{
			"b@-1 b@-1 a@-1 in:b@2 in:b@2 x@4 y@1",
			[]impl.AmbStep{in(3, 0), in(3, 1), in(4, 0), in(4, 1)},
			[]string{"b[a[in b.(x[0])]]|b[y[0]]", "b[0]|b[a[in b.(x[0])]|y[0]]", "b[a[in b.(0)|x[0]]]|b[y[0]]", "b[0]|b[a[in b.(0)|x[0]]|y[0]]"},
		},
		{
			"open:a@-1 a@-1 open:a@-1 a@-1 z@3 x@0",
			[]impl.AmbStep{opened(0, 1), opened(0, 3), opened(2, 1), opened(2, 3)},
			[]string{"a[z[0]]|open a.(0)|x[0]", "a[0]|open a.(0)|x[0]|z[0]", "a[z[0]]|open a.(x[0])", "a[0]|open a.(x[0])|z[0]"},
		},
	})
}

func TestStepsThatAreNotPossible(t *testing.T) {
	for _, e := range []struct {
		words string
		s     impl.AmbStep
		fault string
	}{
		{"a@-1 b@0 b@-1", in(1, 2), "no prefix other Kind"},
		{"a@-1 out:b@0 b@-1", in(1, 2), "other Kind"},
		{"a@-1 open:b@0 b@-1", in(1, 2), "other Kind"},
		{"a@-1 in:b@0 b@0", opened(1, 2), "other Kind"},
		{"b@-1 a@0 in:b@1", out(2, 0), "other Kind"},
		{"in:x@-1 a@0 in:b@1 b@0", in(2, 3), "idle"},
		{"in:x@-1 b@0 a@1 out:b@2", out(3, 1), "idle"},
		{"in:x@-1 open:b@0 b@0", opened(1, 2), "idle"},
		{"in:x@-1 y@0 open:b@1 b@1", opened(2, 3), "idle"},
		{"a@-1 in:b@0 in:b@-1", in(1, 2), "no ambient"},
		{"open:b@-1 open:b@-1", opened(0, 1), "no ambient"},
		{"a@-1 in:b@0 c@-1", in(1, 2), "other Name"},
		{"a@-1 in:b@0 bb@-1", in(1, 2), "other Name"},
		{"c@-1 a@0 out:b@1", out(2, 0), "other Name"},
		{"open:b@-1 a@-1", opened(0, 1), "other Name"},
		{"a@-1 in:a@0", in(1, 0), "itself"},
		{"a@-1 in:b@0 c@-1 b@2", in(1, 3), "no sibling"},
		{"c@-1 a@0 in:b@1 b@-1", in(2, 3), "no sibling"},
		{"a@-1 in:b@0 b@0", in(1, 2), "no sibling"},
		{"b@-1 a@0 in:b@1", in(2, 0), "no sibling"},
		{"in:b@-1 b@-1", in(0, 1), "at the top"},
		{"out:b@-1 b@-1", out(0, 1), "at the top"},
		{"b@-1 out:b@0", out(1, 0), "not the Parent"},
		{"b@-1 c@0 a@1 out:b@2", out(3, 0), "not the Parent"},
		{"a@-1 out:b@0 b@-1", out(1, 2), "not the Parent"},
		{"a@-1 open:b@0 b@-1", opened(1, 2), "no sibling"},
		{"a@-1 b@0 open:b@-1", opened(2, 1), "no sibling"},
		{"b@-1 open:b@0", opened(1, 0), "no sibling"},
		{"a@-1 in:b@0 b@-1", impl.AmbStep{Kind: 0, Cap: 1, Place: 2}, "other Kind no Kind"},
		{"a@-1 in:b@0 b@-1", impl.AmbStep{Kind: 4, Cap: 1, Place: 2}, "other Kind no Kind"},
		{"b@-1 b@-1", impl.AmbStep{Kind: 0, Cap: 0, Place: 1}, "no prefix no Kind"},
		{"a@-1 in:b@0 b@-1", in(2, 1), "no prefix other Kind no ambient at the top"},
	} {
		if faults := checkMade(t, amb(e.words), e.s); strings.Join(faults, " ") != e.fault {
			t.Errorf("%v of %s has the faults %v", e.s, e.words, faults)
		}
	}
}

func TestStepsWithNumbersThatAreNone(t *testing.T) {
	for _, e := range []struct {
		words string
		s     impl.AmbStep
	}{{"a@-1 in:b@0 b@-1", in(1, 2)}, {"b@-1 a@0 out:b@1", out(2, 0)}, {"open:a@-1 a@-1", opened(0, 1)}, {"", in(0, 0)}} {
		p := amb(e.words)
		for _, n := range extremes() {
			checkMade(t, p, impl.AmbStep{Kind: n, Cap: e.s.Cap, Place: e.s.Place})
			checkMade(t, p, impl.AmbStep{Kind: e.s.Kind, Cap: n, Place: e.s.Place})
			checkMade(t, p, impl.AmbStep{Kind: e.s.Kind, Cap: e.s.Cap, Place: n})
			checkMade(t, p, impl.AmbStep{Kind: e.s.Kind, Cap: n, Place: n})
		}
	}
}

func TestShownAmbients(t *testing.T) {
	for _, e := range []struct {
		words, name string
		shows       bool
	}{
		{"", "a", false}, {"a@-1", "a", true}, {"a@-1", "b", false}, {"a@-1", "aa", false}, {"aa@-1", "a", false},
		{"b@-1 a@0", "a", false}, {"b@-1 a@0", "b", true}, {"in:b@-1 a@0", "a", false}, {"in:a@-1", "a", false}, {"out:a@-1", "a", false}, {"open:a@-1", "a", false},
		{"b@-1 a@0 c@-1 a@-1", "a", true}, {"in:a@-1 a@-1", "a", true}, {"in@-1", "in", true}, {"in:in@-1", "in", false}, {"open:a@-1 zzzz@-1 a@0", "zzzz", true},
	} {
		shows, ok := impl.ShowsAmbient(amb(e.words), e.name)
		wantReport(t, shows, ok, e.shows, "ShowsAmbient(%s, %q)", e.words, e.name)
		checkShows(t, amb(e.words), e.name)
	}
	p := amb("a@-1 b@0")
	for _, name := range badNames() {
		shows, one := impl.ShowsAmbient(p, name)
		none, two := impl.ShowsAmbient(impl.Process{}, name)
		list, three := impl.ShortestShow(p, name)
		more, four := impl.ShortestShow(impl.Process{}, name)
		wantFailures(t, [][]any{{shows, one}, {none, two}, {list, three}, {more, four}}, "the Name %.50q", name)
	}
}

func TestShortestLists(t *testing.T) {
	for _, e := range []struct {
		words, name string
		texts       []string
		lists       int
	}{
		// The first process shows the ambient, and need not be canonical.
		{"b@-1 a@-1", "b", []string{"a[0]|b[0]"}, 1},
		{"a@-1 open:a@-1", "a", []string{"a[0]|open a.(0)"}, 1},
		// No list, with steps and without.
		{"", "a", nil, 0},
		{"a@-1", "b", nil, 0},
		{"b@-1 a@0", "a", nil, 0},
		{"in:b@-1 a@0", "a", nil, 0},
		{"a@-1 in:b@0 b@-1", "c", nil, 0},
		{"open:a@-1 a@-1", "b", nil, 0},
		// One step, and several.
		{"m@-1 n@0 out:m@1", "n", []string{"m[n[out m.(0)]]", "m[0]|n[0]"}, 1},
		{"a@-1 open:a@-1 b@1", "b", []string{"a[0]|open a.(b[0])", "b[0]"}, 1},
		{"b@-1 a@0 x@1 out:a@2 out:b@2", "x", []string{"b[a[x[out a.(0)|out b.(0)]]]", "b[a[0]|x[out b.(0)]]", "b[a[0]]|x[0]"}, 1},
		{"a@-1 b@0 x@1 open:a@-1 open:b@-1", "x", []string{"a[b[x[0]]]|open a.(0)|open b.(0)", "b[x[0]]|open b.(0)", "x[0]"}, 1},
		{"a@-1 in:b@0 b@-1 open:b@-1 x@3", "x", []string{"a[in b.(0)]|b[0]|open b.(x[0])", "a[in b.(0)]|x[0]"}, 1},
		// Several shortest lists with different ends: the end with the first text is taken.
		{"open:a@-1 a@-1 x@1 y@2 a@-1 x@4", "x", []string{"a[x[0]]|a[x[y[0]]]|open a.(0)", "a[x[0]]|x[y[0]]"}, 2},
		{"open:b@-1 x@0 b@-1 open:a@-1 x@3 a@-1", "x", []string{"a[0]|b[0]|open a.(x[0])|open b.(x[0])", "a[0]|open a.(x[0])|x[0]"}, 2},
		// Several shortest lists with the same end: the first one on the way is taken.
		{"open:c@-1 c@-1 open:a@-1 a@-1 b@3 x@4 open:b@1", "x", []string{"a[b[x[0]]]|c[open b.(0)]|open a.(0)|open c.(0)", "a[b[x[0]]]|open a.(0)|open b.(0)", "b[x[0]]|open b.(0)", "x[0]"}, 2},
		// A shorter list with greater texts goes before a longer one that begins with less ones.
		{"open:a@-1 open:b@0 b@0 x@2 a@-1 open:c@-1 x@5 c@-1", "x", []string{"a[0]|c[0]|open a.(b[x[0]]|open b.(0))|open c.(x[0])", "a[0]|open a.(b[x[0]]|open b.(0))|x[0]"}, 1},
	} {
		list, ok := impl.ShortestShow(amb(e.words), e.name)
		wantProcesses(t, list, ok, e.texts, len(e.texts) > 0, "ShortestShow(%s, %q)", e.words, e.name)
		if lists := checkShortest(t, amb(e.words), e.name); lists != e.lists {
			t.Errorf("there are %d shortest lists from %s to %q", lists, e.words, e.name)
		}
	}
}

func TestLongestShortestList(t *testing.T) {
	// Each step opens one ambient, and no other list leads there.
	p := amb("a@-1 b@0 c@1 x@2 open:a@-1 open:b@4 open:c@5 y@6")
	if checkShortest(t, p, "x") != 1 || checkShortest(t, p, "y") != 1 {
		t.Error("there is not one shortest list")
	}
	list, ok := impl.ShortestShow(p, "y")
	texts := []string{"a[b[c[x[0]]]]|open a.(open b.(open c.(y[0])))", "b[c[x[0]]]|open b.(open c.(y[0]))", "c[x[0]]|open c.(y[0])", "x[0]|y[0]"}
	wantProcesses(t, list, ok, texts, true, "ShortestShow(%v, y)", p)
}

func TestProcessesWithManyLists(t *testing.T) {
	// Of all processes, hardly any lead to more others than these.
	for _, text := range []string{"c[in a.(0)]|a[in a.(0)]|a[in c.(0)]|a[0]|open a.(0)", "c[0]|open c.(0)|c[in c.(0)]|c[in c.(0)|in c.(out c.(0))]", "a[a[out a.(in a.(0))|out a.(0)]]|a[in a.(0)]|open a.(0)", "a[in a.(0)]|a[in a.(0)]|a[in a.(0)]|a[in a.(0)]", "open a.(0)|open a.(0)|open a.(0)|open a.(0)|a[0]|a[0]|a[0]|a[0]"} {
		p := processIn(t, text)
		checkProcess(t, p)
		for _, name := range []string{"a", "c", "zzzz"} {
			checkShortest(t, p, name)
		}
	}
}

func TestAmbientSignatureAndRules(t *testing.T) {
	for range 2 {
		sig := impl.AmbientSignature()
		if !slices.Equal(sig, controlsOfAmbients()) || !impl.IsSignature(sig) {
			t.Fatal("AmbientSignature() =", sig)
		}
		want := []string{
			"1; amb@-1 0; in@0 1; amb@-1 1; sites 1 0 2; 0; outer x y; inner -> 1; amb@-1 1; amb@0 0; sites 1 1 0; 0; outer x y; inner | 0 1 2",
			"1; amb@-1 1; amb@0 0; out@1 1; sites 2 1 0; 0; outer x y; inner -> 1; amb@-1 0; amb@-1 1; sites 0 0 1; 0; outer x y; inner | 0 1 2",
			"1; open@-1 0; amb@-1 0; sites 0 1; 0; outer y; inner -> 1; sites -1 -1; 0; outer y; inner | 0 1",
		}
		rules := impl.AmbientRules()
		if len(rules) != len(want) {
			t.Fatalf("AmbientRules() = %v", rules)
		}
		for i, r := range rules {
			expected, _ := ruleOfText(controlsOfAmbients(), want[i])
			if !isSameRule(r, expected) || !impl.IsRule(sig, r) {
				t.Fatalf("the Rule %d of AmbientRules() = %v", i, r)
			}
		}
		// The next results are new, whatever happens to these.
		wantNewResults(t, [][]any{{sig}, {rules}}, func() [][]any { return [][]any{{impl.AmbientSignature()}, {impl.AmbientRules()}} })
	}
	wantOwnMemory(t, impl.AmbientSignature(), impl.AmbientSignature(), impl.AmbientRules(), impl.AmbientRules())
}

func TestEncodings(t *testing.T) {
	for _, e := range []struct{ words, text string }{
		{"", "1; sites; 0; outer; inner"},
		{"a@-1", "1; amb@-1 0; sites; 0; outer a; inner"},
		{"a@-1 in:b@0 b@-1", "1; amb@-1 0; in@0 1; amb@-1 1; sites; 0; outer a b; inner"},
		{"b@-1 in:a@0 a@-1", "1; amb@-1 1; in@0 0; amb@-1 0; sites; 0; outer a b; inner"},
		{"x@-1 in:x@0 out:x@1 open:x@2 x@-1", "1; amb@-1 0; in@0 0; out@1 0; open@2 0; amb@-1 0; sites; 0; outer x; inner"},
		{"h@-1 g@0 out:f@0 e@2 open:d@-1 c@4 b@-1 in:a@1", "1; amb@-1 7; amb@0 6; out@0 5; amb@2 4; open@-1 3; amb@4 2; amb@-1 1; in@1 0; sites; 0; outer a b c d e f g h; inner"},
		{"zz@-1 z@-1 zzz@-1 zzzz@0", "1; amb@-1 1; amb@-1 0; amb@-1 2; amb@0 3; sites; 0; outer z zz zzz zzzz; inner"},
	} {
		want, fine := bigraphOf(controlsOfAmbients(), e.text)
		b, ok := impl.EncodeProcess(amb(e.words))
		wantResult(t, b, ok, want, fine, "EncodeProcess(%s)", e.words)
		p, ok := impl.DecodeProcess(want)
		wantProcess(t, p, ok, amb(e.words), true, "DecodeProcess(%s)", e.text)
	}
}

// checkDecoded checks a Bigraph, which need not be an encoding.
func checkDecoded(t *testing.T, b impl.Bigraph) bool {
	t.Helper()
	want, possible := decodedAs(b)
	p, ok := impl.DecodeProcess(b)
	wantProcess(t, p, ok, want, possible, "DecodeProcess(%v)", b)
	return ok
}

func TestBigraphsThatAreNoEncodings(t *testing.T) {
	for _, e := range []struct{ text, words string }{
		// Nodes in any order and idle outer names are allowed.
		{"1; sites; 0; outer a; inner", ""},
		{"1; sites; 0; outer a b c d e f g h i j k l m n o p; inner", ""},
		{"1; amb@-1 1; sites; 0; outer a b c; inner", "b@-1"},
		{"1; amb@-1 15; sites; 0; outer a b c d e f g h i j k l m n o p; inner", "p@-1"},
		{"1; amb@-1 0; amb@-1 1; in@0 0; out@1 1; sites; 0; outer a b; inner", "a@-1 b@-1 in:a@0 out:b@1"},
	} {
		b, _ := bigraphOf(controlsOfAmbients(), e.text)
		p, ok := impl.DecodeProcess(b)
		wantProcess(t, p, ok, amb(e.words), true, "DecodeProcess(%s)", e.text)
	}
	for _, text := range []string{
		"0; sites; 0; outer; inner", "2; sites; 0; outer; inner", "2; amb@-1 0; sites; 0; outer a; inner", "2; amb@-1 0; amb@-2 0; sites; 0; outer a; inner", "4; amb@-1 0; sites; 0; outer a; inner",
		"1; sites; 1; outer; inner", "1; amb@-1 0; sites; 1; outer; inner", "1; amb@-1 1; sites; 1; outer a; inner", "1; amb@-1 0; amb@-1 1; sites; 1; outer a; inner",
		"1; sites -1; 0; outer; inner", "1; amb@-1 0; sites 0; 0; outer a; inner", "1; amb@-1 0; sites -1; 0; outer a; inner", "1; amb@-1 0; in@0 0; sites 1; 0; outer a; inner",
		"1; sites; 0; outer a; inner a=0", "1; amb@-1 0; sites; 0; outer a; inner b=0", "0; sites; 0; outer a; inner",
	} {
		b, ok := bigraphOf(controlsOfAmbients(), text)
		if !ok || checkDecoded(t, b) {
			t.Errorf("DecodeProcess(%s) does not fail, or this is no Bigraph", text)
		}
	}
	for _, b := range append(brokenBigraphs(), twoRooms(), impl.Bigraph{Roots: 1, Nodes: make([]impl.Node, 9)}, impl.Bigraph{Roots: 1, Nodes: make([]impl.Node, 1000000)}) {
		p, ok := impl.DecodeProcess(b)
		wantFailures(t, [][]any{{p, ok}}, "DecodeProcess(%.300v)", b)
	}
}

func TestDecodedSamples(t *testing.T) {
	t.Parallel()
	r, counts := rand.New(rand.NewSource(337)), map[string]int{}
	for _, p := range processSamples(338, 3000, 8) {
		good, _ := bigraphOf(controlsOfAmbients(), encodingWords(p))
		for range 4 {
			b := cloneOf(good)
			told := changeEncoding(r, &b)
			counts[fmt.Sprint(told, " ", checkDecoded(t, b))]++
		}
	}
	wantAtLeast(t, counts, 100, "edges false", "roots false", "sites false", "inner false", "idle true", "control false", "link false", "parent false", "none true")
}

// changeEncoding makes another Bigraph of an encoding, which need not be valid, and tells what it
// has changed.
func changeEncoding(r *rand.Rand, b *impl.Bigraph) string {
	k := -1
	if len(b.Nodes) > 0 {
		k = r.Intn(len(b.Nodes))
	}
	switch told := pick(r, []string{"edges", "roots", "sites", "inner", "idle", "control", "link", "parent", "none"}); {
	case told == "edges":
		// With one link more, the links of all ports are others.
		b.Edges = 1 + r.Intn(8)
		for i := range b.Nodes {
			b.Nodes[i].Links[0] = r.Intn(b.Edges + len(b.Outer))
		}
		return told
	case told == "roots":
		b.Roots = pick(r, []int{0, 2, 3, 4})
		return told
	case told == "sites":
		b.Sites = []int{r.Intn(len(b.Nodes)+1) - 1}
		return told
	case told == "inner" && k >= 0:
		b.Inner = []impl.Wire{{Name: "i", Link: r.Intn(len(b.Outer))}}
		return told
	case told == "idle":
		// Behind all others, so that all links stay the same.
		b.Outer = distinct(append(b.Outer, "zzzz"))
		return told
	case told == "control" && k >= 0:
		b.Nodes[k].Control = pick(r, []int{-1, 4, math.MaxInt})
		return told
	case told == "link" && k >= 0:
		b.Nodes[k].Links = pick(r, [][]int{{}, {-1}, {len(b.Outer)}, {0, 0}})
		return told
	case told == "parent" && k >= 0:
		b.Nodes[k].Parent = pick(r, []int{k, k + 1, -2, math.MinInt})
		return told
	}
	return "none"
}

func TestResultsOfProcessesAreNew(t *testing.T) {
	t.Parallel()
	r := rand.New(rand.NewSource(339))
	for _, kept := range append(processSamples(340, 300, 8), amb("b@-1 a@0 x@1 out:a@2 out:b@2"), impl.Process{}) {
		p, node, s, name := cloneOfProcess(kept), r.Intn(8), impl.AmbStep{Kind: 1}, pick(r, []string{"a", "b", "x"})
		for _, possible := range stepsAs(p) {
			s = possible
		}
		code, _ := bigraphOf(controlsOfAmbients(), encodingWords(p))
		b := cloneOf(code)
		calls := func() [][]any {
			text, _ := impl.ProcessText(p)
			parsed, ok := impl.ParseProcess(text)
			decoded, fine := impl.DecodeProcess(b)
			are, good := impl.AreCongruent(p, p)
			return append(callsOfProcess(p, node, s, name), []any{parsed, ok}, []any{decoded, fine}, []any{are, good}, []any{impl.IsProcess(p)})
		}
		wantOwnMemory(t, calls(), calls(), p, b)
		wantNewResults(t, calls(), calls)
		if !isSameProcess(p, kept) || !isSame(b, code) {
			t.Fatalf("a call has changed %v or %v, or the results share their memory", kept, code)
		}
	}
}

func TestVastProcesses(t *testing.T) {
	many := 1000000
	for _, s := range []string{strings.Repeat("a[", many), strings.Repeat("a[0]|", many) + "a[0]", strings.Repeat("a[", many) + "0" + strings.Repeat("]", many), strings.Repeat("]", many), strings.Repeat("in a.(", many) + "0" + strings.Repeat(")", many), strings.Repeat("0", many), strings.Repeat("\xff", many), strings.Repeat("a", many) + "[0]"} {
		p, ok := impl.ParseProcess(s)
		wantFailures(t, [][]any{{p, ok}}, "ParseProcess of %d bytes", len(s))
	}
	// Just as long as other texts may be.
	for _, size := range []int{1000, 1999, 2000, 4000} {
		p, ok := impl.ParseProcess(strings.Repeat("a[", size))
		q, fine := impl.ParseProcess(strings.Repeat("[", size) + "0")
		wantFailures(t, [][]any{{p, ok}, {q, fine}}, "ParseProcess of %d brackets", size)
	}
	name := strings.Repeat("a", many)
	shows, one := impl.ShowsAmbient(amb("a@-1"), name)
	list, two := impl.ShortestShow(amb("a@-1"), name)
	wantFailures(t, [][]any{{shows, one}, {list, two}}, "a vast Name")
}
