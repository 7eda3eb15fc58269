package tests

import (
	"fmt"
	"math/rand"
	"slices"
	"strings"
	"testing"

	"loop.example/g01082/impl"
)

// processLaws are processes of all sizes, small ones among them that differ in little.
func processLaws(seed int64, count int) []impl.Process {
	list := append(processSamples(seed, count, 8), processSamples(seed+1, count/3, 4)...)
	return slices.Concat(list, allProcesses(2, "a", "b"), allProcesses(3, "a"))
}

func encodingOf(t *testing.T, p impl.Process) impl.Bigraph {
	t.Helper()
	b, ok := impl.EncodeProcess(p)
	if !ok || !impl.IsAgent(impl.AmbientSignature(), b) {
		t.Fatalf("EncodeProcess(%v) = %v, %v", p, b, ok)
	}
	return b
}

// canonicalDecoded is the text of the canonical process of the process of an agent.
func canonicalDecoded(t *testing.T, b impl.Bigraph) string {
	t.Helper()
	p, ok := impl.DecodeProcess(b)
	form, fine := impl.CanonicalProcess(p)
	text, good := impl.ProcessText(form)
	if !ok || !fine || !good {
		t.Fatalf("DecodeProcess(%v) = %v, %v, or there is no text of its canonical process", b, p, ok)
	}
	return text
}

// textsOfAll are the texts of some processes.
func textsOfAll(t *testing.T, list []impl.Process) []string {
	t.Helper()
	texts := []string{}
	for _, p := range list {
		text, ok := impl.ProcessText(p)
		if !ok {
			t.Fatalf("ProcessText(%v) fails", p)
		}
		texts = append(texts, text)
	}
	return texts
}

func resultTexts(t *testing.T, p impl.Process) []string {
	t.Helper()
	results, ok := impl.AmbResults(p)
	if !ok {
		t.Fatalf("AmbResults(%v) fails", p)
	}
	return textsOfAll(t, results)
}

// nodesOfStep are the images of the redex of a Rule at the Match that a step has.
func nodesOfStep(p impl.Process, s impl.AmbStep) []int {
	switch s.Kind {
	case impl.AmbIn:
		return []int{p.Nodes[s.Cap].Parent, s.Cap, s.Place}
	case impl.AmbOut:
		return []int{s.Place, p.Nodes[s.Cap].Parent, s.Cap}
	}
	return []int{s.Cap, s.Place}
}

func TestResultsAreThoseOfTheThreeRules(t *testing.T) {
	t.Parallel()
	counts := map[string]int{}
	for _, p := range append(processLaws(350, 1500), allProcesses(3, "a", "b")...) {
		byRules, ok := impl.StepsOf(impl.AmbientSignature(), impl.AmbientRules(), encodingOf(t, p))
		if !ok {
			t.Fatalf("StepsOf the encoding of %v fails", p)
		}
		want := map[string]string{}
		for _, step := range byRules {
			want[fmt.Sprint(step.Rule+1, step.Match.Nodes)] = canonicalDecoded(t, step.Result)
		}
		steps, ok := impl.AmbSteps(p)
		if !ok || len(steps) != len(byRules) {
			t.Fatalf("AmbSteps(%v) = %v, %v; the rules have the steps %v", p, steps, ok, want)
		}
		texts := []string{}
		for _, s := range steps {
			made, ok := impl.MakeAmbStep(p, s)
			text := textsOfAll(t, []impl.Process{made})[0]
			if other, found := want[fmt.Sprint(s.Kind, nodesOfStep(p, s))]; !ok || !found || other != text {
				t.Fatalf("MakeAmbStep(%v, %v) = %q, %v; the rules have the steps %v", p, s, text, ok, want)
			}
			texts = append(texts, text)
			counts[fmt.Sprint("step ", s.Kind)]++
		}
		slices.Sort(texts)
		if results := resultTexts(t, p); !slices.Equal(results, slices.Compact(texts)) {
			t.Fatalf("AmbResults(%v) = %q; want %q", p, results, texts)
		}
		counts[fmt.Sprint("steps ", min(len(steps), 2))]++
	}
	wantAtLeast(t, counts, 100, "step 1", "step 2", "step 3", "steps 0", "steps 1", "steps 2")
}

func TestInactiveMatchesAreNoSteps(t *testing.T) {
	t.Parallel()
	inactive := 0
	for _, p := range processLaws(352, 1200) {
		b, steps := encodingOf(t, p), map[string]bool{}
		list, _ := impl.AmbSteps(p)
		for _, s := range list {
			steps[fmt.Sprint(s.Kind, nodesOfStep(p, s))] = true
		}
		for i, r := range impl.AmbientRules() {
			all, ok := impl.AllMatches(impl.AmbientSignature(), r.Redex, b)
			if !ok {
				t.Fatalf("AllMatches of the Rule %d in the encoding of %v fails", i, p)
			}
			for _, m := range all {
				active, _ := impl.IsActiveMatch(impl.AmbientSignature(), r.Redex, b, m)
				if steps[fmt.Sprint(i+1, m.Nodes)] != active {
					t.Fatalf("the Match %v of the Rule %d in %v is active: %v", m, i, p, active)
				}
				if !active {
					inactive++
				}
			}
		}
	}
	if inactive < 100 {
		t.Error("only", inactive, "Matches that are not active")
	}
}

func TestDecodingIsInverseToEncoding(t *testing.T) {
	t.Parallel()
	r, counts := rand.New(rand.NewSource(354)), map[bool]int{}
	for _, p := range processLaws(355, 1500) {
		b := encodingOf(t, p)
		back, ok := impl.DecodeProcess(b)
		wantProcess(t, back, ok, p, true, "DecodeProcess(%v)", b)
		// Idle names make no difference, wherever they are.
		named := cloneOf(b)
		for _, name := range someOf(r, []string{"aa", "az", "c", "il", "m", "zzzy", "zzzz"}, 7) {
			if added, ok := impl.AddName(impl.AmbientSignature(), named, name); ok {
				named = added
			}
		}
		back, ok = impl.DecodeProcess(named)
		wantProcess(t, back, ok, p, true, "DecodeProcess(%v)", named)
		again := encodingOf(t, back)
		if !isSame(again, b) {
			t.Fatalf("EncodeProcess(%v) = %v; want %v", back, again, b)
		}
		counts[isSame(named, b)]++
	}
	if counts[true] < 50 || counts[false] < 50 {
		t.Error("too few samples:", counts)
	}
}

func TestCongruentExactlyIfEncodingsAreIsomorphic(t *testing.T) {
	t.Parallel()
	r, counts := rand.New(rand.NewSource(357)), map[string]int{}
	check := func(p impl.Process, q impl.Process, told string) {
		a, b := encodingOf(t, p), encodingOf(t, q)
		want, ok := impl.AreIsomorphic(impl.AmbientSignature(), a, b)
		if !ok {
			t.Fatalf("AreIsomorphic(%v, %v) fails", a, b)
		}
		are, ok := impl.AreCongruent(p, q)
		wantReport(t, are, ok, want, "AreCongruent(%v, %v)", p, q)
		form, _ := impl.CanonicalProcess(p)
		other, _ := impl.CanonicalProcess(q)
		if isSameProcess(form, other) != want {
			t.Fatalf("CanonicalProcess is %v of %v, and %v of %v, which are congruent: %v", form, p, other, q, want)
		}
		counts[fmt.Sprint(told, " ", want)]++
	}
	for _, p := range processSamples(358, 400, 8) {
		q := shuffledProcess(r, p)
		check(p, q, "shuffled")
		check(p, processSamples(r.Int63(), 1, len(p.Nodes))[0], "random")
		for _, other := range changedProcesses(p) {
			check(other, q, "changed")
		}
	}
	small := append(allProcesses(2, "a", "b"), allProcesses(1, "a", "b", "c")...)
	for _, p := range small {
		for _, q := range small {
			check(p, q, "small")
		}
	}
	wantAtLeast(t, counts, 10, "shuffled true", "random false", "random true", "changed true", "changed false", "small true", "small false")
	if counts["shuffled false"] > 0 {
		t.Error("shuffled processes are not congruent")
	}
}

func TestCongruentProcessesHaveTheSameSteps(t *testing.T) {
	t.Parallel()
	r, counts := rand.New(rand.NewSource(360)), map[string]int{}
	for _, p := range processSamples(361, 1500, 8) {
		b, _ := bigraphOf(controlsOfAmbients(), encodingWords(p))
		to, _ := randomNumbers(r, b)
		q := orderedBy(p, inverseOf(to))
		for k := range p.Nodes {
			idle, _ := impl.IsIdleNode(p, k)
			other, ok := impl.IsIdleNode(q, to[k])
			wantReport(t, other, ok, idle, "IsIdleNode(%v, %d), which is the node %d of %v,", q, to[k], k, p)
		}
		steps, _ := impl.AmbSteps(p)
		moved := []impl.AmbStep{}
		for _, s := range steps {
			u := impl.AmbStep{Kind: s.Kind, Cap: to[s.Cap], Place: to[s.Place]}
			moved = append(moved, u)
			made, _ := impl.MakeAmbStep(p, s)
			other, ok := impl.MakeAmbStep(q, u)
			wantProcess(t, other, ok, made, true, "MakeAmbStep(%v, %v), which is the step %v of %v,", q, u, s, p)
		}
		slices.SortFunc(moved, func(s impl.AmbStep, u impl.AmbStep) int {
			return slices.Compare([]int{s.Kind, s.Cap, s.Place}, []int{u.Kind, u.Cap, u.Place})
		})
		others, ok := impl.AmbSteps(q)
		wantAmbSteps(t, others, ok, moved, "AmbSteps(%v), which is congruent to %v,", q, p)
		if !slices.Equal(resultTexts(t, p), resultTexts(t, q)) {
			t.Fatalf("AmbResults of the congruent processes %v and %v are different", p, q)
		}
		for _, name := range placeNames(p) {
			shows, _ := impl.ShowsAmbient(p, name)
			other, ok := impl.ShowsAmbient(q, name)
			wantReport(t, other, ok, shows, "ShowsAmbient(%v, %q), congruent to %v,", q, name, p)
			list, found := impl.ShortestShow(p, name)
			again, ok := impl.ShortestShow(q, name)
			wantProcesses(t, again, ok, textsOfAll(t, list), found, "ShortestShow(%v, %q), congruent to %v,", q, name, p)
		}
		counts[fmt.Sprint("same ", isSameProcess(p, q), " steps ", len(steps) > 0)]++
	}
	wantAtLeast(t, counts, 20, "same true steps true", "same true steps false", "same false steps true", "same false steps false")
}

func TestTextsAndCanonicalProcessesAgree(t *testing.T) {
	t.Parallel()
	counts := map[string]int{}
	for _, p := range processLaws(363, 1500) {
		text := textsOfAll(t, []impl.Process{p})[0]
		read, ok := impl.ParseProcess(text)
		are, _ := impl.AreCongruent(p, read)
		if again := textsOfAll(t, []impl.Process{read})[0]; !ok || !are || again != text {
			t.Fatalf("ParseProcess(%q) = %v, %v, which has the text %q", text, read, ok, again)
		}
		form, ok := impl.CanonicalProcess(p)
		twice, fine := impl.CanonicalProcess(form)
		wantProcess(t, twice, fine, form, ok, "CanonicalProcess of CanonicalProcess(%v)", p)
		same, ok := impl.CanonicalProcess(read)
		wantProcess(t, same, ok, form, true, "CanonicalProcess(%v), which has the text of %v,", read, p)
		counts[fmt.Sprint("preorder ", isSameProcess(read, p), " canonical ", isSameProcess(read, form))]++
	}
	wantAtLeast(t, counts, 50, "preorder true canonical true", "preorder true canonical false", "preorder false canonical true", "preorder false canonical false")
}

// inside has some nodes with their Parents, behind those of p, in a node of it or at the top.
func inside(p impl.Process, place int, nodes []impl.AmbNode) impl.Process {
	first, whole := len(p.Nodes), cloneOfProcess(p)
	for _, node := range nodes {
		if node.Parent += first; node.Parent < first {
			node.Parent = place
		}
		whole.Nodes = append(whole.Nodes, node)
	}
	return whole
}

func TestStepsInPartsAreStepsOfWholes(t *testing.T) {
	t.Parallel()
	r, counts := rand.New(rand.NewSource(366)), map[string]int{}
	for range 3000 {
		part, around := processSamples(r.Int63(), 1, 5)[0], processSamples(r.Int63(), 1, 3)[0]
		place := r.Intn(len(around.Nodes)+1) - 1
		whole, first := inside(around, place, part.Nodes), len(around.Nodes)
		active := place < 0 || around.Nodes[place].Kind == 0 && !isIdleAs(around, place)
		steps, _ := impl.AmbSteps(part)
		all, ok := impl.AmbSteps(whole)
		if !ok {
			t.Fatalf("AmbSteps(%v) fails", whole)
		}
		for _, s := range steps {
			moved := impl.AmbStep{Kind: s.Kind, Cap: s.Cap + first, Place: s.Place + first}
			made, ok := impl.MakeAmbStep(whole, moved)
			result, _ := impl.MakeAmbStep(part, s)
			want, _ := impl.CanonicalProcess(inside(around, place, result.Nodes))
			wantProcess(t, made, ok, want, active, "MakeAmbStep(%v, %v), a step in the part %v,", whole, moved, part)
			if slices.Contains(all, moved) != active {
				t.Fatalf("AmbSteps(%v) = %v; the part %v has the step %v", whole, all, part, s)
			}
			counts[fmt.Sprint("top ", place < 0, " active ", active)]++
		}
		// Under a prefix nothing happens, and a prefix there does nothing to others.
		if !active {
			others, _ := impl.AmbSteps(around)
			wantAmbSteps(t, all, true, others, "AmbSteps(%v), which has just those around the node %d,", whole, place)
		}
	}
	wantAtLeast(t, counts, 50, "top true active true", "top false active true", "top false active false")
}

func TestOtherNamesHaveTheSameSteps(t *testing.T) {
	t.Parallel()
	found := 0
	for _, p := range processLaws(368, 800) {
		q := cloneOfProcess(p)
		for k, node := range q.Nodes {
			// Different Names stay different, and come in another order.
			q.Nodes[k].Name = strings.Map(func(c rune) rune { return 'a' + 'z' - c }, node.Name)
		}
		steps, _ := impl.AmbSteps(p)
		others, ok := impl.AmbSteps(q)
		wantAmbSteps(t, others, ok, steps, "AmbSteps(%v), which has other Names than %v,", q, p)
		results, more := resultTexts(t, p), resultTexts(t, q)
		if len(results) != len(more) {
			t.Fatalf("%v and %v with other Names have %d and %d results", p, q, len(results), len(more))
		}
		found += len(steps)
	}
	if found < 200 {
		t.Error("only", found, "steps")
	}
}

func TestStepsRemoveNodes(t *testing.T) {
	t.Parallel()
	counts := map[string]int{}
	for _, p := range processLaws(370, 1500) {
		steps, _ := impl.AmbSteps(p)
		for _, s := range steps {
			made, ok := impl.MakeAmbStep(p, s)
			if !ok || !impl.IsProcess(made) {
				t.Fatalf("MakeAmbStep(%v, %v) = %v, %v", p, s, made, ok)
			}
			removed := []string{nodeWord(p.Nodes[s.Cap])}
			if s.Kind == impl.AmbOpen {
				removed = append(removed, nodeWord(p.Nodes[s.Place]))
			}
			if before, now := nodeWords(p), nodeWords(made); !slices.Equal(before, slices.Sorted(slices.Values(append(now, removed...)))) {
				t.Fatalf("MakeAmbStep(%v, %v) = %v; the nodes %v are removed", p, s, made, removed)
			}
			counts[fmt.Sprint(s.Kind)]++
		}
	}
	wantAtLeast(t, counts, 100, "1", "2", "3")
}

func nodeWord(node impl.AmbNode) string { return fmt.Sprint(node.Kind, node.Name) }

// nodeWords tells the Kinds and Names of all nodes in an order of their own.
func nodeWords(p impl.Process) []string {
	words := []string{}
	for _, node := range p.Nodes {
		words = append(words, nodeWord(node))
	}
	slices.Sort(words)
	return words
}

// reachedTexts are the texts of all processes to which steps lead from p, each with the least number
// of these steps.
func reachedTexts(t *testing.T, p impl.Process) map[string]int {
	t.Helper()
	form, _ := impl.CanonicalProcess(p)
	list, far := []impl.Process{form}, map[string]int{textsOfAll(t, []impl.Process{form})[0]: 0}
	for i := 0; i < len(list); i++ {
		results, ok := impl.AmbResults(list[i])
		if !ok {
			t.Fatalf("AmbResults(%v) fails", list[i])
		}
		steps := far[textsOfAll(t, list[i:i+1])[0]]
		for k, text := range textsOfAll(t, results) {
			if _, found := far[text]; !found {
				far[text] = steps + 1
				list = append(list, results[k])
			}
		}
	}
	return far
}

func TestExploredEncodingsHaveAllResults(t *testing.T) {
	t.Parallel()
	counts := map[string]int{}
	for _, p := range processLaws(372, 500) {
		far := reachedTexts(t, p)
		x, ok := impl.ExploreSystem(impl.AmbientSignature(), impl.AmbientRules(), encodingOf(t, p), impl.MaxStates)
		if ok != (len(far) <= impl.MaxStates) || ok && len(x.States) != len(far) {
			t.Fatalf("ExploreSystem of the encoding of %v = %d States, %v; steps lead to %v", p, len(x.States), ok, far)
		}
		for state, b := range x.States {
			text := canonicalDecoded(t, b)
			way, found := impl.ShortestWay(x, 0, []int{state})
			if steps, known := far[text]; !known || !found || len(way) != steps {
				t.Fatalf("the state %d, %q, of the encoding of %v is reached by %v; steps lead to %v", state, text, p, way, far)
			}
		}
		counts[fmt.Sprint("states ", min(len(far), 3))]++
	}
	wantAtLeast(t, counts, 50, "states 1", "states 2", "states 3")
}

func TestShortestListsAreShortest(t *testing.T) {
	t.Parallel()
	counts := map[string]int{}
	for _, p := range processLaws(374, 1200) {
		far := reachedTexts(t, p)
		for _, name := range placeNames(p) {
			least := -1
			for text, steps := range far {
				q, _ := impl.ParseProcess(text)
				if shows, _ := impl.ShowsAmbient(q, name); shows && (least < 0 || steps < least) {
					least = steps
				}
			}
			list, ok := impl.ShortestShow(p, name)
			if ok != (least >= 0) || ok && len(list) != least+1 {
				t.Fatalf("ShortestShow(%v, %q) = %v, %v; %d steps are needed", p, name, list, ok, least)
			}
			if ok {
				wantListOfSteps(t, p, name, list)
			}
			counts[fmt.Sprint("steps ", min(least, 2))]++
		}
	}
	wantAtLeast(t, counts, 50, "steps -1", "steps 0", "steps 1", "steps 2")
}

// wantListOfSteps checks a shortest list of processes of p, of which only the last one shows an
// ambient.
func wantListOfSteps(t *testing.T, p impl.Process, name string, list []impl.Process) {
	t.Helper()
	form, ok := impl.CanonicalProcess(p)
	wantProcess(t, list[0], true, form, ok, "the first process of ShortestShow(%v, %q)", p, name)
	texts := textsOfAll(t, list)
	for i, q := range list {
		shows, ok := impl.ShowsAmbient(q, name)
		wantReport(t, shows, ok, i == len(list)-1, "ShowsAmbient(%v, %q), in the list of %v,", q, name, p)
		if i > 0 && !slices.Contains(resultTexts(t, list[i-1]), texts[i]) {
			t.Fatalf("%v follows %v in the list of %v", q, list[i-1], p)
		}
		// What is left of the list is that of each process in it.
		rest, ok := impl.ShortestShow(q, name)
		wantProcesses(t, rest, ok, texts[i:], true, "ShortestShow(%v, %q), in the list of %v,", q, name, p)
		if i == len(list)-1 {
			continue
		}
		// No result with a lesser text leads there with as few steps.
		for _, text := range resultTexts(t, q) {
			other, _ := impl.ParseProcess(text)
			if more, ok := impl.ShortestShow(other, name); ok && text < texts[i+1] && len(more) <= len(list)-i-1 {
				t.Fatalf("ShortestShow(%v, %q) = %q; from %q on, %d are enough", p, name, texts, text, len(more))
			}
		}
	}
}
