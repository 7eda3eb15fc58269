package tests

import (
	"fmt"
	"math/rand"
	"regexp"
	"slices"
	"strings"

	"loop.example/g01082/impl"
)

// A held is a Bigraph on the stack of a term, with the numbers that its sites have.
type held struct {
	b     impl.Bigraph
	sites []int
}

// takenBy says how many Bigraphs a step of a Kind takes from the stack, and -1 for other numbers.
func takenBy(kind int) int {
	switch kind {
	case impl.TermEmpty, impl.TermOne, impl.TermSite:
		return 0
	case impl.TermNode, impl.TermClose, impl.TermName:
		return 1
	case impl.TermMerge, impl.TermSide:
		return 2
	}
	return -1
}

// isPlain says whether a step over house has nothing in the fields that it does not use, and as
// many names as it uses.
func isPlain(s impl.TermStep) bool {
	control, site, names := s.Control == 0, s.Site == 0, len(s.Names)
	switch s.Kind {
	case impl.TermSite:
		return control && s.Site >= 0 && s.Site <= 3 && names == 0
	case impl.TermNode:
		return s.Control >= 0 && s.Control < len(house()) && site && names == house()[s.Control].Ports
	case impl.TermClose, impl.TermName:
		return control && site && names == 1
	}
	return control && site && names == 0
}

// nodeAs draws a node around all that is in the only root.
func nodeAs(b impl.Bigraph, control int, names []string) (impl.Bigraph, bool) {
	if b.Roots != 1 {
		return impl.Bigraph{}, false
	}
	d := drawn(b, "b").with(map[string]string{"b.root0": "new.node"})
	d.nodes = append([]drawnNode{{"new.node", control, "b.root0", names}}, d.nodes...)
	d.outer = distinct(slices.Concat(d.outer, names))
	return d.bigraph()
}

// leftBy makes a step with what it takes.
func leftBy(s impl.TermStep, taken []held) (held, bool) {
	whole, ok := held{}, true
	for _, h := range taken {
		whole.sites = append(whole.sites, h.sites...)
	}
	switch s.Kind {
	case impl.TermOne:
		whole.b.Roots = 1
	case impl.TermSite:
		whole = held{impl.Bigraph{Roots: 1, Sites: []int{-1}}, []int{s.Site}}
	case impl.TermNode:
		whole.b, ok = nodeAs(taken[0].b, s.Control, s.Names)
	case impl.TermMerge:
		whole.b, ok = mergeProductAs(taken[0].b, taken[1].b)
	case impl.TermSide:
		whole.b, ok = parallelAs(taken[0].b, taken[1].b)
	case impl.TermClose:
		whole.b, ok = closedAs(taken[0].b, s.Names[0])
	case impl.TermName:
		whole.b, ok = addedAs(taken[0].b, s.Names[0])
	}
	return whole, ok
}

// madeAs makes one more step with a stack.
func madeAs(stack []held, s impl.TermStep) ([]held, bool) {
	rest := len(stack) - takenBy(s.Kind)
	if takenBy(s.Kind) < 0 || rest < 0 || !isPlain(s) {
		return nil, false
	}
	left, ok := leftBy(s, stack[rest:])
	return append(slices.Clone(stack[:rest]), left), ok
}

// stackAs makes all steps; it also says how many Bigraphs are on the stack at one time.
func stackAs(t []impl.TermStep) (stack []held, depth int, ok bool) {
	for _, s := range t {
		if stack, ok = madeAs(stack, s); !ok {
			return nil, 0, false
		}
		depth = max(depth, len(stack))
	}
	return stack, depth, true
}

// valueAs is the value of a term; it fails if the term is not valid over house.
func valueAs(t []impl.TermStep) (impl.Bigraph, bool) {
	if len(t) > 60 {
		return impl.Bigraph{}, false
	}
	stack, _, ok := stackAs(t)
	if !ok || len(stack) != 1 {
		return impl.Bigraph{}, false
	}
	value, sites := stack[0].b, stack[0].sites
	if !slices.Equal(slices.Sorted(slices.Values(sites)), numbersFrom(0, len(sites))) {
		return impl.Bigraph{}, false
	}
	places := []int{}
	for _, site := range inverseOf(sites) {
		places = append(places, value.Sites[site])
	}
	value.Sites = places
	return value, true
}

// isWhole says whether some steps need nothing on the stack, and leave just one Bigraph.
func isWhole(t []impl.TermStep) bool {
	count := 0
	for _, s := range t {
		if count -= takenBy(s.Kind); count < 0 {
			return false
		}
		count++
	}
	return count == 1
}

// partsAs tries fewer and then more steps for the part of each step.
func partsAs(t []impl.TermStep) []int {
	list := []int{}
	for i := range t {
		first := i
		for !isWhole(t[first : i+1]) {
			first--
		}
		list = append(list, first)
	}
	return list
}

// stepWords are the words of steps, valid or not, over house.
func stepWords(t []impl.TermStep) string {
	words := []string{}
	for _, s := range t {
		names := strings.Join(s.Names, ",")
		switch s.Kind {
		case impl.TermSite:
			words = append(words, fmt.Sprintf("@%d", s.Site))
		case impl.TermNode:
			words = append(words, house()[s.Control].Name+":"+names)
		case impl.TermClose:
			words = append(words, "/"+names)
		case impl.TermName:
			words = append(words, "+"+names)
		default:
			words = append(words, map[int]string{impl.TermEmpty: "0", impl.TermOne: "1", impl.TermMerge: "|", impl.TermSide: "||"}[s.Kind])
		}
	}
	return strings.Join(words, " ")
}

var stepPattern = regexp.MustCompile(`\A(?:(0|1|\|\|?)|(@)(-?\d+)|([a-z]+):([a-z,]*)|([/+])([a-z]+))\z`)

// stepsOf reads words of steps over house, also of such that are no term.
func stepsOf(text string) ([]impl.TermStep, bool) {
	list := []impl.TermStep{}
	for _, word := range strings.Split(text, " ") {
		m := stepPattern.FindStringSubmatch(word)
		if m == nil {
			return nil, false
		}
		s := impl.TermStep{Kind: slices.Index([]string{"0", "1", "@", ":", "|", "||", "/", "+"}, m[1]+m[2]+m[6])}
		switch {
		case m[2] != "":
			s.Site = numberOf(m[3])
		case m[4] != "":
			s.Kind, s.Control = impl.TermNode, slices.IndexFunc(house(), func(c impl.Control) bool { return c.Name == m[4] })
			if m[5] != "" {
				s.Names = strings.Split(m[5], ",")
			}
		case m[6] != "":
			s.Names = []string{m[7]}
		}
		list = append(list, s)
	}
	return list, true
}

// termOfText reads a text; it fails if no valid term has it.
func termOfText(text string) ([]impl.TermStep, bool) {
	t, ok := stepsOf(text)
	if !ok {
		return nil, false
	}
	// Leading zeros match the pattern.
	if _, ok := valueAs(t); !ok || stepWords(t) != text {
		return nil, false
	}
	return t, true
}

// termAs is the text of the term of a Bigraph; it fails if there is none.
func termAs(b impl.Bigraph) (string, bool) {
	if !isFine(house(), b) || len(b.Inner) > 0 || b.Edges+len(b.Outer) > 16 {
		return "", false
	}
	links := []string{}
	for _, letter := range strings.Split("abcdefghijklmnopqrstuvwxyz", "") {
		if len(links) < b.Edges && !slices.Contains(b.Outer, letter) {
			links = append(links, letter)
		}
	}
	links = append(links, b.Outer...)
	text := wordsUnder(b, links, -1)
	for root := 1; root < b.Roots; root++ {
		text += " " + wordsUnder(b, links, -1-root) + " ||"
	}
	if b.Roots == 0 {
		text = "0"
	}
	for link, name := range links {
		if !slices.Contains(linkNames(b), name) && !slices.Contains(linkNames(b), fmt.Sprint(link)) {
			text += " +" + name
		}
	}
	for _, name := range links[:b.Edges] {
		text += " /" + name
	}
	return text, strings.Count(text, " ") < 60
}

// wordsUnder are the words of what is in a root or a node.
func wordsUnder(b impl.Bigraph, links []string, place int) string {
	members := []string{}
	for k, node := range b.Nodes {
		if node.Parent == place {
			names := []string{}
			for _, link := range node.Links {
				names = append(names, links[link])
			}
			members = append(members, wordsUnder(b, links, k)+" "+house()[node.Control].Name+":"+strings.Join(names, ","))
		}
	}
	for i, parent := range b.Sites {
		if parent == place {
			members = append(members, fmt.Sprintf("@%d", i))
		}
	}
	if len(members) == 0 {
		return "1"
	}
	text := members[0]
	for _, member := range members[1:] {
		text += " " + member + " |"
	}
	return text
}

// axiomTable has, for each axiom, what it replaces and by what, in words: a, b and c are parts.
var axiomTable = map[int][2]string{
	impl.SwapMerge:  {"a b |", "b a |"},
	impl.ShiftMerge: {"a b | c |", "a b c | |"},
	impl.DropOne:    {"a 1 |", "a"},
	impl.ShiftSide:  {"a b || c ||", "a b c || ||"},
	impl.SwapClose:  {"a /x /y", "a /y /x"},
	impl.LiftNode:   {"a /x node", "a node /x"},
	impl.LiftSide:   {"a /x b ||", "a b || /x"},
}

// bind finds the steps for which each word of a pattern stands.
func bind(pattern []string, t []impl.TermStep) (map[string][]impl.TermStep, bool) {
	if len(pattern) == 0 {
		return map[string][]impl.TermStep{}, len(t) == 0
	}
	for size := 1; size <= len(t); size++ {
		if !standsFor(pattern[0], t[:size]) {
			continue
		}
		if words, ok := bind(pattern[1:], t[size:]); ok {
			words[pattern[0]] = t[:size]
			return words, true
		}
	}
	return nil, false
}

func standsFor(word string, t []impl.TermStep) bool {
	kinds := map[string]int{"1": impl.TermOne, "|": impl.TermMerge, "||": impl.TermSide, "/x": impl.TermClose, "/y": impl.TermClose, "node": impl.TermNode}
	if kind, ok := kinds[word]; ok {
		return len(t) == 1 && t[0].Kind == kind
	}
	return isWhole(t)
}

// isAllowed says whether the condition of an axiom is met.
func isAllowed(axiom int, words map[string][]impl.TermStep) bool {
	switch axiom {
	case impl.DropOne:
		stack, _, _ := stackAs(words["a"])
		return stack[0].b.Roots == 1
	case impl.SwapClose:
		return words["/x"][0].Names[0] != words["/y"][0].Names[0]
	case impl.LiftNode:
		return !slices.Contains(words["node"][0].Names, words["/x"][0].Names[0])
	case impl.LiftSide:
		stack, _, _ := stackAs(words["b"])
		return !slices.Contains(stack[0].b.Outer, words["/x"][0].Names[0])
	}
	return true
}

// appliedAs applies an axiom by the table; it fails for steps that are no term.
func appliedAs(t []impl.TermStep, axiom int, at int) ([]impl.TermStep, bool) {
	if _, ok := valueAs(t); !ok {
		return nil, false
	}
	return replacedAs(t, axiom, at)
}

// replacedAs applies an axiom to a term.
func replacedAs(t []impl.TermStep, axiom int, at int) ([]impl.TermStep, bool) {
	row, known := axiomTable[axiom]
	if !known || at < 0 || at >= len(t) {
		return nil, false
	}
	first := partsAs(t)[at]
	words, ok := bind(strings.Fields(row[0]), t[first:at+1])
	if !ok || !isAllowed(axiom, words) {
		return nil, false
	}
	result := slices.Clone(t[:first])
	for _, word := range strings.Fields(row[1]) {
		result = append(result, words[word]...)
	}
	result = append(result, t[at+1:]...)
	_, ok = valueAs(result)
	return result, ok
}

func cloneOfSteps(t []impl.TermStep) []impl.TermStep {
	t = slices.Clone(t)
	for i := range t {
		t[i].Names = slices.Clone(t[i].Names)
	}
	return t
}

// isSameTerm compares two terms; a nil list is an empty one.
func isSameTerm(t []impl.TermStep, u []impl.TermStep) bool {
	return slices.EqualFunc(t, u, func(x, y impl.TermStep) bool {
		return x.Kind == y.Kind && x.Control == y.Control && x.Site == y.Site && slices.Equal(x.Names, y.Names)
	})
}

// termWords are few names, so that steps often have the same ones.
var termWords = []string{"a", "b", "x", "yy", "zzzz"}

// All Kinds of steps, some of them more often; and more names that are closed.
var (
	allKinds   = []int{0, 1, 1, 2, 3, 3, 3, 4, 4, 5, 5, 6, 7}
	closeKinds = []int{0, 1, 2, 3, 3, 4, 5, 6, 6, 6, 6, 6, 6, 7}
)

// randomStep makes a step over house, of one of some Kinds, that has names and numbers of the
// right kind.
func randomStep(r *rand.Rand, kinds []int) impl.TermStep {
	s := impl.TermStep{Kind: pick(r, kinds)}
	names := 0
	switch s.Kind {
	case impl.TermSite:
		s.Site = r.Intn(4)
	case impl.TermNode:
		s.Control = r.Intn(len(house()))
		names = house()[s.Control].Ports
	case impl.TermClose, impl.TermName:
		names = 1
	}
	for range names {
		s.Names = append(s.Names, pick(r, termWords))
	}
	return s
}

// randomTerm makes a term of up to so many steps before all that is on the stack is put together.
// Most of them are valid.
func randomTerm(r *rand.Rand, kinds []int, most int) []impl.TermStep {
	t, stack, size := []impl.TermStep{}, []held{}, 1+r.Intn(most)
	// With a stack of Bigraphs that are all full, no step could be made any more.
	for tries := 0; len(t) < size && tries < 20*size; tries++ {
		s := randomStep(r, kinds)
		if s.Kind == impl.TermClose && len(stack) > 0 && len(stack[len(stack)-1].b.Outer) > 0 {
			s.Names[0] = pick(r, stack[len(stack)-1].b.Outer)
		}
		// An empty stack and a long one make most of the other steps fail in the end.
		if next, ok := madeAs(stack, s); ok && (len(next) < 5 || takenBy(s.Kind) == 2) {
			t, stack = append(t, s), next
		}
	}
	for len(stack) > 1 {
		s := impl.TermStep{Kind: pick(r, []int{impl.TermMerge, impl.TermSide})}
		next, ok := madeAs(stack, s)
		if !ok {
			break
		}
		t, stack = append(t, s), next
	}
	return withSiteNumbers(r, t)
}

// withSiteNumbers gives the numbers 0, 1, .. to the sites of a term in any order.
func withSiteNumbers(r *rand.Rand, t []impl.TermStep) []impl.TermStep {
	sites := []int{}
	for i, s := range t {
		if s.Kind == impl.TermSite {
			sites = append(sites, i)
		}
	}
	for number, k := range r.Perm(len(sites)) {
		t[sites[k]].Site = number
	}
	return t
}

// validTerms makes so many valid terms.
func validTerms(seed int64, count int, most int) [][]impl.TermStep {
	return validTermsOf(seed, allKinds, count, most)
}

// closedTerms are valid terms in which many names are closed.
func closedTerms(seed int64, count int, most int) [][]impl.TermStep {
	return validTermsOf(seed, closeKinds, count, most)
}

func validTermsOf(seed int64, kinds []int, count int, most int) [][]impl.TermStep {
	r, list := rand.New(rand.NewSource(seed)), [][]impl.TermStep{}
	for len(list) < count {
		t := randomTerm(r, kinds, most)
		if _, ok := valueAs(t); ok {
			list = append(list, t)
		}
	}
	return list
}

// changedTerms changes a term in single things: steps are left out, put in and moved, and fields
// have other numbers and names.
func changedTerms(r *rand.Rand, t []impl.TermStep) [][]impl.TermStep {
	list := [][]impl.TermStep{}
	i, j := r.Intn(len(t)), r.Intn(len(t))
	change := func(make func(*impl.TermStep)) {
		other := cloneOfSteps(t)
		make(&other[i])
		list = append(list, other)
	}
	n := pick(r, []int{-1, 0, 1, 2, 3, 4, 5, 6, 7, 8})
	change(func(s *impl.TermStep) { s.Kind = n })
	change(func(s *impl.TermStep) { s.Control = n })
	change(func(s *impl.TermStep) { s.Site = n })
	change(func(s *impl.TermStep) { s.Names = append(s.Names, "x") })
	change(func(s *impl.TermStep) { s.Names = s.Names[:max(0, len(s.Names)-1)] })
	change(func(s *impl.TermStep) {
		for k := range s.Names {
			s.Names[k] = pick(r, []string{"a", "b", "x", "new", "", "toolong"})
		}
	})
	change(func(s *impl.TermStep) { *s = randomStep(r, allKinds) })
	swapped := cloneOfSteps(t)
	swapped[i], swapped[j] = swapped[j], swapped[i]
	return append(list, swapped, slices.Delete(cloneOfSteps(t), i, i+1), slices.Insert(cloneOfSteps(t), i, randomStep(r, allKinds)), slices.Insert(cloneOfSteps(t), i, t[i:]...))
}
