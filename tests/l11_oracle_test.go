package tests

import (
	"fmt"
	"math/rand"
	"regexp"
	"slices"
	"strings"

	"loop.example/g01082/impl"
)

// labels is a Labelled system: a word for each state, of the digits of its marks or of a hyphen, and
// Steps.
func labels(shows string, steps ...[3]int) impl.Labelled {
	l := impl.Labelled{Steps: steps}
	for _, word := range strings.Fields(shows) {
		marks := []int{}
		for _, digit := range strings.Trim(word, "-") {
			marks = append(marks, int(digit-'0'))
		}
		l.Shows = append(l.Shows, marks)
	}
	return l
}

// bare is a Labelled system with so many states, which show no marks.
func bare(states int, steps ...[3]int) impl.Labelled {
	return impl.Labelled{Shows: make([][]int, states), Steps: steps}
}

func cloneOfLabelled(l impl.Labelled) impl.Labelled {
	return impl.Labelled{Shows: cloneOfLists(l.Shows), Steps: slices.Clone(l.Steps)}
}

func isSameLabelled(l impl.Labelled, k impl.Labelled) bool {
	return slices.EqualFunc(l.Shows, k.Shows, slices.Equal) && slices.Equal(l.Steps, k.Steps)
}

func isSameLabelStep(s impl.LabelStep, u impl.LabelStep) bool {
	return s.Context == u.Context && s.Rule == u.Rule && isSame(s.Result, u.Result)
}

func isLabelledAs(l impl.Labelled) bool {
	n := len(l.Shows)
	if n < 1 || n > 40 || slices.ContainsFunc(l.Shows, func(marks []int) bool { return !climbs(marks, 0, 7) }) {
		return false
	}
	for _, s := range l.Steps {
		if !staysIn([]int{s[0], s[2]}, 0, n-1) || !staysIn(s[1:2], 0, 7) {
			return false
		}
	}
	return slices.Equal(inOrder(slices.Clone(l.Steps)), l.Steps)
}

// answersAs reports whether each Step of s has a Step of t with the same action, such that the
// states to which they lead are related.
func answersAs(l impl.Labelled, s int, t int, related func(x int, y int) bool) bool {
	for _, step := range l.Steps {
		if step[0] != s {
			continue
		}
		if !slices.ContainsFunc(l.Steps, func(u [3]int) bool { return u[0] == t && u[1] == step[1] && related(step[2], u[2]) }) {
			return false
		}
	}
	return true
}

func areLike(l impl.Labelled, s int, t int) bool { return slices.Equal(l.Shows[s], l.Shows[t]) }

// togetherIn tells for each round and two states whether they are together; there are as many rounds
// as states, and one more.
func togetherIn(l impl.Labelled) [][][]bool {
	n, rounds := len(l.Shows), [][][]bool{}
	for k := range n + 1 {
		round := [][]bool{}
		for s := range n {
			round = append(round, make([]bool, n))
			for u := range n {
				if k == 0 {
					round[s][u] = areLike(l, s, u)
					continue
				}
				last := func(x int, y int) bool { return rounds[k-1][x][y] }
				round[s][u] = last(s, u) && answersAs(l, s, u, last) && answersAs(l, u, s, last)
			}
		}
		rounds = append(rounds, round)
	}
	return rounds
}

func bisimilarAs(l impl.Labelled) []int {
	rounds, list := togetherIn(l), []int{}
	for _, together := range rounds[len(rounds)-1] {
		list = append(list, slices.Index(together, true))
	}
	return list
}

func isBisimulationAs(l impl.Labelled, pairs [][2]int) bool {
	there := func(x int, y int) bool { return slices.Contains(pairs, [2]int{x, y}) }
	back := func(x int, y int) bool { return there(y, x) }
	for _, pair := range pairs {
		s, t := pair[0], pair[1]
		if !areLike(l, s, t) || !answersAs(l, s, t, there) || !answersAs(l, t, s, back) {
			return false
		}
	}
	return true
}

// simulatedAs tells for each two states whether the first one is simulated by the second one: the
// pairs that do not answer are taken out one by one.
func simulatedAs(l impl.Labelled) [][]bool {
	n, is := len(l.Shows), [][]bool{}
	for s := range n {
		is = append(is, make([]bool, n))
		for u := range n {
			is[s][u] = !slices.ContainsFunc(l.Shows[s], func(mark int) bool { return !slices.Contains(l.Shows[u], mark) })
		}
	}
	for changed := true; changed; {
		changed = false
		for s := range n {
			for u := range n {
				if is[s][u] && !answersAs(l, s, u, func(x int, y int) bool { return is[x][y] }) {
					is[s][u], changed = false, true
				}
			}
		}
	}
	return is
}

func saturatedAs(l impl.Labelled) impl.Labelled {
	n, silent := len(l.Shows), [][3]int{}
	for _, s := range l.Steps {
		if s[1] == 0 {
			silent = append(silent, s)
		}
	}
	reach, full := reachAs(stepsOnly(n, silent...)), bare(n)
	for s := range n {
		for mark := range 8 {
			for u := range n {
				if reach[s][u] && slices.Contains(l.Shows[u], mark) {
					full.Shows[s] = append(full.Shows[s], mark)
					break
				}
			}
		}
		for u := range n {
			if reach[s][u] {
				full.Steps = append(full.Steps, [3]int{s, 0, u})
			}
			for _, step := range l.Steps {
				if reach[s][step[0]] && reach[step[2]][u] {
					full.Steps = append(full.Steps, [3]int{s, step[1], u})
				}
			}
		}
	}
	full.Steps = inOrder(full.Steps)
	return full
}

// headOf is what a formula has in front of its parts, and the number of these; it is empty if a list
// begins with no form.
func headOf(f []int) (head []int, parts int) {
	if len(f) == 0 || f[0] < 0 || f[0] > 4 {
		return nil, 0
	}
	size, parts := []int{1, 2, 1, 1, 2}[f[0]], []int{0, 0, 1, 2, 1}[f[0]]
	if len(f) < size || size == 2 && (f[1] < 0 || f[1] > 7) {
		return nil, 0
	}
	return f[:size], parts
}

// isFormulaAs counts the formulas that have to come.
func isFormulaAs(f []int) bool {
	if len(f) > 200 {
		return false
	}
	open := 1
	for open > 0 {
		head, parts := headOf(f)
		if head == nil {
			return false
		}
		open, f = open+parts-1, f[len(head):]
	}
	return len(f) == 0
}

// cutFormula cuts the formula with which a list begins off its rest.
func cutFormula(f []int) (first []int, rest []int) {
	for end := range len(f) + 1 {
		if isFormulaAs(f[:end]) {
			return f[:end], f[end:]
		}
	}
	return nil, f
}

func satisfiesAs(l impl.Labelled, f []int, state int) bool {
	switch f[0] {
	case 0:
		return true
	case 1:
		return slices.Contains(l.Shows[state], f[1])
	case 2:
		return !satisfiesAs(l, f[1:], state)
	case 3:
		first, second := cutFormula(f[1:])
		return satisfiesAs(l, first, state) && satisfiesAs(l, second, state)
	}
	return slices.ContainsFunc(l.Steps, func(s [3]int) bool {
		return s[0] == state && s[1] == f[1] && satisfiesAs(l, f[2:], s[2])
	})
}

func satisfyingAs(l impl.Labelled, f []int) []int {
	list := []int{}
	for state := range l.Shows {
		if satisfiesAs(l, f, state) {
			list = append(list, state)
		}
	}
	return list
}

// telling keeps the formulas for pairs of states.
type telling struct {
	l      impl.Labelled
	rounds [][][]bool
	known  map[[2]int][]int
}

// roundOf is the first round in which two states are not together, or -1.
func (x *telling) roundOf(s int, t int) int {
	return slices.IndexFunc(x.rounds, func(round [][]bool) bool { return !round[s][t] })
}

// formula is nil if one on the way is too long.
func (x *telling) formula(s int, t int) []int {
	f, known := x.known[[2]int{s, t}]
	if !known {
		f = x.built(s, t)
		if len(f) > 200 {
			f = nil
		}
		x.known[[2]int{s, t}] = f
	}
	return f
}

func (x *telling) built(s int, t int) []int {
	n := x.roundOf(s, t)
	if n == 0 {
		for mark := range 8 {
			if slices.Contains(x.l.Shows[s], mark) && !slices.Contains(x.l.Shows[t], mark) {
				return []int{1, mark}
			}
			if slices.Contains(x.l.Shows[t], mark) && !slices.Contains(x.l.Shows[s], mark) {
				return []int{2, 1, mark}
			}
		}
	}
	for _, step := range x.l.Steps {
		if step[0] != s {
			continue
		}
		others, matched := []int{}, false
		for _, u := range x.l.Steps {
			if u[0] == t && u[1] == step[1] {
				others, matched = append(others, u[2]), matched || x.rounds[n-1][step[2]][u[2]]
			}
		}
		if matched {
			continue
		}
		all := [][]int{}
		for _, other := range others {
			f := x.formula(step[2], other)
			if f == nil {
				return nil
			}
			all = append(all, f)
		}
		return append([]int{4, step[1]}, conjunctionOf(all)...)
	}
	if f := x.formula(t, s); f != nil {
		return append([]int{2}, f...)
	}
	return nil
}

func conjunctionOf(all [][]int) []int {
	switch len(all) {
	case 0:
		return []int{0}
	case 1:
		return slices.Clone(all[0])
	}
	return slices.Concat([]int{3}, all[0], conjunctionOf(all[1:]))
}

// tellsOf builds the formulas for all pairs of states: an empty one for bisimilar states, and where
// one on the way is too long.
func tellsOf(l impl.Labelled) map[[2]int][]int {
	x := telling{l, togetherIn(l), map[[2]int][]int{}}
	for s := range l.Shows {
		for t := range l.Shows {
			if x.roundOf(s, t) >= 0 {
				x.formula(s, t)
			}
		}
	}
	return x.known
}

// formulaWords writes a list of heads, which need not be a formula.
func formulaWords(f []int) string {
	words := ""
	for len(f) > 0 {
		head, _ := headOf(f)
		if head == nil {
			return words + "?"
		}
		words += []string{"t", "m", "!", "&", "<"}[f[0]]
		if len(head) == 2 {
			words += fmt.Sprint(f[1])
		}
		if f[0] == 4 {
			words += ">"
		}
		f = f[len(head):]
	}
	return words
}

var (
	formulaPattern = regexp.MustCompile(`^(t|m[0-7]|!|&|<[0-7]>)*$`)
	headPattern    = regexp.MustCompile(`t|m.|!|&|<.>`)
)

func formulaOfText(s string) ([]int, bool) {
	if len(s) > 1000 || !formulaPattern.MatchString(s) {
		return nil, false
	}
	f := []int{}
	for _, head := range headPattern.FindAllString(s, -1) {
		f = append(f, strings.Index("tm!&<", head[:1]))
		if len(head) > 1 {
			f = append(f, int(head[1]-'0'))
		}
	}
	return f, isFormulaAs(f)
}

func quotientAs(l impl.Labelled) impl.Labelled {
	least, number, small := bisimilarAs(l), map[int]int{}, impl.Labelled{}
	for state, other := range least {
		if state == other {
			number[state] = len(number)
			small.Shows = append(small.Shows, l.Shows[state])
		}
	}
	for _, s := range l.Steps {
		if from, is := number[s[0]]; is {
			small.Steps = append(small.Steps, [3]int{from, s[1], number[least[s[2]]]})
		}
	}
	small.Steps = inOrder(small.Steps)
	return small
}

func unionAs(a impl.Labelled, b impl.Labelled) (impl.Labelled, bool) {
	n, both := len(a.Shows), cloneOfLabelled(a)
	both.Shows = append(both.Shows, b.Shows...)
	for _, s := range b.Steps {
		both.Steps = append(both.Steps, [3]int{s[0] + n, s[1], s[2] + n})
	}
	if len(both.Shows) > 40 {
		return impl.Labelled{}, false
	}
	return both, true
}

// labelSystemAs fails as LabelSystem does for a valid System and patterns that are redexes.
func labelSystemAs(x impl.System, patterns []impl.Bigraph, actions []int) (impl.Labelled, bool) {
	if len(patterns) > 8 || len(actions) != 6 || !staysIn(actions, 0, 7) {
		return impl.Labelled{}, false
	}
	l := bare(len(x.States))
	for mark, pattern := range patterns {
		for _, state := range patternStatesAs(x, pattern) {
			l.Shows[state] = append(l.Shows[state], mark)
		}
	}
	for _, s := range x.Steps {
		l.Steps = append(l.Steps, [3]int{s[0], actions[s[1]], s[2]})
	}
	l.Steps = inOrder(l.Steps)
	return l, true
}

// stepNumbers are the numbers by which the steps of one context are in order.
func stepNumbers(s impl.LabelStep) [][]int {
	code, _ := codeAs(s.Result)
	return [][]int{{s.Context, s.Rule}, code, {s.Result.Edges}}
}

// contextStepsAs fails as ContextSteps does for valid Rules, contexts and agents.
func contextStepsAs(rules []impl.Rule, contexts []impl.Bigraph, agent impl.Bigraph) ([]impl.LabelStep, bool) {
	if len(contexts) < 1 || len(contexts) > 4 {
		return nil, false
	}
	list := []impl.LabelStep{}
	for i, context := range contexts {
		whole, ok := composedAs(context, agent)
		if !ok {
			return nil, false
		}
		all, ok := allStepsAs(rules, whole)
		if !ok {
			return nil, false
		}
		for _, step := range all {
			next := impl.LabelStep{Context: i, Rule: step.Rule, Result: formAs(step.Result)}
			if !slices.ContainsFunc(list, func(s impl.LabelStep) bool { return isSameLabelStep(s, next) }) {
				list = append(list, next)
			}
		}
	}
	slices.SortFunc(list, func(s impl.LabelStep, u impl.LabelStep) int {
		return slices.CompareFunc(stepNumbers(s), stepNumbers(u), slices.Compare)
	})
	return list, true
}

// alikeAs fails as AlikeIn does for valid Rules and agents and patterns that are redexes.
func alikeAs(rules []impl.Rule, patterns []impl.Bigraph, contexts []impl.Bigraph, a impl.Bigraph, b impl.Bigraph, most int) ([]bool, bool) {
	if len(contexts) < 1 || len(contexts) > 4 || most < 1 || most > 40 {
		return nil, false
	}
	list := []bool{}
	for _, context := range contexts {
		both := []impl.Labelled{}
		for _, agent := range []impl.Bigraph{a, b} {
			whole, ok := composedAs(context, agent)
			if !ok {
				return nil, false
			}
			x, ok := exploredAs(rules, whole, most)
			if !ok {
				return nil, false
			}
			l, ok := labelSystemAs(x, patterns, []int{1, 1, 1, 1, 1, 1})
			if !ok {
				return nil, false
			}
			both = append(both, l)
		}
		union, ok := unionAs(both[0], both[1])
		if !ok {
			return nil, false
		}
		list = append(list, bisimilarAs(union)[len(both[0].Shows)] == 0)
	}
	return list, true
}

// randomLabelled makes a Labelled system with so many states, and at most so many Steps, marks and
// actions.
func randomLabelled(r *rand.Rand, states int, steps int, marks int, actions int) impl.Labelled {
	l := bare(states)
	for state := range states {
		l.Shows[state] = someOf(r, numbersFrom(0, 8), min(8, r.Intn(marks+1)))
	}
	for range r.Intn(steps + 1) {
		l.Steps = append(l.Steps, [3]int{r.Intn(states), r.Intn(actions), r.Intn(states)})
	}
	l.Steps = inOrder(l.Steps)
	return l
}

// blownUp is a Labelled system with several copies of each state, which have a Step to some copies of
// each state to which that leads; it also tells of which state each one is a copy.
func blownUp(r *rand.Rand, l impl.Labelled, states int) (impl.Labelled, []int) {
	big, of := bare(states), numbersFrom(0, len(l.Shows))
	for len(of) < states {
		of = append(of, r.Intn(len(l.Shows)))
	}
	r.Shuffle(states, func(i int, j int) { of[i], of[j] = of[j], of[i] })
	for state, old := range of {
		big.Shows[state] = slices.Clone(l.Shows[old])
		for _, s := range l.Steps {
			if s[0] != old {
				continue
			}
			copies := []int{}
			for other := range of {
				if of[other] == s[2] {
					copies = append(copies, other)
				}
			}
			for _, to := range append(someOf(r, copies, 2), pick(r, copies)) {
				big.Steps = append(big.Steps, [3]int{state, s[1], to})
			}
		}
	}
	big.Steps = inOrder(big.Steps)
	return big, of
}

// randomFormula makes a formula of so many numbers, or of one or two more.
func randomFormula(r *rand.Rand, size int) []int {
	switch {
	case size <= 1:
		return pick(r, [][]int{{0}, {1, r.Intn(8)}, {1, r.Intn(3)}})
	case size > 3 && r.Intn(2) == 0:
		first := 1 + r.Intn(size-2)
		return slices.Concat([]int{3}, randomFormula(r, first), randomFormula(r, size-1-first))
	case r.Intn(3) == 0:
		return append([]int{2}, randomFormula(r, size-1)...)
	}
	return append([]int{4, r.Intn(3)}, randomFormula(r, size-2)...)
}

// allLabelled are all Labelled systems with so many states and actions, whose states show the mark 0
// or none.
func allLabelled(states int, actions int) []impl.Labelled {
	list := []impl.Labelled{}
	for _, x := range allSystems(states, actions) {
		for _, shown := range partsOfList(numbersFrom(0, states)) {
			l := bare(states, x.Steps...)
			for _, state := range shown {
				l.Shows[state] = []int{0}
			}
			list = append(list, l)
		}
	}
	return list
}
