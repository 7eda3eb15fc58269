package tests

import (
	"fmt"
	"math/big"
	"math/rand"
	"slices"

	"loop.example/g01082/impl"
)

func cloneOfSystem(x impl.System) impl.System {
	y := impl.System{Steps: slices.Clone(x.Steps)}
	for _, b := range x.States {
		y.States = append(y.States, cloneOf(b))
	}
	return y
}

func isSameSystem(x impl.System, y impl.System) bool {
	return slices.EqualFunc(x.States, y.States, isSame) && slices.Equal(x.Steps, y.Steps)
}

// stepsOnly is a System with so many States, which are no valid Bigraphs, and some Steps.
func stepsOnly(states int, steps ...[3]int) impl.System {
	x := impl.System{Steps: steps}
	for k := range states {
		x.States = append(x.States, impl.Bigraph{Roots: -1 - k})
	}
	return x
}

func compareAs(s [3]int, u [3]int) int { return slices.Compare(s[:], u[:]) }

// inOrder sorts some Steps, and drops those that are there twice.
func inOrder(steps [][3]int) [][3]int {
	slices.SortFunc(steps, compareAs)
	return slices.Compact(steps)
}

func isSystemAs(x impl.System) bool {
	n := len(x.States)
	if n < 1 || n > 40 || !slices.Equal(inOrder(slices.Clone(x.Steps)), x.Steps) {
		return false
	}
	for _, s := range x.Steps {
		if !staysIn([]int{s[0], s[2]}, 0, n-1) || !staysIn(s[1:2], 0, 5) {
			return false
		}
	}
	return true
}

// formAs is the canonical form of an agent, from all orders of its nodes if these are few.
func formAs(b impl.Bigraph) impl.Bigraph {
	if len(b.Nodes) > 4 {
		form, _ := impl.CanonicalOf(house(), b)
		return form
	}
	_, _, form := canonicalAs(b)
	return form
}

func indexAs(states []impl.Bigraph, b impl.Bigraph) int {
	return slices.IndexFunc(states, func(state impl.Bigraph) bool { return isSame(state, b) })
}

// exploredAs goes from one agent to the next one; it fails as ExploreSystem does for valid
// arguments.
func exploredAs(rules []impl.Rule, agent impl.Bigraph, most int) (impl.System, bool) {
	x := impl.System{States: []impl.Bigraph{formAs(agent)}}
	for state := 0; state < len(x.States); state++ {
		all, ok := allStepsAs(rules, x.States[state])
		if !ok || len(x.States) > most {
			return impl.System{}, false
		}
		for _, step := range all {
			form := formAs(step.Result)
			if indexAs(x.States, form) < 0 {
				x.States = append(x.States, form)
			}
			x.Steps = append(x.Steps, [3]int{state, step.Rule, indexAs(x.States, form)})
		}
	}
	x.Steps = inOrder(x.Steps)
	return x, true
}

// The conditions under which a System is whole, in the order of the document.
const (
	otherStates = iota
	notReached
	notClosed
	otherSteps
)

// brokenIn lists the conditions of whole Systems that do not hold for a valid one; it fails as
// IsWhole does.
func brokenIn(rules []impl.Rule, x impl.System) ([]int, bool) {
	for state, b := range x.States {
		if !isFine(house(), b) || !isAgentAs(b) || !isSame(formAs(b), b) || indexAs(x.States, b) != state {
			return []int{otherStates}, true
		}
	}
	broken, steps := map[int]bool{}, [][3]int{}
	for state, b := range x.States {
		all, ok := allStepsAs(rules, b)
		if !ok {
			return nil, false
		}
		for _, step := range all {
			to := indexAs(x.States, formAs(step.Result))
			if to < 0 {
				broken[notClosed] = true
				continue
			}
			steps = append(steps, [3]int{state, step.Rule, to})
		}
	}
	broken[otherSteps] = !slices.Equal(inOrder(steps), x.Steps)
	broken[notReached] = slices.Contains(reachAs(x)[0], false)
	list := []int{}
	for condition := otherStates; condition <= otherSteps; condition++ {
		if broken[condition] {
			list = append(list, condition)
		}
	}
	return list, true
}

// reachAs tells for each two states whether a way leads from the first one to the second one.
func reachAs(x impl.System) [][]bool {
	reach := [][]bool{}
	for state := range x.States {
		reach = append(reach, make([]bool, len(x.States)))
		reach[state][state] = true
	}
	for _, s := range x.Steps {
		reach[s[0]][s[2]] = true
	}
	for via := range x.States {
		for from := range x.States {
			for to := range x.States {
				reach[from][to] = reach[from][to] || reach[from][via] && reach[via][to]
			}
		}
	}
	return reach
}

func reachedAs(x impl.System, from int) []int {
	list := []int{}
	for to, is := range reachAs(x)[from] {
		if is {
			list = append(list, to)
		}
	}
	return list
}

func loopsAs(x impl.System) []int {
	reach, loops := reachAs(x), []int{}
	for state := range x.States {
		least := 0
		for !reach[state][least] || !reach[least][state] {
			least++
		}
		loops = append(loops, least)
	}
	return loops
}

func endsAs(x impl.System) []int {
	list := []int{}
	for state := range x.States {
		if !slices.ContainsFunc(x.Steps, func(s [3]int) bool { return s[0] == state }) {
			list = append(list, state)
		}
	}
	return list
}

// endOf is the state in which a list of Steps ends, if it is a way from a state.
func endOf(x impl.System, from int, way [][3]int) (int, bool) {
	for _, s := range way {
		if !slices.Contains(x.Steps, s) || s[0] != from {
			return 0, false
		}
		from = s[2]
	}
	return from, true
}

// waysAs lists all ways from a state with a length, in ascending order.
func waysAs(x impl.System, from int, length int) [][][3]int {
	list := [][][3]int{{}}
	for range length {
		longer := [][][3]int{}
		for _, way := range list {
			end, _ := endOf(x, from, way)
			for _, s := range x.Steps {
				if s[0] == end {
					longer = append(longer, append(slices.Clone(way), s))
				}
			}
		}
		list = longer
	}
	return list
}

// shortestAs tries all ways, the shorter ones first.
func shortestAs(x impl.System, from int, goals []int) ([][3]int, bool) {
	if !slices.ContainsFunc(reachedAs(x, from), func(state int) bool { return slices.Contains(goals, state) }) {
		return nil, false
	}
	for length := 0; ; length++ {
		for _, way := range waysAs(x, from, length) {
			if end, _ := endOf(x, from, way); slices.Contains(goals, end) {
				return way, true
			}
		}
	}
}

func isClosedAs(x impl.System, states []int) bool {
	for _, s := range x.Steps {
		if slices.Contains(states, s[0]) && !slices.Contains(states, s[2]) {
			return false
		}
	}
	return true
}

func alwaysAs(x impl.System, from int, goals []int) bool {
	return !slices.ContainsFunc(reachedAs(x, from), func(state int) bool { return !slices.Contains(goals, state) })
}

// rankAs follows all ways from a state up to goals. It is -1 if one of them ends before, or comes
// to one of the states that are behind it, and otherwise the length of the longest one.
func rankAs(x impl.System, goals []int, state int, behind []int) int {
	if slices.Contains(goals, state) {
		return 0
	}
	rank := -1
	for _, s := range x.Steps {
		if s[0] != state {
			continue
		}
		if s[2] == state || slices.Contains(behind, s[2]) {
			return -1
		}
		next := rankAs(x, goals, s[2], append(behind, state))
		if next < 0 {
			return -1
		}
		rank = max(rank, next+1)
	}
	return rank
}

func ranksAs(x impl.System, goals []int) []int {
	ranks := []int{}
	for state := range x.States {
		ranks = append(ranks, rankAs(x, goals, state, nil))
	}
	return ranks
}

func isRankingAs(x impl.System, goals []int, ranks []int) bool {
	if len(ranks) != len(x.States) {
		return false
	}
	for state, rank := range ranks {
		less, steps := 0, 0
		for _, s := range x.Steps {
			if s[0] == state {
				steps++
				if ranks[s[2]] >= 0 && ranks[s[2]] < rank {
					less++
				}
			}
		}
		if rank < -1 || rank >= 0 && !slices.Contains(goals, state) && (steps == 0 || less < steps) {
			return false
		}
	}
	return true
}

// countAs counts ways with numbers that do not overflow.
func countAs(x impl.System, from int, length int) (int, bool) {
	counts := make([]*big.Int, len(x.States))
	for state := range counts {
		counts[state] = big.NewInt(1)
	}
	for range length {
		longer := make([]*big.Int, len(x.States))
		for state := range longer {
			longer[state] = big.NewInt(0)
		}
		for _, s := range x.Steps {
			longer[s[0]].Add(longer[s[0]], counts[s[2]])
		}
		counts = longer
	}
	if counts[from].Cmp(big.NewInt(1000000000)) > 0 {
		return 0, false
	}
	return int(counts[from].Int64()), true
}

func wordAs(way [][3]int) []int {
	word := []int{}
	for _, s := range way {
		word = append(word, s[1])
	}
	return word
}

func patternStatesAs(x impl.System, pattern impl.Bigraph) []int {
	list := []int{}
	for state, b := range x.States {
		if len(matchesAs(pattern, b)) > 0 {
			list = append(list, state)
		}
	}
	return list
}

// randomSystem makes a System of Steps alone, with so many states and at most so many Steps and
// Rules; often its Steps lead to states behind their own, so that there are few loops.
func randomSystem(r *rand.Rand, states int, most int, rules int) impl.System {
	steps, ahead := [][3]int{}, r.Intn(3)
	for range r.Intn(most + 1) {
		s := [3]int{r.Intn(states), r.Intn(rules), r.Intn(states)}
		if s[0] < s[2] || ahead == 0 || ahead == 1 && r.Intn(6) == 0 {
			steps = append(steps, s)
		}
	}
	return stepsOnly(states, inOrder(steps)...)
}

// randomStates picks some of so many states, in ascending order.
func randomStates(r *rand.Rand, states int) []int {
	return someOf(r, numbersFrom(0, states), states)
}

// allSystems are all Systems of Steps alone with so many states and Rules.
func allSystems(states int, rules int) []impl.System {
	all := [][3]int{}
	for from := range states {
		for rule := range rules {
			for to := range states {
				all = append(all, [3]int{from, rule, to})
			}
		}
	}
	list := []impl.System{}
	for _, steps := range partsOfList(all) {
		list = append(list, stepsOnly(states, steps...))
	}
	return list
}

// partsOfList are all lists of some of the elements of a list, in the same order.
func partsOfList[E any](list []E) [][]E {
	parts := [][]E{{}}
	for _, element := range list {
		for _, part := range parts {
			parts = append(parts, append(slices.Clone(part), element))
		}
	}
	return parts
}

// renumberedSystem is the System in which the state k has the number to[k].
func renumberedSystem(x impl.System, to []int) impl.System {
	y := impl.System{States: make([]impl.Bigraph, len(x.States))}
	for state, b := range x.States {
		y.States[to[state]] = cloneOf(b)
	}
	for _, s := range x.Steps {
		y.Steps = append(y.Steps, [3]int{to[s[0]], s[1], to[s[2]]})
	}
	y.Steps = inOrder(y.Steps)
	return y
}

// withoutState is the System without a state, and without all Steps from it and to it.
func withoutState(x impl.System, state int) impl.System {
	y := impl.System{}
	for k, b := range x.States {
		if k != state {
			y.States = append(y.States, cloneOf(b))
		}
	}
	number := func(k int) int {
		if k > state {
			return k - 1
		}
		return k
	}
	for _, s := range x.Steps {
		if s[0] != state && s[2] != state {
			y.Steps = append(y.Steps, [3]int{number(s[0]), s[1], number(s[2])})
		}
	}
	return y
}

// systemWords writes a System of valid Bigraphs over house in short.
func systemWords(x impl.System) string {
	words := ""
	for _, b := range x.States {
		words += textOf(house(), b) + "\n"
	}
	return words + fmt.Sprint(x.Steps)
}
