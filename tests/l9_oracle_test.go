package tests

import (
	"fmt"
	"math/rand"
	"regexp"
	"slices"
	"strings"

	"loop.example/g01082/impl"
)

func cloneOfRule(r impl.Rule) impl.Rule {
	return impl.Rule{Redex: cloneOf(r.Redex), Reactum: cloneOf(r.Reactum), Copies: slices.Clone(r.Copies)}
}

// isSameRule compares two Rules; a nil list is an empty one.
func isSameRule(r impl.Rule, s impl.Rule) bool {
	return isSame(r.Redex, s.Redex) && isSame(r.Reactum, s.Reactum) && slices.Equal(r.Copies, s.Copies)
}

func isSameStep(s impl.Step, u impl.Step) bool {
	return s.Rule == u.Rule && isSameMatch(s.Match, u.Match) && isSame(s.Result, u.Result)
}

func isSameTrace(s impl.Trace, u impl.Trace) bool {
	return slices.Equal(s.Rules, u.Rules) && slices.EqualFunc(s.Matches, u.Matches, isSameMatch)
}

// isRuleAs says whether a Rule over a signature that is valid is valid.
func isRuleAs(sig []impl.Control, r impl.Rule) bool {
	if !isFine(sig, r.Redex) || !isFine(sig, r.Reactum) || !isRedexAs(r.Redex) {
		return false
	}
	faces := fmt.Sprint(r.Redex.Roots, r.Redex.Outer) == fmt.Sprint(r.Reactum.Roots, r.Reactum.Outer)
	return faces && len(r.Reactum.Inner) == 0 && len(r.Copies) == len(r.Reactum.Sites) && staysIn(r.Copies, 0, len(r.Redex.Sites)-1)
}

// ruleWords writes a Rule as the document says it.
func ruleWords(sig []impl.Control, r impl.Rule) string {
	text := textOf(sig, r.Redex) + " -> " + textOf(sig, r.Reactum) + " |"
	for _, site := range r.Copies {
		text += fmt.Sprint(" ", site)
	}
	return text
}

var rulePattern = regexp.MustCompile(`\A(.*) -> (.*) \|((?: \d+)*)\z`)

// ruleOfText reads a text by patterns; it fails if no valid Rule over sig has it.
func ruleOfText(sig []impl.Control, text string) (impl.Rule, bool) {
	m := rulePattern.FindStringSubmatch(text)
	if m == nil {
		return impl.Rule{}, false
	}
	redex, one := bigraphOf(sig, m[1])
	reactum, two := bigraphOf(sig, m[2])
	r := impl.Rule{Redex: redex, Reactum: reactum, Copies: numbersOf(m[3])}
	// Leading zeros match the pattern.
	if !one || !two || !isRuleAs(sig, r) || ruleWords(sig, r) != text {
		return impl.Rule{}, false
	}
	return r, true
}

// instanceAs draws a parameter once for each copy, and writes the roots of the copies.
func instanceAs(r impl.Rule, parameter impl.Bigraph) (impl.Bigraph, bool) {
	if !isAgentAs(parameter) || parameter.Edges > 0 || parameter.Roots != len(r.Redex.Sites) {
		return impl.Bigraph{}, false
	}
	instance := drawing{outer: parameter.Outer}
	for i, site := range r.Copies {
		d := drawn(parameter, fmt.Sprint("copy", i))
		root := fmt.Sprint("i.root", i)
		e := d.with(map[string]string{d.roots[site]: root})
		instance.roots = append(instance.roots, root)
		for k := range parameter.Nodes {
			if isUnder(parameter, k, -1-site) {
				instance.nodes = append(instance.nodes, e.nodes[k])
			}
		}
	}
	return instance.bigraph()
}

// imageOver is the nearest image above a node of the parameter of a Match.
func imageOver(agent impl.Bigraph, m impl.Match, k int) int {
	above := placesAbove(agent, k)
	return above[slices.IndexFunc(above, func(place int) bool { return slices.Contains(m.Nodes, place) })]
}

// replacedBy draws an agent, and writes the Reactum of a Rule in the place of the images of a
// valid Match, with copies of what was in them; no context and no parameter is told apart.
func replacedBy(r impl.Rule, agent impl.Bigraph, m impl.Match) (impl.Bigraph, bool) {
	if _, _, ok := passedAs(r.Redex, agent, m); !ok {
		return impl.Bigraph{}, false
	}
	d, e, words := drawn(agent, "a"), drawn(r.Reactum, "r"), map[string]string{}
	links, images := slices.Concat(d.edges, d.outer), matchLinksAs(r.Redex, agent, m)
	for root, place := range m.Roots {
		if place < 0 {
			words[e.roots[root]] = d.roots[-1-place]
		} else {
			words[e.roots[root]] = d.nodes[place].word
		}
	}
	for i, name := range r.Redex.Outer {
		words[name] = links[images[r.Redex.Edges+i]]
	}
	e = e.with(words)
	whole := drawing{roots: d.roots, outer: d.outer}
	rest, _, parameter := partsOf(agent, m)
	for _, k := range rest {
		whole.nodes = append(whole.nodes, d.nodes[k])
	}
	for edge, word := range d.edges {
		if !slices.Contains(images[:r.Redex.Edges], edge) {
			whole.edges = append(whole.edges, word)
		}
	}
	whole.nodes, whole.edges = append(whole.nodes, e.nodes...), append(whole.edges, e.edges...)
	for i, site := range r.Copies {
		over, copied := m.Nodes[r.Redex.Sites[site]], drawn(agent, fmt.Sprint("copy", i))
		for _, k := range parameter {
			if imageOver(agent, m, k) != over {
				continue
			}
			node := drawnNode{copied.nodes[k].word, d.nodes[k].control, copied.nodes[k].parent, d.nodes[k].links}
			if agent.Nodes[k].Parent == over {
				node.parent = e.sites[i]
			}
			whole.nodes = append(whole.nodes, node)
		}
	}
	return whole.bigraph()
}

// allStepsAs lists all steps; it fails where there are too many Matches, or no result.
func allStepsAs(rules []impl.Rule, agent impl.Bigraph) ([]impl.Step, bool) {
	list := []impl.Step{}
	for i, r := range rules {
		all := matchesAs(r.Redex, agent)
		if len(all) > 400 {
			return nil, false
		}
		for _, m := range all {
			if !isActiveAs(house(), agent, m) {
				continue
			}
			result, ok := replacedBy(r, agent, m)
			if !ok {
				return nil, false
			}
			list = append(list, impl.Step{Rule: i, Match: m, Result: result})
		}
	}
	return list, true
}

// holdsAs says whether a Guard holds, from all Matches of its Pattern.
func holdsAs(g impl.Guard, agent impl.Bigraph, m impl.Match) bool {
	rest, _, parameter := partsOf(agent, m)
	nodes := map[int][]int{1: numbersFrom(0, len(agent.Nodes)), 2: rest, 3: parameter}[g.Where]
	found := false
	for _, n := range matchesAs(g.Pattern, agent) {
		found = found || !slices.ContainsFunc(n.Nodes, func(image int) bool { return !slices.Contains(nodes, image) })
	}
	return found != g.Not
}

func rulesIn(list []impl.GuardedRule) []impl.Rule {
	rules := []impl.Rule{}
	for _, g := range list {
		rules = append(rules, g.Rule)
	}
	return rules
}

// guardedAs goes through the Priorities, the greatest one first, until there is a step.
func guardedAs(list []impl.GuardedRule, agent impl.Bigraph) ([]impl.Step, bool) {
	all, ok := allStepsAs(rulesIn(list), agent)
	for priority := 9; priority >= 0; priority-- {
		kept := []impl.Step{}
		for _, step := range all {
			g := list[step.Rule]
			fails := slices.ContainsFunc(g.Guards, func(guard impl.Guard) bool { return !holdsAs(guard, agent, step.Match) })
			if g.Priority == priority && !fails {
				kept = append(kept, step)
			}
		}
		if len(kept) > 0 {
			return kept, ok
		}
	}
	return nil, ok
}

// ranAs takes the first of all steps, at most so many times.
func ranAs(rules []impl.Rule, agent impl.Bigraph, most int) (impl.Trace, impl.Bigraph, bool) {
	trace := impl.Trace{}
	for range most {
		all, ok := allStepsAs(rules, agent)
		if !ok {
			return impl.Trace{}, impl.Bigraph{}, false
		}
		if len(all) == 0 {
			break
		}
		trace.Rules, trace.Matches = append(trace.Rules, all[0].Rule), append(trace.Matches, all[0].Match)
		agent = all[0].Result
	}
	return trace, agent, true
}

// playedAs plays a Trace whose lists have the same length.
func playedAs(rules []impl.Rule, agent impl.Bigraph, trace impl.Trace) (impl.Bigraph, int) {
	for i, rule := range trace.Rules {
		if rule < 0 || rule >= len(rules) || !isMatchAs(rules[rule].Redex, agent, trace.Matches[i]) || !isActiveAs(house(), agent, trace.Matches[i]) {
			return agent, i
		}
		next, ok := replacedBy(rules[rule], agent, trace.Matches[i])
		if !ok {
			return agent, i
		}
		agent = next
	}
	return agent, len(trace.Rules)
}

// inverseAs exchanges the parts of a Rule that has an inverse.
func inverseAs(r impl.Rule) (impl.Rule, bool) {
	if !isRedexAs(r.Reactum) || len(r.Copies) != len(r.Redex.Sites) || !hasEach(r.Copies) {
		return impl.Rule{}, false
	}
	return impl.Rule{Redex: r.Reactum, Reactum: r.Redex, Copies: inverseOf(r.Copies)}, true
}

// The conditions under which a Rule keeps a Sorting in plain sight, in the order of the document.
const (
	copiedTwice = iota
	otherTops
	notInNode
	notAtSite
	faultyEdge
	morePorts
)

// brokenBy lists the conditions that do not hold.
func brokenBy(s impl.Sorting, r impl.Rule) []int {
	broken := map[int]bool{}
	note := func(condition int, breaks bool) { broken[condition] = broken[condition] || breaks }
	for i, site := range r.Copies {
		note(copiedTwice, slices.Contains(r.Copies[i+1:], site))
		allowed := s.Nest[r.Redex.Nodes[r.Redex.Sites[site]].Control]
		place := r.Reactum.Sites[i]
		for _, c := range allowed {
			note(notAtSite, place < 0 || !slices.Contains(s.Nest[r.Reactum.Nodes[max(place, 0)].Control], c))
		}
	}
	for _, node := range r.Reactum.Nodes {
		if node.Parent >= 0 {
			note(notInNode, !slices.Contains(s.Nest[r.Reactum.Nodes[node.Parent].Control], node.Control))
			continue
		}
		controls := []int{}
		for _, k := range childNodes(r.Redex, node.Parent) {
			controls = append(controls, r.Redex.Nodes[k].Control)
		}
		note(otherTops, !slices.Contains(controls, node.Control))
	}
	for edge := range r.Reactum.Edges {
		counts := sortsAs(s, r.Reactum, edge)
		for sort, n := range counts {
			note(faultyEdge, n > s.Most[sort])
		}
		for _, pair := range s.Apart {
			note(faultyEdge, counts[pair[0]] > 0 && counts[pair[1]] > 0)
		}
	}
	for i := range r.Redex.Outer {
		before, after := sortsAs(s, r.Redex, r.Redex.Edges+i), sortsAs(s, r.Reactum, r.Reactum.Edges+i)
		for sort := range s.Most {
			note(morePorts, after[sort] > before[sort])
		}
	}
	list := []int{}
	for condition := copiedTwice; condition <= morePorts; condition++ {
		if broken[condition] {
			list = append(list, condition)
		}
	}
	return list
}

// randomRule makes a Rule with a redex: its Reactum is often nearly the same.
func randomRule(r *rand.Rand, redex impl.Bigraph) impl.Rule {
	places := min(4, 4*len(redex.Sites))
	reactum := impl.Bigraph{Roots: redex.Roots, Edges: r.Intn(3), Outer: slices.Clone(redex.Outer)}
	reactum = randomInside(r, reactum, r.Intn(5), places, nil)
	if r.Intn(3) > 0 {
		for _, other := range append(slightChanges(r, redex, 8), cloneOf(redex)) {
			rule := impl.Rule{Redex: redex, Reactum: other, Copies: make([]int, len(other.Sites))}
			if isRuleAs(house(), rule) && r.Intn(3) > 0 {
				reactum = other
			}
		}
	}
	rule := impl.Rule{Redex: redex, Reactum: reactum}
	for range reactum.Sites {
		rule.Copies = append(rule.Copies, r.Intn(len(redex.Sites)))
	}
	if len(reactum.Sites) == len(redex.Sites) && r.Intn(3) > 0 {
		rule.Copies = r.Perm(len(redex.Sites))
	}
	return rule
}

// rulesFor makes Rules for an agent: most of them have Matches in it.
func rulesFor(r *rand.Rand, agent impl.Bigraph, count int, most int) []impl.Rule {
	list := []impl.Rule{}
	for range count {
		redex, _ := redexIn(r, agent, most)
		if r.Intn(5) == 0 {
			redex = randomRedex(r, most)
		}
		list = append(list, randomRule(r, redex))
	}
	return list
}

// filledAgent makes a redex with a Match in an agent, where there is often something at its sites.
func filledAgent(r *rand.Rand, most int) (impl.Bigraph, impl.Bigraph, impl.Match) {
	for {
		redex := randomRedex(r, 3)
		context, parameter := frameFor(r, redex, 1+r.Intn(3))
		agent, ok := recomposedAs(redex, context, parameter)
		if !ok || !isAgentAs(agent) || len(agent.Nodes) > most || len(parameter.Nodes) == 0 && r.Intn(4) > 0 {
			continue
		}
		to, edges := randomNumbers(r, agent)
		return redex, renumbered(agent, to, edges), movedMatch(matchIn(redex, context), to)
	}
}

// randomGuard makes a Guard whose Pattern often has Matches in an agent.
func randomGuard(r *rand.Rand, agent impl.Bigraph) impl.Guard {
	pattern, _ := redexIn(r, agent, 1+r.Intn(3))
	if r.Intn(4) == 0 {
		pattern = randomRedex(r, 2)
	}
	return impl.Guard{Where: 1 + r.Intn(3), Not: r.Intn(2) == 0, Pattern: pattern}
}

// matchNamed reads a Match from its words.
func matchNamed(words string) impl.Match {
	nodes, roots, _ := strings.Cut(words, " in ")
	return impl.Match{Nodes: numbersOf(nodes), Roots: numbersOf(roots)}
}
