package tests

import (
	"fmt"
	"math/rand"
	"regexp"
	"slices"
	"strings"

	"loop.example/g01082/impl"
)

// controlsOfAmbients are the Controls of encodings, as the document tells them.
func controlsOfAmbients() []impl.Control {
	return []impl.Control{
		{Name: "amb", Ports: 1, Kind: impl.KindActive},
		{Name: "in", Ports: 1, Kind: impl.KindPassive},
		{Name: "out", Ports: 1, Kind: impl.KindPassive},
		{Name: "open", Ports: 1, Kind: impl.KindPassive},
	}
}

// amb is a process: a word for each node, of its Name, with the word of a prefix and a colon in
// front of it, and of its Parent, as in `in:a@-1`.
func amb(words string) impl.Process {
	p := impl.Process{}
	for _, word := range strings.Fields(words) {
		head, place, _ := strings.Cut(word, "@")
		kind, name, isPrefix := strings.Cut(head, ":")
		if !isPrefix {
			kind, name = "amb", head
		}
		p.Nodes = append(p.Nodes, impl.AmbNode{Kind: slices.Index([]string{"amb", "in", "out", "open"}, kind), Name: name, Parent: numberOf(place)})
	}
	return p
}

func cloneOfProcess(p impl.Process) impl.Process { return impl.Process{Nodes: slices.Clone(p.Nodes)} }

func isSameProcess(p impl.Process, q impl.Process) bool { return slices.Equal(p.Nodes, q.Nodes) }

func isProcessAs(p impl.Process) bool {
	if len(p.Nodes) > 8 {
		return false
	}
	for k, node := range p.Nodes {
		if !staysIn([]int{node.Kind}, 0, 3) || !namePattern.MatchString(node.Name) || !staysIn([]int{node.Parent}, -1, k-1) {
			return false
		}
	}
	return true
}

// formatsOfNodes are the texts of nodes, with their Names and the texts of what is in them, by Kinds.
var formatsOfNodes = [4]string{"%s[%s]", "in %s.(%s)", "out %s.(%s)", "open %s.(%s)"}

// processTexts tells the text of each node, and that of what is at the top: from the last node on, as
// all that is in a node comes behind it.
func processTexts(p impl.Process) (texts []string, top string) {
	texts = make([]string, len(p.Nodes))
	inside := func(place int) string {
		list := []string{}
		for k, node := range p.Nodes {
			if node.Parent == place {
				list = append(list, texts[k])
			}
		}
		if len(list) == 0 {
			return "0"
		}
		return strings.Join(list, "|")
	}
	for k := len(p.Nodes) - 1; k >= 0; k-- {
		texts[k] = fmt.Sprintf(formatsOfNodes[p.Nodes[k].Kind], p.Nodes[k].Name, inside(k))
	}
	return texts, inside(-1)
}

func processText(p impl.Process) string {
	_, top := processTexts(p)
	return top
}

var nodeHeadPattern = regexp.MustCompile(`\A(?:(in|out|open) ([a-z]{1,4})\.\(|([a-z]{1,4})\[)`)

// processOfText reads a text by its grammar; it fails if no process has it.
func processOfText(text string) (impl.Process, bool) {
	p := impl.Process{}
	if rest, ok := listOfText(text, -1, &p); !ok || rest != "" || len(p.Nodes) > 8 {
		return impl.Process{}, false
	}
	return p, true
}

// listOfText reads what is in a node, or at the top, and returns what is behind it.
func listOfText(text string, parent int, p *impl.Process) (string, bool) {
	if rest, ok := strings.CutPrefix(text, "0"); ok {
		return rest, true
	}
	for {
		m := nodeHeadPattern.FindStringSubmatch(text)
		if m == nil {
			return "", false
		}
		kind, end := slices.Index([]string{"", "in", "out", "open"}, m[1]), ")"
		if kind == 0 {
			end = "]"
		}
		p.Nodes = append(p.Nodes, impl.AmbNode{Kind: kind, Name: m[2] + m[3], Parent: parent})
		rest, ok := listOfText(text[len(m[0]):], len(p.Nodes)-1, p)
		rest, closed := strings.CutPrefix(rest, end)
		if !ok || !closed {
			return "", false
		}
		if text, ok = strings.CutPrefix(rest, "|"); !ok {
			return rest, true
		}
	}
}

// aboveAs are the nodes under which a node is.
func aboveAs(p impl.Process, node int) []int {
	list := []int{}
	for k := p.Nodes[node].Parent; k >= 0; k = p.Nodes[k].Parent {
		list = append(list, k)
	}
	return list
}

func isIdleAs(p impl.Process, node int) bool {
	return slices.ContainsFunc(aboveAs(p, node), func(k int) bool { return p.Nodes[k].Kind > 0 })
}

// isPreorderAs reports whether each node comes directly before all that is in it.
func isPreorderAs(p impl.Process) bool {
	for k := range p.Nodes {
		outside := false
		for later := k + 1; later < len(p.Nodes); later++ {
			inside := slices.Contains(aboveAs(p, later), k)
			if inside && outside {
				return false
			}
			outside = outside || !inside
		}
	}
	return true
}

// neverDescends reports whether the texts of the nodes with the same Parent never descend.
func neverDescends(p impl.Process) bool {
	texts, _ := processTexts(p)
	for k, node := range p.Nodes {
		for before, other := range p.Nodes[:k] {
			if other.Parent == node.Parent && texts[before] > texts[k] {
				return false
			}
		}
	}
	return true
}

// areCongruentAs looks for a list of a node of q for each node of p that keeps all.
func areCongruentAs(p impl.Process, q impl.Process) bool {
	return len(p.Nodes) == len(q.Nodes) && canBeCompleted(p, q, nil)
}

func canBeCompleted(p impl.Process, q impl.Process, members []int) bool {
	if len(members) == len(p.Nodes) {
		return true
	}
	node := p.Nodes[len(members)]
	if node.Parent >= 0 {
		node.Parent = members[node.Parent]
	}
	for k, other := range q.Nodes {
		if other == node && !slices.Contains(members, k) && canBeCompleted(p, q, append(members[:len(members):len(members)], k)) {
			return true
		}
	}
	return false
}

// isCanonicalFor reports whether q is the canonical process of p, by its definition.
func isCanonicalFor(p impl.Process, q impl.Process) bool {
	return isProcessAs(q) && areCongruentAs(p, q) && isPreorderAs(q) && neverDescends(q)
}

// orderedBy is the process in which the node order[k] of p has the number k; it is not valid if a
// node comes before its Parent.
func orderedBy(p impl.Process, order []int) impl.Process {
	to, q := inverseOf(order), impl.Process{}
	for _, k := range order {
		node := p.Nodes[k]
		if node.Parent >= 0 {
			node.Parent = to[node.Parent]
		}
		q.Nodes = append(q.Nodes, node)
	}
	return q
}

// faultsOfStep tells all reasons for which a step is not possible.
func faultsOfStep(p impl.Process, s impl.AmbStep) []string {
	if !staysIn([]int{s.Cap}, 0, len(p.Nodes)-1) || !staysIn([]int{s.Place}, 0, len(p.Nodes)-1) {
		return []string{"no node"}
	}
	cap, place, faults := p.Nodes[s.Cap], p.Nodes[s.Place], []string{}
	tell := func(is bool, fault string) {
		if is {
			faults = append(faults, fault)
		}
	}
	tell(cap.Kind == 0, "no prefix")
	tell(cap.Kind != s.Kind, "other Kind")
	tell(isIdleAs(p, s.Cap), "idle")
	tell(place.Kind != 0, "no ambient")
	tell(place.Name != cap.Name, "other Name")
	around := impl.AmbNode{Parent: -2}
	if cap.Parent >= 0 {
		around = p.Nodes[cap.Parent]
	}
	switch s.Kind {
	case 1:
		tell(cap.Parent < 0, "at the top")
		tell(s.Place == cap.Parent, "itself")
		tell(cap.Parent >= 0 && s.Place != cap.Parent && place.Parent != around.Parent, "no sibling")
	case 2:
		tell(cap.Parent < 0, "at the top")
		tell(cap.Parent >= 0 && around.Parent != s.Place, "not the Parent")
	case 3:
		tell(s.Place == s.Cap, "itself")
		tell(place.Parent != cap.Parent, "no sibling")
	default:
		tell(true, "no Kind")
	}
	return faults
}

func stepsAs(p impl.Process) []impl.AmbStep {
	list := []impl.AmbStep{}
	for _, kind := range []int{1, 2, 3} {
		for cap := range p.Nodes {
			for place := range p.Nodes {
				if s := (impl.AmbStep{Kind: kind, Cap: cap, Place: place}); len(faultsOfStep(p, s)) == 0 {
					list = append(list, s)
				}
			}
		}
	}
	return list
}

// An ambTree is a node and what is in it, or, without a node, all that is at the top.
type ambTree struct {
	node impl.AmbNode
	in   []*ambTree
}

func (x *ambTree) text() string {
	list := []string{}
	for _, y := range x.in {
		list = append(list, fmt.Sprintf(formatsOfNodes[y.node.Kind], y.node.Name, y.text()))
	}
	slices.Sort(list)
	if len(list) == 0 {
		return "0"
	}
	return strings.Join(list, "|")
}

func (x *ambTree) drop(y *ambTree) {
	x.in = slices.DeleteFunc(x.in, func(z *ambTree) bool { return z == y })
}

// resultText is the text of the result of a possible step, which is made in the tree of all nodes.
func resultText(p impl.Process, s impl.AmbStep) string {
	trees := make([]*ambTree, len(p.Nodes)+1)
	for i := range trees {
		trees[i] = &ambTree{}
	}
	// The tree of the top stands in front of all others.
	for k, node := range p.Nodes {
		trees[k+1].node = node
		trees[node.Parent+1].in = append(trees[node.Parent+1].in, trees[k+1])
	}
	parentOf := func(k int) int { return p.Nodes[k].Parent }
	cap, place, over := trees[s.Cap+1], trees[s.Place+1], trees[parentOf(s.Cap)+1]
	over.drop(cap)
	over.in = append(over.in, cap.in...)
	switch s.Kind {
	case 1:
		trees[parentOf(parentOf(s.Cap))+1].drop(over)
		place.in = append(place.in, over)
	case 2:
		place.drop(over)
		beside := trees[parentOf(s.Place)+1]
		beside.in = append(beside.in, over)
	case 3:
		over.drop(place)
		over.in = append(over.in, place.in...)
	}
	return trees[0].text()
}

// resultsAs are the texts of all results, in order.
func resultsAs(p impl.Process) []string {
	texts := []string{}
	for _, s := range stepsAs(p) {
		texts = append(texts, resultText(p, s))
	}
	slices.Sort(texts)
	return slices.Compact(texts)
}

func showsAs(p impl.Process, name string) bool {
	return slices.Contains(p.Nodes, impl.AmbNode{Name: name, Parent: -1})
}

// showListsAs are the texts of all lists that begin with a canonical process, have so many further
// ones and end with one that shows an ambient.
func showListsAs(text string, name string, more int) [][]string {
	p, _ := processOfText(text)
	if more == 0 {
		if showsAs(p, name) {
			return [][]string{{text}}
		}
		return nil
	}
	lists := [][]string{}
	for _, next := range resultsAs(p) {
		for _, list := range showListsAs(next, name, more-1) {
			lists = append(lists, append([]string{text}, list...))
		}
	}
	return lists
}

// shortestShowsAs are all shortest such lists; there are none behind as many steps as nodes, as each
// step removes one.
func shortestShowsAs(p impl.Process, name string) [][]string {
	for more := range len(p.Nodes) + 1 {
		if lists := showListsAs(canonicalWords(p), name, more); len(lists) > 0 {
			return lists
		}
	}
	return nil
}

// canonicalWords is the text of the canonical process of p.
func canonicalWords(p impl.Process) string {
	var tree func(place int) *ambTree
	tree = func(place int) *ambTree {
		x := &ambTree{}
		for k, node := range p.Nodes {
			if node.Parent == place {
				y := tree(k)
				y.node = node
				x.in = append(x.in, y)
			}
		}
		return x
	}
	return tree(-1).text()
}

// encodingWords is the text of the encoding, as the document tells it.
func encodingWords(p impl.Process) string {
	names := []string{}
	for _, node := range p.Nodes {
		names = append(names, node.Name)
	}
	names, words := distinct(names), "1"
	for _, node := range p.Nodes {
		words += fmt.Sprintf("; %s@%d %d", controlsOfAmbients()[node.Kind].Name, node.Parent, slices.Index(names, node.Name))
	}
	words += "; sites; 0; outer"
	for _, name := range names {
		words += " " + name
	}
	return words + "; inner"
}

// decodedAs is the process of an agent with one root and without edges; it fails for others.
func decodedAs(b impl.Bigraph) (impl.Process, bool) {
	if !isFine(controlsOfAmbients(), b) || !isAgentAs(b) || b.Roots != 1 || b.Edges != 0 {
		return impl.Process{}, false
	}
	p := impl.Process{}
	for _, node := range b.Nodes {
		p.Nodes = append(p.Nodes, impl.AmbNode{Kind: node.Control, Name: b.Outer[node.Links[0]], Parent: node.Parent})
	}
	return p, true
}

// allProcesses are all processes with so many nodes that have some Names.
func allProcesses(nodes int, names ...string) []impl.Process {
	list := []impl.Process{{}}
	for k := range nodes {
		longer := []impl.Process{}
		for _, p := range list {
			for kind := range 4 {
				for _, name := range names {
					for parent := -1; parent < k; parent++ {
						longer = append(longer, impl.Process{Nodes: append(slices.Clone(p.Nodes), impl.AmbNode{Kind: kind, Name: name, Parent: parent})})
					}
				}
			}
		}
		list = longer
	}
	return list
}

// redexesOfSteps are the nodes that steps of each Kind need, at the top.
var redexesOfSteps = []string{"m@-1 in:n@0 n@-1", "n@-1 m@0 out:n@1", "open:n@-1 n@-1"}

// randomProcess has so many nodes with some Names: nodes of any Kind and, most often in places where
// nothing is idle, the nodes that a step needs.
func randomProcess(r *rand.Rand, nodes int, names []string) impl.Process {
	p := impl.Process{}
	for len(p.Nodes) < nodes {
		first, over := len(p.Nodes), r.Intn(len(p.Nodes)+1)-1
		redex := amb(pick(r, redexesOfSteps)).Nodes
		idle := over >= 0 && (p.Nodes[over].Kind > 0 || isIdleAs(p, over))
		if idle && r.Intn(3) > 0 || r.Intn(5) > 1 || len(redex) > nodes-first {
			p.Nodes = append(p.Nodes, impl.AmbNode{Kind: max(0, r.Intn(6)-2), Name: pick(r, names), Parent: over})
			continue
		}
		renamed := map[string]string{"m": pick(r, names), "n": pick(r, names)}
		for _, node := range redex {
			node.Name, node.Parent = renamed[node.Name], node.Parent+first
			if node.Parent < first {
				node.Parent = over
			}
			p.Nodes = append(p.Nodes, node)
		}
	}
	return p
}

// beforeStep is a process from which a step leads to one that is congruent to p, or p itself.
func beforeStep(r *rand.Rand, p impl.Process, names []string) impl.Process {
	x := undoing{r: r, p: cloneOfProcess(p)}
	within, beside, places := [][2]int{}, [][2]int{}, []int{-1}
	for k, node := range p.Nodes {
		if node.Kind == 0 && !isIdleAs(p, k) {
			places = append(places, k)
		}
	}
	for _, a := range places[1:] {
		for _, b := range places[1:] {
			switch pair := [2]int{a, b}; {
			case p.Nodes[a].Parent == b:
				within = append(within, pair)
			case p.Nodes[a].Parent == p.Nodes[b].Parent && a != b:
				beside = append(beside, pair)
			}
		}
	}
	switch kind := 1 + r.Intn(3); {
	case kind == 1 && len(within) > 0:
		pair := pick(r, within)
		x.p.Nodes[pair[0]].Parent = p.Nodes[pair[1]].Parent
		x.takeInto(x.add(1, p.Nodes[pair[1]].Name, pair[0]), pair[0])
	case kind == 2 && len(beside) > 0:
		pair := pick(r, beside)
		x.p.Nodes[pair[0]].Parent = pair[1]
		x.takeInto(x.add(2, p.Nodes[pair[1]].Name, pair[0]), pair[0])
	case kind == 3:
		name, place := pick(r, names), pick(r, places)
		x.takeInto(x.add(0, name, place), place)
		x.takeInto(x.add(3, name, place), place)
	}
	return x.ordered()
}

// An undoing is a process while a step is undone, in which nodes may come before their Parents.
type undoing struct {
	r *rand.Rand
	p impl.Process
}

func (x *undoing) add(kind int, name string, place int) int {
	x.p.Nodes = append(x.p.Nodes, impl.AmbNode{Kind: kind, Name: name, Parent: place})
	return len(x.p.Nodes) - 1
}

// takeInto puts some of the other nodes of a place into a node, but no prefix that is just added.
func (x *undoing) takeInto(node int, place int) {
	for k := range node {
		if x.p.Nodes[k].Parent == place && k != node-1 && x.r.Intn(3) == 0 {
			x.p.Nodes[k].Parent = node
		}
	}
}

func (x *undoing) ordered() impl.Process {
	order := []int{}
	for len(order) < len(x.p.Nodes) {
		k := x.r.Intn(len(x.p.Nodes))
		parent := x.p.Nodes[k].Parent
		if !slices.Contains(order, k) && (parent < 0 || slices.Contains(order, parent)) {
			order = append(order, k)
		}
	}
	return orderedBy(x.p, order)
}

// processSamples are processes of all sizes, with few Names and with many, with several steps in a
// row and without steps.
func processSamples(seed int64, count int, most int) []impl.Process {
	r, list := rand.New(rand.NewSource(seed)), []impl.Process{}
	for i := range count {
		names := [][]string{{"a"}, {"a", "b"}, {"a", "ab", "b"}, {"in", "out", "open", "amb"}, {"x", "y", "zz", "zzz", "zzzz"}}[i%5]
		p := randomProcess(r, r.Intn(most+1), names)
		if i%3 > 0 {
			p = randomProcess(r, min(most, 1+r.Intn(4)), names)
			for range 20 {
				if q := beforeStep(r, p, names); len(q.Nodes) <= most {
					p = q
				}
			}
		}
		list = append(list, p)
	}
	return list
}

// placeNames are the Names of the ambients of p, and one that it does not have.
func placeNames(p impl.Process) []string {
	names := []string{"none"}
	for _, node := range p.Nodes {
		if node.Kind == 0 {
			names = append(names, node.Name)
		}
	}
	return distinct(names)
}

// shuffledProcess has the nodes of p in another order, in which Parents still come first.
func shuffledProcess(r *rand.Rand, p impl.Process) impl.Process {
	b, _ := bigraphOf(controlsOfAmbients(), encodingWords(p))
	to, _ := randomNumbers(r, b)
	return orderedBy(p, inverseOf(to))
}

// changedProcesses are all processes that differ from p in one Kind, one Name or one Parent.
func changedProcesses(p impl.Process) []impl.Process {
	list := []impl.Process{}
	change := func(k int, node impl.AmbNode) {
		if node != p.Nodes[k] {
			q := cloneOfProcess(p)
			q.Nodes[k] = node
			list = append(list, q)
		}
	}
	for k, node := range p.Nodes {
		for kind := range 4 {
			change(k, impl.AmbNode{Kind: kind, Name: node.Name, Parent: node.Parent})
		}
		for _, name := range []string{"a", "b", node.Name[:1], "zzzz"} {
			change(k, impl.AmbNode{Kind: node.Kind, Name: name, Parent: node.Parent})
		}
		for parent := -1; parent < k; parent++ {
			change(k, impl.AmbNode{Kind: node.Kind, Name: node.Name, Parent: parent})
		}
	}
	return list
}
