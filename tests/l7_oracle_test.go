package tests

import (
	"fmt"
	"math/rand"
	"regexp"
	"slices"
	"strings"

	"loop.example/g01082/impl"
)

func cloneOfLists(lists [][]int) [][]int {
	lists = slices.Clone(lists)
	for i, list := range lists {
		lists[i] = slices.Clone(list)
	}
	return lists
}

// cloneOfSorting copies a Sorting with all its lists.
func cloneOfSorting(s impl.Sorting) impl.Sorting {
	return impl.Sorting{Tops: slices.Clone(s.Tops), Nest: cloneOfLists(s.Nest), Sorts: cloneOfLists(s.Sorts), Most: slices.Clone(s.Most), Apart: slices.Clone(s.Apart)}
}

// isSameSorting compares two Sortings; a nil list is an empty one.
func isSameSorting(s impl.Sorting, t impl.Sorting) bool {
	return slices.Equal(s.Tops, t.Tops) && slices.EqualFunc(s.Nest, t.Nest, slices.Equal[[]int]) && isAlikeAs(s, t) &&
		slices.Equal(s.Most, t.Most) && slices.Equal(s.Apart, t.Apart)
}

// isAlikeAs reports whether two Sortings have the same Sorts and as many sorts.
func isAlikeAs(s impl.Sorting, t impl.Sorting) bool {
	return slices.EqualFunc(s.Sorts, t.Sorts, slices.Equal[[]int]) && len(s.Most) == len(t.Most)
}

// climbs reports whether a list is strictly ascending, with numbers in low..high alone.
func climbs(list []int, low int, high int) bool {
	sorted := slices.Compact(slices.Sorted(slices.Values(list)))
	return slices.Equal(list, sorted) && staysIn(list, low, high)
}

func staysIn(list []int, low int, high int) bool {
	return !slices.ContainsFunc(list, func(n int) bool { return n < low || n > high })
}

// isSortingAs says whether a Sorting is valid over a signature that is.
func isSortingAs(sig []impl.Control, s impl.Sorting) bool {
	many := len(s.Most)
	if many < 1 || many > 4 || len(s.Nest) != len(sig) || len(s.Sorts) != len(sig) {
		return false
	}
	fine := climbs(s.Tops, 0, len(sig)-1) && staysIn(s.Most, 0, 24)
	for c, control := range sig {
		if control.Kind == impl.KindAtomic && len(s.Nest[c]) > 0 || len(s.Sorts[c]) != control.Ports {
			return false
		}
		fine = fine && climbs(s.Nest[c], 0, len(sig)-1) && staysIn(s.Sorts[c], 0, many-1)
	}
	codes := []int{}
	for _, pair := range s.Apart {
		fine = fine && pair[0] < pair[1] && staysIn(pair[:], 0, many-1)
		codes = append(codes, 10*pair[0]+pair[1])
	}
	return fine && slices.Equal(codes, slices.Compact(slices.Sorted(slices.Values(codes))))
}

// sortingWords writes a Sorting as the document says it.
func sortingWords(sig []impl.Control, s impl.Sorting) string {
	text := "tops"
	for _, c := range s.Tops {
		text += " " + sig[c].Name
	}
	for c, control := range sig {
		text += "; " + control.Name + ":" + strings.Trim(strings.ReplaceAll(fmt.Sprint(s.Sorts[c]), " ", ""), "[]")
		for _, inside := range s.Nest[c] {
			text += " " + sig[inside].Name
		}
	}
	text += "; most"
	for _, n := range s.Most {
		text += fmt.Sprintf(" %d", n)
	}
	text += "; apart"
	for _, pair := range s.Apart {
		text += fmt.Sprintf(" %d-%d", pair[0], pair[1])
	}
	return text
}

var (
	sortingPattern = regexp.MustCompile(`\Atops((?: [a-z]+)*)((?:; [a-z]+:\d*(?: [a-z]+)*)*); most((?: \d+)*); apart((?: \d+-\d+)*)\z`)
	choicesPattern = regexp.MustCompile(`; ([a-z]+):(\d*)((?: [a-z]+)*)`)
	pairPattern    = regexp.MustCompile(` (\d+)-(\d+)`)
)

// sortingOfText reads a text by patterns; it fails if no valid Sorting over sig has it.
func sortingOfText(sig []impl.Control, text string) (impl.Sorting, bool) {
	m := sortingPattern.FindStringSubmatch(text)
	if m == nil {
		return impl.Sorting{}, false
	}
	controls := func(words string) []int {
		list := []int{}
		for _, word := range strings.Fields(words) {
			list = append(list, slices.IndexFunc(sig, func(c impl.Control) bool { return c.Name == word }))
		}
		return list
	}
	s := impl.Sorting{Tops: controls(m[1]), Most: numbersOf(m[3])}
	for _, part := range choicesPattern.FindAllStringSubmatch(m[2], -1) {
		s.Nest = append(s.Nest, controls(part[3]))
		s.Sorts = append(s.Sorts, numbersOf(strings.Join(strings.Split(part[2], ""), " ")))
	}
	for _, pair := range pairPattern.FindAllStringSubmatch(m[4], -1) {
		s.Apart = append(s.Apart, [2]int{numberOf(pair[1]), numberOf(pair[2])})
	}
	// Leading zeros, and Controls in another order, match the patterns.
	if !isSortingAs(sig, s) || sortingWords(sig, s) != text {
		return impl.Sorting{}, false
	}
	return s, true
}

// sortsAs counts the ports of each sort on a link.
func sortsAs(s impl.Sorting, b impl.Bigraph, link int) []int {
	list := []int{}
	for sort := range s.Most {
		count := 0
		for _, node := range b.Nodes {
			for port, other := range node.Links {
				if other == link && s.Sorts[node.Control][port] == sort {
					count++
				}
			}
		}
		list = append(list, count)
	}
	return list
}

// faultsAs lists the faults of a Bigraph, which may have more of everything than a valid one.
func faultsAs(s impl.Sorting, b impl.Bigraph) []impl.Fault {
	list := []impl.Fault{}
	add := func(is bool, kind int, at int, with int) {
		if is {
			list = append(list, impl.Fault{Kind: kind, At: at, With: with})
		}
	}
	for k, node := range b.Nodes {
		for root := range b.Roots {
			add(node.Parent == -root-1 && !slices.Contains(s.Tops, node.Control), 1, k, root)
		}
		for parent, around := range b.Nodes[:k] {
			add(node.Parent == parent && !slices.Contains(s.Nest[around.Control], node.Control), 2, k, parent)
		}
	}
	for link := range b.Edges + len(b.Outer) {
		counts := sortsAs(s, b, link)
		for sort, most := range s.Most {
			add(counts[sort] > most, 3, link, sort)
		}
		for i, pair := range s.Apart {
			add(counts[pair[0]]*counts[pair[1]] > 0, 4, link, i)
		}
	}
	return list
}

func isSortedAs(s impl.Sorting, b impl.Bigraph) bool { return len(faultsAs(s, b)) == 0 }

func isSortedInsideAs(s impl.Sorting, b impl.Bigraph) bool {
	anyTop := cloneOfSorting(s)
	anyTop.Tops = numbersFrom(0, len(house()))
	return isSortedAs(anyTop, b)
}

// fitsSortedAs says whether the whole is sorted, for the Bigraphs that FitsSorted speaks of.
func fitsSortedAs(s impl.Sorting, a impl.Bigraph, b impl.Bigraph) (fits bool, possible bool) {
	if !fitsAs(a, b) || !isSortedAs(s, a) || !isSortedInsideAs(s, b) {
		return false, false
	}
	return isSortedAs(s, drawnAfter(a, b).numbered()), true
}

// randomSorts gives one of so many sorts to each port of house.
func randomSorts(r *rand.Rand, many int) [][]int {
	sorts := [][]int{}
	for _, control := range house() {
		list := []int{}
		for range control.Ports {
			list = append(list, r.Intn(many))
		}
		sorts = append(sorts, list)
	}
	return sorts
}

// looseSorting allows everything over house.
func looseSorting(sorts [][]int, many int) impl.Sorting {
	s := impl.Sorting{Tops: numbersFrom(0, 6), Sorts: cloneOfLists(sorts), Most: slices.Repeat([]int{24}, many)}
	for _, control := range house() {
		nest := numbersFrom(0, 6)
		if control.Kind == impl.KindAtomic {
			nest = nil
		}
		s.Nest = append(s.Nest, nest)
	}
	return s
}

// allPairs are all pairs of sorts that may be Apart, in ascending order.
func allPairs(many int) [][2]int {
	list := [][2]int{}
	for _, pair := range [][2]int{{0, 1}, {0, 2}, {0, 3}, {1, 2}, {1, 3}, {2, 3}} {
		if pair[1] < many {
			list = append(list, pair)
		}
	}
	return list
}

// randomSortingWith makes a Sorting over house that allows few or many things.
func randomSortingWith(r *rand.Rand, sorts [][]int, many int) impl.Sorting {
	s, share := looseSorting(sorts, many), 1+r.Intn(6)
	leaveOut := func(int) bool { return r.Intn(share+1) == 0 }
	s.Tops = slices.DeleteFunc(s.Tops, leaveOut)
	for c := range s.Nest {
		s.Nest[c] = slices.DeleteFunc(s.Nest[c], leaveOut)
	}
	for sort := range s.Most {
		s.Most[sort] = pick(r, []int{0, 1, 2, 3, 5, 24})
	}
	s.Apart = slices.DeleteFunc(allPairs(many), func([2]int) bool { return r.Intn(share+1) > 0 })
	return s
}

func randomSorting(r *rand.Rand) impl.Sorting {
	many := 1 + r.Intn(4)
	return randomSortingWith(r, randomSorts(r, many), many)
}

// toggled puts an element into an ascending list of digits, or takes it out.
func toggled[E comparable](list []E, element E) []E {
	if i := slices.Index(list, element); i >= 0 {
		return slices.Delete(slices.Clone(list), i, i+1)
	}
	list = append(slices.Clone(list), element)
	slices.SortFunc(list, func(x, y E) int { return strings.Compare(fmt.Sprint(x), fmt.Sprint(y)) })
	return list
}

// nearSorting makes another Sorting by so many small changes.
func nearSorting(r *rand.Rand, s impl.Sorting, changes int) impl.Sorting {
	s = cloneOfSorting(s)
	for range changes {
		c, parent, sort := r.Intn(6), r.Intn(6), r.Intn(len(s.Most))
		switch r.Intn(4) {
		case 0:
			s.Tops = toggled(s.Tops, c)
		case 1:
			if house()[parent].Kind != impl.KindAtomic {
				s.Nest[parent] = toggled(s.Nest[parent], c)
			}
		case 2:
			s.Most[sort] = min(24, max(0, s.Most[sort]+pick(r, []int{-1, 1})))
		case 3:
			if pairs := allPairs(len(s.Most)); len(pairs) > 0 {
				s.Apart = toggled(s.Apart, pick(r, pairs))
			}
		}
	}
	return s
}

// leastAs finds the Sorting by which all Bigraphs of a list are just sorted: whatever can be
// left out of one that allows everything is left out.
func leastAs(sorts [][]int, many int, list ...impl.Bigraph) impl.Sorting {
	s := looseSorting(sorts, many)
	try := func(change func(*impl.Sorting)) bool {
		other := cloneOfSorting(s)
		change(&other)
		if slices.ContainsFunc(list, func(b impl.Bigraph) bool { return !isSortedAs(other, b) }) {
			return false
		}
		s = other
		return true
	}
	for c := range house() {
		try(func(o *impl.Sorting) { o.Tops = withoutNumber(o.Tops, c) })
		for parent := range house() {
			try(func(o *impl.Sorting) { o.Nest[parent] = withoutNumber(o.Nest[parent], c) })
		}
	}
	for sort := range many {
		for s.Most[sort] > 0 && try(func(o *impl.Sorting) { o.Most[sort]-- }) {
		}
	}
	for _, pair := range allPairs(many) {
		try(func(o *impl.Sorting) { o.Apart = append(o.Apart, pair) })
	}
	return s
}

// allowedBy lists, as words, all that a Sorting allows: the Controls and where they may be, the
// numbers of ports, and the pairs of sorts that may be together.
func allowedBy(s impl.Sorting) map[string]bool {
	words := map[string]bool{}
	for _, c := range s.Tops {
		words[fmt.Sprint("top ", c)] = true
	}
	for parent, nest := range s.Nest {
		for _, c := range nest {
			words[fmt.Sprint("in ", parent, " ", c)] = true
		}
	}
	for sort, most := range s.Most {
		for n := range most {
			words[fmt.Sprint("ports ", sort, " ", n+1)] = true
		}
	}
	for _, pair := range allPairs(len(s.Most)) {
		if !slices.Contains(s.Apart, pair) {
			words[fmt.Sprint("together ", pair)] = true
		}
	}
	return words
}

// sortingAllowing is the Sorting over house that allows just what some words tell.
func sortingAllowing(sorts [][]int, many int, words map[string]bool) impl.Sorting {
	s := looseSorting(sorts, many)
	s.Tops = slices.DeleteFunc(s.Tops, func(c int) bool { return !words[fmt.Sprint("top ", c)] })
	for parent := range s.Nest {
		s.Nest[parent] = slices.DeleteFunc(s.Nest[parent], func(c int) bool { return !words[fmt.Sprint("in ", parent, " ", c)] })
	}
	for sort := range s.Most {
		s.Most[sort] = 0
		for words[fmt.Sprint("ports ", sort, " ", s.Most[sort]+1)] {
			s.Most[sort]++
		}
	}
	s.Apart = slices.DeleteFunc(allPairs(many), func(pair [2]int) bool { return words[fmt.Sprint("together ", pair)] })
	return s
}

// isFinerAs says whether one Sorting allows nothing that another one does not.
func isFinerAs(s impl.Sorting, t impl.Sorting) bool {
	others := allowedBy(t)
	for word := range allowedBy(s) {
		if !others[word] {
			return false
		}
	}
	return isAlikeAs(s, t)
}

// meetAs and joinAs allow what both of two Sortings allow, and what one of them allows.
func meetAs(s impl.Sorting, t impl.Sorting) impl.Sorting {
	words, others := allowedBy(s), allowedBy(t)
	for word := range words {
		words[word] = others[word]
	}
	return sortingAllowing(s.Sorts, len(s.Most), words)
}

func joinAs(s impl.Sorting, t impl.Sorting) impl.Sorting {
	words := allowedBy(s)
	for word := range allowedBy(t) {
		words[word] = true
	}
	return sortingAllowing(s.Sorts, len(s.Most), words)
}
