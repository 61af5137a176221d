package tests

import (
	"math/rand"
	"slices"
	"strconv"
	"strings"

	"loop.example/g01345/impl"
)

// The helpers here read the lists of a herd by the words of the document, so that the program is not tested against itself.

// herdOf builds the herd that lines tell, valid or not; a name that comes twice is that of the first goat.
func herdOf(lines ...string) impl.Herd {
	var h impl.Herd
	var foes [][]string
	for _, line := range lines {
		words := strings.Fields(line)
		eats, _ := strconv.Atoi(words[1])
		h.Names = append(h.Names, words[0])
		h.Eats = append(h.Eats, int16(eats))
		foes = append(foes, words[2:])
	}
	for _, names := range foes {
		bits := 0
		for _, name := range names {
			bits |= 1 << slices.Index(h.Names, name)
		}
		h.Foes = append(h.Foes, uint16(bits))
	}
	return h
}

func exampleHerd() impl.Herd { return herdOf("ada 5 bel", "bel 7 ada cyd", "cyd 3 bel") }

// herdWith returns a herd of so many goats, of which some pairs are foes.
func herdWith(count int, pairs ...[2]int) impl.Herd {
	var h impl.Herd
	for i := range count {
		h.Names = append(h.Names, strings.Repeat(string(rune('n'-i%14)), 1+i%8)+strings.Repeat("z", i/14))
		h.Eats = append(h.Eats, int16((i*37+11)%101))
		h.Foes = append(h.Foes, 0)
	}
	for _, pair := range pairs {
		h.Foes[pair[0]] |= 1 << pair[1]
		h.Foes[pair[1]] |= 1 << pair[0]
	}
	return h
}

func pairsBelow(count int) [][2]int {
	var pairs [][2]int
	for a := range count {
		for b := a + 1; b < count; b++ {
			pairs = append(pairs, [2]int{a, b})
		}
	}
	return pairs
}

// everyHerd returns a herd of so many goats with each set of foes.
func everyHerd(count int) []impl.Herd {
	var list []impl.Herd
	pairs := pairsBelow(count)
	for set := range 1 << len(pairs) {
		var foes [][2]int
		for i, pair := range pairs {
			if set>>i&1 == 1 {
				foes = append(foes, pair)
			}
		}
		list = append(list, herdWith(count, foes...))
	}
	return list
}

// randomHerd has about so many foes of ten pairs.
func randomHerd(r *rand.Rand, count, foes int) impl.Herd {
	pairs := slices.DeleteFunc(pairsBelow(count), func([2]int) bool { return r.Intn(10) >= foes })
	return herdWith(count, pairs...)
}

// ringFrom returns the pairs of goats that are foes of those beside them in a ring.
func ringFrom(first, count int) [][2]int {
	var pairs [][2]int
	for i := range count {
		pairs = append(pairs, [2]int{first + i, first + (i+1)%count})
	}
	return pairs
}

// mycielski are the foes of 11 goats no three of which all are foes, and that need 4 groups.
func mycielski() [][2]int {
	pairs := ringFrom(0, 5)
	for i := range 5 {
		pairs = append(pairs, [2]int{5 + i, (i + 1) % 5}, [2]int{5 + i, (i + 4) % 5}, [2]int{5 + i, 10})
	}
	return pairs
}

// hardHerds need more groups than the most goats that all are foes, or more than greedy ones.
func hardHerds() []impl.Herd {
	later := func(by int, pairs [][2]int) [][2]int {
		var moved [][2]int
		for _, pair := range pairs {
			moved = append(moved, [2]int{pair[0] + by, pair[1] + by})
		}
		return moved
	}
	var both, crown [][2]int
	for a := range 5 {
		for b := 5; b < 10; b++ {
			both = append(both, [2]int{a, b})
		}
	}
	for a := range 7 {
		for b := range 7 {
			if a != b {
				crown = append(crown, [2]int{2 * a, 2*b + 1})
			}
		}
	}
	rings := slices.Concat(both, ringFrom(0, 5), ringFrom(5, 5))
	return []impl.Herd{
		herdWith(5, ringFrom(0, 5)...), herdWith(14, ringFrom(9, 5)...), herdWith(13, ringFrom(0, 13)...), herdWith(14, ringFrom(0, 14)...),
		herdWith(11, mycielski()...), herdWith(14, later(3, mycielski())...), herdWith(10, rings...), herdWith(14, later(4, rings)...),
		herdWith(14, crown...), herdWith(14, pairsBelow(14)...), herdWith(14), herdWith(14, pairsBelow(7)...), herdWith(14, later(7, pairsBelow(7))...),
	}
}

// someHerds returns valid herds, from no goat to MaxHerd and from no foes to all.
func someHerds() []impl.Herd {
	r := rand.New(rand.NewSource(60))
	list := []impl.Herd{{}, exampleHerd(), herdOf("eva 0 fay", "fay 100 eva"), herdOf("a 0"), herdOf("abcdefgh 100", "abcdefg 1")}
	for count := range 5 {
		list = append(list, everyHerd(count)...)
	}
	for count := range impl.MaxHerd + 1 {
		for foes := 1; foes < 10; foes += 2 {
			list = append(list, randomHerd(r, count, foes))
		}
	}
	return append(list, hardHerds()...)
}

// invalidHerds returns herds that are not valid, each for one reason.
func invalidHerds() map[string]impl.Herd {
	change := func(h impl.Herd, f func(*impl.Herd)) impl.Herd { f(&h); return h }
	name := func(name string) impl.Herd { return change(exampleHerd(), func(h *impl.Herd) { h.Names[1] = name }) }
	eats := func(eats int16) impl.Herd { return change(exampleHerd(), func(h *impl.Herd) { h.Eats[2] = eats }) }
	foes := func(goat int, bits uint16) impl.Herd {
		return change(exampleHerd(), func(h *impl.Herd) { h.Foes[goat] = bits })
	}
	list := map[string]impl.Herd{
		"one goat too many":     herdWith(impl.MaxHerd + 1),
		"two goats too many":    herdWith(impl.MaxHerd+2, [2]int{0, 15}),
		"names alone":           {Names: []string{"ada"}},
		"numbers alone":         {Eats: []int16{5}},
		"foes alone":            {Foes: []uint16{0}},
		"a name less":           change(herdWith(3), func(h *impl.Herd) { h.Names = h.Names[:2] }),
		"a number less":         change(herdWith(3), func(h *impl.Herd) { h.Eats = h.Eats[:2] }),
		"foes of one less":      change(herdWith(3), func(h *impl.Herd) { h.Foes = h.Foes[:2] }),
		"a name more":           change(herdWith(3), func(h *impl.Herd) { h.Names = append(h.Names, "zoe") }),
		"a number more":         change(herdWith(3), func(h *impl.Herd) { h.Eats = append(h.Eats, 5) }),
		"foes of one more":      change(herdWith(3), func(h *impl.Herd) { h.Foes = append(h.Foes, 0) }),
		"no names":              change(herdWith(3), func(h *impl.Herd) { h.Names = nil }),
		"a goat its own foe":    foes(0, 0b011),
		"the last its own foe":  foes(2, 0b110),
		"a foe that is none":    foes(1, 0b1101),
		"a foe far from all":    foes(2, 1<<15|0b010),
		"a foe not back":        foes(0, 0b110),
		"a foe not back, later": foes(2, 0b000),
		"no foes of the middle": foes(1, 0b000),
		"all bits":              foes(1, 1<<16-1),
		"alone with a foe":      {Names: []string{"ada"}, Eats: []int16{5}, Foes: []uint16{2}},
		"alone, its own foe":    {Names: []string{"ada"}, Eats: []int16{5}, Foes: []uint16{1}},
		"the first name twice":  name("ada"),
		"the last name twice":   name("cyd"),
	}
	for _, bad := range []string{"", "abcdefghi", "Bel", "beL", "b l", " bel", "bel ", "bel\n", "b3l", "b-l", "b\x00l", "bél", "b`l", "b{l", "\xff", "ｂ", strings.Repeat("b", 1000)} {
		list["the name "+strconv.Quote(bad)] = name(bad)
	}
	for _, bad := range []int16{-1, 101, -32768, 32767, -100, 200} {
		list["the number "+strconv.Itoa(int(bad))] = eats(bad)
	}
	return list
}

func isFoe(h impl.Herd, a, b int) bool { return int(h.Foes[a])>>b&1 == 1 }

// foePairs returns all pairs of foes, ordered.
func foePairs(h impl.Herd) [][2]int {
	return slices.DeleteFunc(pairsBelow(len(h.Names)), func(pair [2]int) bool { return !isFoe(h, pair[0], pair[1]) })
}

func indicesBelow(count int) []int64 {
	var list []int64
	for i := range count {
		list = append(list, int64(i))
	}
	return list
}

func foesByHand(h impl.Herd, goat int) []int64 {
	return slices.DeleteFunc(indicesBelow(len(h.Names)), func(other int64) bool { return !isFoe(h, goat, int(other)) })
}

// peaceByHand numbers all goats, and gives the lesser number of two foes to all with the greater one, until all foes have the same.
func peaceByHand(h impl.Herd) [][]int64 {
	numbers := indicesBelow(len(h.Names))
	for range h.Names {
		for _, pair := range foePairs(h) {
			low, high := min(numbers[pair[0]], numbers[pair[1]]), max(numbers[pair[0]], numbers[pair[1]])
			for i, number := range numbers {
				if number == high {
					numbers[i] = low
				}
			}
		}
	}
	var groups [][]int64
	for first := range numbers {
		var group []int64
		for goat, number := range numbers {
			if number == int64(first) {
				group = append(group, int64(goat))
			}
		}
		if group != nil {
			groups = append(groups, group)
		}
	}
	return groups
}

// quarrelByHand returns the first two foes in one group of as many numbers as goats.
func quarrelByHand(h impl.Herd, groups []int64) (a, b int, found bool) {
	for _, pair := range foePairs(h) {
		if groups[pair[0]] == groups[pair[1]] {
			return pair[0], pair[1], true
		}
	}
	return 0, 0, false
}

func areNumbers(h impl.Herd, groups []int64) bool {
	return len(groups) == len(h.Names) && !slices.ContainsFunc(groups, func(g int64) bool { return g < 0 || g > 13 })
}

func isPeace(h impl.Herd, groups []int64) bool {
	if !areNumbers(h, groups) {
		return false
	}
	_, _, found := quarrelByHand(h, groups)
	return !found
}

// greedyGroupsByHand tries for each goat all groups, from 0 on; -1 are goats that have none yet.
func greedyGroupsByHand(h impl.Herd, order []int64) []int64 {
	groups := slices.Repeat([]int64{-1}, len(h.Names))
	for _, goat := range order {
		fits := false
		for group := int64(0); !fits; group++ {
			fits = true
			for other, number := range groups {
				fits = fits && !(number == group && isFoe(h, int(goat), other))
			}
			if fits {
				groups[goat] = group
			}
		}
	}
	return groups
}

// everyList returns all lists of so many numbers below another one, in their order.
func everyList(length, below int) [][]int64 {
	lists := [][]int64{nil}
	for range length {
		var longer [][]int64
		for _, list := range lists {
			for number := range below {
				longer = append(longer, append(slices.Clone(list), int64(number)))
			}
		}
		lists = longer
	}
	return lists
}

// differentOf returns how many different numbers a list has.
func differentOf(list []int64) int { return len(slices.Compact(slices.Sorted(slices.Values(list)))) }

// fewestByHand tries all lists of groups; for herds of a few goats.
func fewestByHand(h impl.Herd) (best []int64, count int) {
	count = len(h.Names) + 1
	for _, groups := range everyList(len(h.Names), len(h.Names)) {
		different := differentOf(groups)
		gaps := len(groups) > 0 && slices.Max(groups) != int64(different-1)
		if !gaps && different < count && isPeace(h, groups) {
			best, count = groups, different
		}
	}
	return best, count
}

// fewestCount returns how many groups a herd needs: for each set of goats, one more than without the goats of one more group.
func fewestCount(h impl.Herd) int {
	counts := make([]int, 1<<len(h.Names))
	for set := 1; set < len(counts); set++ {
		counts[set] = len(h.Names)
		for part := set; part > 0; part = (part - 1) & set {
			if isCalm(h, part) {
				counts[set] = min(counts[set], counts[set&^part]+1)
			}
		}
	}
	return counts[len(counts)-1]
}

// isCalm reports whether no two goats of a set, told by bits, are foes.
func isCalm(h impl.Herd, set int) bool {
	for goat := range h.Names {
		if set>>goat&1 == 1 && int(h.Foes[goat])&set != 0 {
			return false
		}
	}
	return true
}

// firstGroups returns the first list of so many peaceful groups, going on by calling itself; nil if there is none.
func firstGroups(h impl.Herd, ahead []int64, count int) []int64 {
	goat := len(ahead)
	if goat == len(h.Names) {
		return ahead
	}
	new := int64(0)
	for _, number := range ahead {
		new = max(new, number+1)
	}
	for number := int64(0); number < int64(count) && number <= new; number++ {
		quarrels := false
		for other := range ahead {
			quarrels = quarrels || ahead[other] == number && isFoe(h, goat, other)
		}
		if !quarrels {
			if groups := firstGroups(h, append(slices.Clone(ahead), number), count); groups != nil {
				return groups
			}
		}
	}
	return nil
}

// mostGoats tries all sets of goats, and returns the most each two of which are foes, or of which no two are; of several lists the first one.
func mostGoats(h impl.Herd, foes bool) []int64 {
	var best []int64
	for set := range 1 << len(h.Names) {
		var list []int64
		fits := true
		for goat := range h.Names {
			if set>>goat&1 == 0 {
				continue
			}
			for _, other := range list {
				fits = fits && isFoe(h, goat, int(other)) == foes
			}
			list = append(list, int64(goat))
		}
		if fits && (len(list) > len(best) || len(list) == len(best) && slices.Compare(list, best) < 0) {
			best = list
		}
	}
	return best
}

func needsByHand(h impl.Herd, groups []int64) []int64 {
	var needs []int64
	for number := range int64(impl.MaxGroups) {
		if !slices.ContainsFunc(groups, func(g int64) bool { return g >= number }) {
			break
		}
		need := int64(0)
		for goat, group := range groups {
			if group == number {
				need += int64(h.Eats[goat])
			}
		}
		needs = append(needs, need)
	}
	return needs
}

// fitByHand tries all ways in their order, going on by calling itself.
func fitByHand(needs, yards, taken []int64) ([]int64, bool) {
	if len(taken) == len(needs) {
		return taken, true
	}
	for yard, grass := range yards {
		if grass >= needs[len(taken)] && !slices.Contains(taken, int64(yard)) {
			if way, found := fitByHand(needs, yards, append(slices.Clone(taken), int64(yard))); found {
				return way, true
			}
		}
	}
	return nil, false
}

// tiltByHand returns the size of west * b - east * a at a column.
func tiltByHand(p impl.Pasture, column int, a, b int64) int64 {
	west, east := int64(0), int64(0)
	for _, s := range cellsOf(p) {
		if int(s.X) < column {
			west += int64(grassAt(p, s))
		} else {
			east += int64(grassAt(p, s))
		}
	}
	if west*b < east*a {
		return east*a - west*b
	}
	return west*b - east*a
}

func cutByHand(p impl.Pasture, a, b int64) int {
	best := 0
	for column := range int(p.Wide) + 1 {
		if tiltByHand(p, column, a, b) < tiltByHand(p, best, a, b) {
			best = column
		}
	}
	return best
}

func wateredByHand(p impl.Pasture, water []impl.Spot) []int64 {
	var list []int64
	for i, yard := range yardsByHand(p) {
		if shareCells(yard, water) {
			list = append(list, int64(i))
		}
	}
	return list
}

func herdByHand(h impl.Herd) string {
	text := ""
	for i, name := range h.Names {
		text += name + " " + strconv.Itoa(int(h.Eats[i]))
		for j, other := range h.Names {
			if isFoe(h, i, j) {
				text += " " + other
			}
		}
		text += "\n"
	}
	return text
}

// pickByHand returns some goats of a herd, without the bits of others.
func pickByHand(h impl.Herd, goats []int64) impl.Herd {
	var some impl.Herd
	for _, goat := range goats {
		bits := 0
		for i, other := range goats {
			if isFoe(h, int(goat), int(other)) {
				bits |= 1 << i
			}
		}
		some.Names = append(some.Names, h.Names[goat])
		some.Eats = append(some.Eats, h.Eats[goat])
		some.Foes = append(some.Foes, uint16(bits))
	}
	return some
}

// renamed returns a herd whose names have another first letter.
func renamed(h impl.Herd, letter string) impl.Herd {
	names := slices.Clone(h.Names)
	for i := range names {
		names[i] = letter + string(rune('a'+i))
	}
	return impl.Herd{Names: names, Eats: slices.Clone(h.Eats), Foes: slices.Clone(h.Foes)}
}

func copyOf(h impl.Herd) impl.Herd {
	return impl.Herd{Names: slices.Clone(h.Names), Eats: slices.Clone(h.Eats), Foes: slices.Clone(h.Foes)}
}

func shuffled(r *rand.Rand, count int) []int64 {
	list := indicesBelow(count)
	r.Shuffle(count, func(i, j int) { list[i], list[j] = list[j], list[i] })
	return list
}
