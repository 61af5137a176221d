package tests

import (
	"math/bits"
	"math/rand"
	"slices"
	"strconv"
	"strings"

	"loop.example/g01345/impl"
)

// The helpers here build fences by the words of the document, so that the program is not tested against itself.

func eastOf(x, y int) impl.Hurdle  { return impl.Hurdle{At: spotAt(x, y)} }
func southOf(x, y int) impl.Hurdle { return impl.Hurdle{At: spotAt(x, y), South: true} }

func hurdleOn(side link) impl.Hurdle {
	return impl.Hurdle{At: side.from, South: side.from.X == side.to.X}
}

func linkOf(h impl.Hurdle) link {
	if h.South {
		return link{h.At, spotAt(int(h.At.X), int(h.At.Y)+1)}
	}
	return link{h.At, spotAt(int(h.At.X)+1, int(h.At.Y))}
}

// unfence takes a hurdle away by its bit.
func unfence(p impl.Pasture, side link) impl.Pasture {
	if side.from.Y == side.to.Y {
		p.East[side.from.Y] &^= 1 << uint(side.from.X)
	} else {
		p.South[side.from.Y] &^= 1 << uint(side.from.X)
	}
	return p
}

func fenceAll(p impl.Pasture, list []impl.Hurdle) impl.Pasture {
	for _, h := range list {
		p = fence(p, linkOf(h))
	}
	return p
}

func unfenceAll(p impl.Pasture, list []impl.Hurdle) impl.Pasture {
	for _, h := range list {
		p = unfence(p, linkOf(h))
	}
	return p
}

// sidesThat returns the sides with hurdles, or those without, as hurdles and in their order.
func sidesThat(p impl.Pasture, fenced bool) []impl.Hurdle {
	var list []impl.Hurdle
	for _, side := range sidesIn(p) {
		if isFenced(p, side.from, side.to) == fenced {
			list = append(list, hurdleOn(side))
		}
	}
	return list
}

// openByHand returns the open sides between the cells of a list and others.
func openByHand(p impl.Pasture, list []impl.Spot) []impl.Hurdle {
	var open []impl.Hurdle
	for _, h := range sidesThat(p, false) {
		side := linkOf(h)
		if slices.Contains(list, side.from) != slices.Contains(list, side.to) {
			open = append(open, h)
		}
	}
	return open
}

// reachedFrom returns all cells to which one can go from those of a list, ordered.
func reachedFrom(p impl.Pasture, list []impl.Spot) []impl.Spot {
	reached := map[impl.Spot]bool{}
	for _, from := range list {
		if !reached[from] {
			for s := range ringsFrom(p, from) {
				reached[s] = true
			}
		}
	}
	var cells []impl.Spot
	for _, s := range cellsOf(p) {
		if reached[s] {
			cells = append(cells, s)
		}
	}
	return cells
}

func shareCells(a, b []impl.Spot) bool {
	return slices.ContainsFunc(a, func(s impl.Spot) bool { return slices.Contains(b, s) })
}

// subsets returns all sets of hurdles of a list, those of fewer hurdles first.
func subsets(list []impl.Hurdle) [][]impl.Hurdle {
	var sets [][]impl.Hurdle
	for count := range len(list) + 1 {
		for set := range uint(1) << len(list) {
			if bits.OnesCount(set) != count {
				continue
			}
			var some []impl.Hurdle
			for i, h := range list {
				if set>>i&1 == 1 {
					some = append(some, h)
				}
			}
			sets = append(sets, some)
		}
	}
	return sets
}

// partByHand tries all sets of hurdles; it returns the fewest that part a from b and reach the fewest cells,
// these cells, and how many such sets there are.
func partByHand(p impl.Pasture, a, b []impl.Spot) (part []impl.Hurdle, near []impl.Spot, sets int) {
	for _, list := range subsets(sidesThat(p, false)) {
		if sets > 0 && len(list) > len(part) {
			break
		}
		reached := reachedFrom(fenceAll(p, list), a)
		if shareCells(reached, b) {
			continue
		}
		if sets == 0 || len(reached) < len(near) {
			part, near, sets = list, reached, 1
		} else if len(reached) == len(near) {
			sets++
		}
	}
	return part, near, sets
}

// streams are steps from cell to cell, of which none is made in both directions.
type streams map[link]bool

// search goes on from a cell to one of b where a stream can go or be turned back, and adds its steps; false if it cannot.
func (f streams) search(p impl.Pasture, at impl.Spot, b []impl.Spot, seen map[impl.Spot]bool) bool {
	if slices.Contains(b, at) {
		return true
	}
	for _, next := range openTo(p, at) {
		if seen[next] || f[link{at, next}] {
			continue
		}
		seen[next] = true
		if f.search(p, next, b, seen) {
			if f[link{next, at}] {
				delete(f, link{next, at})
			} else {
				f[link{at, next}] = true
			}
			return true
		}
	}
	return false
}

// more adds a stream from a to b, or returns the cells to which one can come in search of it.
func (f streams) more(p impl.Pasture, a, b []impl.Spot) (seen map[impl.Spot]bool, added bool) {
	seen = map[impl.Spot]bool{}
	for _, s := range a {
		seen[s] = true
	}
	for _, s := range a {
		if f.search(p, s, b, seen) {
			return nil, true
		}
	}
	return seen, false
}

// take takes away the steps of a way from a cell to one of b, and returns it.
func (f streams) take(p impl.Pasture, from impl.Spot, b []impl.Spot) []impl.Spot {
	way := []impl.Spot{from}
	for at := from; !slices.Contains(b, at); {
		for _, next := range openTo(p, at) {
			if f[link{at, next}] {
				delete(f, link{at, next})
				way = append(way, next)
				at = next
				break
			}
		}
	}
	return way
}

// mostWays returns as many ways from a to b that share no side as there are, and the cells near a when there is no more.
func mostWays(p impl.Pasture, a, b []impl.Spot) (ways [][]impl.Spot, near []impl.Spot) {
	f := streams{}
	seen, added := f.more(p, a, b)
	for added {
		seen, added = f.more(p, a, b)
	}
	for _, s := range cellsOf(p) {
		if seen[s] {
			near = append(near, s)
		}
		for _, next := range openTo(p, s) {
			if slices.Contains(a, s) && f[link{s, next}] {
				ways = append(ways, f.take(p, s, b))
			}
		}
	}
	return ways, near
}

// nextWay returns the shortest way from a to b that comes first as a list, of all that there are; nil if there is none.
func nextWay(p impl.Pasture, a, b []impl.Spot) []impl.Spot {
	if !shareCells(reachedFrom(p, a), b) {
		return nil
	}
	for steps := int64(0); ; steps++ {
		var first []impl.Spot
		for _, from := range a {
			for _, to := range b {
				way := firstWay(p, from, to, steps)
				if way != nil && (first == nil || slices.CompareFunc(way, first, compareSpots) < 0) {
					first = way
				}
			}
		}
		if first != nil {
			return first
		}
	}
}

func waysByHand(p impl.Pasture, a, b []impl.Spot) [][]impl.Spot {
	var ways [][]impl.Spot
	for {
		way := nextWay(p, a, b)
		if way == nil {
			return ways
		}
		ways = append(ways, way)
		p = fenceWay(p, way)
	}
}

// fenceWay puts hurdles on all sides over which a way goes.
func fenceWay(p impl.Pasture, way []impl.Spot) impl.Pasture {
	for i, s := range way[1:] {
		side := link{way[i], s}
		if compareSpots(s, way[i]) < 0 {
			side = link{s, way[i]}
		}
		p = fence(p, side)
	}
	return p
}

// smallByHand returns the cells that SmallYard should tell; it grows all sets of connected cells, one cell after the other.
func smallByHand(p impl.Pasture, from impl.Spot, size int) (best []impl.Spot, least int) {
	sets := map[string][]impl.Spot{"": {from}}
	for range size - 1 {
		grown := map[string][]impl.Spot{}
		for _, set := range sets {
			for _, s := range set {
				for _, next := range openTo(p, s) {
					if !slices.Contains(set, next) {
						more := slices.SortedFunc(slices.Values(append(slices.Clone(set), next)), compareSpots)
						grown[wordsOf(more)] = more
					}
				}
			}
		}
		sets = grown
	}
	for _, set := range sets {
		open := 0
		for _, s := range set {
			for _, next := range openTo(p, s) {
				if !slices.Contains(set, next) {
					open++
				}
			}
		}
		if best == nil || open < least || open == least && slices.CompareFunc(set, best, compareSpots) < 0 {
			best, least = set, open
		}
	}
	return best, least
}

func wordsOf(list []impl.Spot) string {
	var words []string
	for _, s := range list {
		words = append(words, wordOf(s))
	}
	return strings.Join(words, " ")
}

func fenceByHand(list []impl.Hurdle) string {
	var words []string
	for _, h := range list {
		mark := "|"
		if h.South {
			mark = "_"
		}
		words = append(words, strconv.Itoa(int(h.At.X))+","+strconv.Itoa(int(h.At.Y))+mark)
	}
	return strings.Join(words, " ")
}

// parting is cells of a pasture to be parted from others; none is in both lists, but some come twice.
type parting struct {
	p    impl.Pasture
	a, b []impl.Spot
}

// randomParting takes about so many of ten cells for each list.
func randomParting(r *rand.Rand, p impl.Pasture, first, second int) parting {
	v := parting{p: p}
	cells := cellsOf(p)
	for _, i := range r.Perm(len(cells)) {
		n := r.Intn(10)
		if n < first {
			v.a = append(v.a, cells[i])
		} else if n < first+second {
			v.b = append(v.b, cells[i])
		}
	}
	v.a = append(v.a, v.a[:len(v.a)/2]...)
	v.b = append(v.b, v.b[len(v.b)/2:]...)
	return v
}

// smallPartings are such that all sets of hurdles can be tried.
func smallPartings() []parting {
	r := rand.New(rand.NewSource(31))
	var list []parting
	for _, p := range everyFence(3, 2) {
		for _, counts := range [][2]int{{2, 2}, {1, 4}, {4, 1}, {0, 5}, {5, 0}, {5, 5}} {
			list = append(list, randomParting(r, p, counts[0], counts[1]))
		}
	}
	for range 60 {
		list = append(list, randomParting(r, randomPasture(r, 3, 3, 2), 2, 2))
		list = append(list, randomParting(r, randomPasture(r, 5, 2, 2), 1, 2))
		list = append(list, randomParting(r, randomPasture(r, 8, 1, 1), 2, 2))
	}
	return list
}

// somePartings have pastures of all sizes, single cells and lists of many.
func somePartings() []parting {
	r := rand.New(rand.NewSource(32))
	list := smallPartings()
	for i, p := range somePastures() {
		list = append(list, randomParting(r, p, i%4, i%5))
		if cells := cellsOf(p); len(cells) > 1 {
			pair := r.Perm(len(cells))[:2]
			list = append(list, parting{p, []impl.Spot{cells[pair[0]]}, []impl.Spot{cells[pair[1]]}})
		}
	}
	for i := range 60 {
		p := randomPasture(r, 4+r.Intn(7), 4+r.Intn(7), i%4)
		list = append(list, randomParting(r, p, 1, 1), randomParting(r, p, 1+i%5, 1+i%4))
	}
	return list
}
