package tests

import (
	"math/rand"
	"slices"
	"strconv"

	"loop.example/g01345/impl"
)

// The helpers here feed goats by the words of the document, so that the program is not tested against itself.

func freeGoat(at impl.Spot, eats int, likes int8) impl.Goat {
	return impl.Goat{At: at, Rope: -1, Eats: int16(eats), Likes: likes}
}

func tiedGoat(at, stake impl.Spot, rope, eats int, likes int8) impl.Goat {
	return impl.Goat{At: at, Stake: stake, Rope: int16(rope), Eats: int16(eats), Likes: likes}
}

func squareOf(a, b impl.Spot) int {
	x, y := int(a.X)-int(b.X), int(a.Y)-int(b.Y)
	return x*x + y*y
}

func isWithinRope(g impl.Goat, s impl.Spot) bool {
	return g.Rope == -1 || squareOf(g.Stake, s) <= int(g.Rope)
}

// ringsFrom returns the least steps from a cell to those of its yard, ring by ring.
func ringsFrom(p impl.Pasture, from impl.Spot) map[impl.Spot]int {
	steps := map[impl.Spot]int{from: 0}
	ring := []impl.Spot{from}
	for far := 1; len(ring) > 0; far++ {
		var next []impl.Spot
		for _, s := range ring {
			for _, to := range openTo(p, s) {
				if _, known := steps[to]; !known {
					steps[to] = far
					next = append(next, to)
				}
			}
		}
		ring = next
	}
	return steps
}

func goatCells(p impl.Pasture, g impl.Goat) []impl.Spot {
	steps := ringsFrom(p, g.At)
	var list []impl.Spot
	for _, s := range cellsOf(p) {
		if _, in := steps[s]; in && isWithinRope(g, s) {
			list = append(list, s)
		}
	}
	return list
}

func grassAt(p impl.Pasture, s impl.Spot) int { return int(p.Grass[s.Y][s.X]) }

func grassIn(p impl.Pasture) int {
	sum := 0
	for _, s := range cellsOf(p) {
		sum += grassAt(p, s)
	}
	return sum
}

// likingOf returns numbers for a cell that come first as a list for the cell that a goat likes best.
func likingOf(p impl.Pasture, g impl.Goat, s impl.Spot, steps int) []int {
	if g.Likes == impl.LiRich {
		return []int{-grassAt(p, s), steps, int(s.Y), int(s.X)}
	}
	return []int{steps, -grassAt(p, s), int(s.Y), int(s.X)}
}

func choiceByHand(p impl.Pasture, g impl.Goat) (impl.Spot, bool) {
	steps := ringsFrom(p, g.At)
	var best impl.Spot
	var liking []int
	for _, s := range goatCells(p, g) {
		if grassAt(p, s) == 0 {
			continue
		}
		if other := likingOf(p, g, s, steps[s]); liking == nil || slices.Compare(other, liking) < 0 {
			best, liking = s, other
		}
	}
	return best, liking != nil
}

// flock is goats on a pasture.
type flock struct {
	p    impl.Pasture
	list []impl.Goat
}

// bite lets a goat of the flock make a bite, and returns how much it has eaten, 0 if it has no choice.
func (f *flock) bite(i, hungry int) int {
	to, found := choiceByHand(f.p, f.list[i])
	if !found {
		return 0
	}
	grass := min(hungry, 5, grassAt(f.p, to))
	f.p.Grass[to.Y][to.X] -= int16(grass)
	f.list[i].At = to
	return grass
}

func (f flock) copied() flock { return flock{f.p, slices.Clone(f.list)} }

// inTurn returns the flock behind FeedInTurn, and what each goat has eaten.
func (f flock) inTurn() (flock, []int64) {
	f = f.copied()
	eaten := make([]int64, len(f.list))
	for i, g := range f.list {
		for range 12 {
			if hungry := int(g.Eats) - int(eaten[i]); hungry > 0 {
				eaten[i] += int64(f.bite(i, hungry))
			}
		}
	}
	return f, eaten
}

// byBites returns the flock behind FeedByBites, and what each goat has eaten.
func (f flock) byBites() (flock, []int64) {
	f = f.copied()
	eaten := make([]int64, len(f.list))
	for range 12 {
		for i, g := range f.list {
			if hungry := int(g.Eats) - int(eaten[i]); hungry > 0 {
				eaten[i] += int64(f.bite(i, hungry))
			}
		}
	}
	return f, eaten
}

func sumOf(list []int64) int64 {
	sum := int64(0)
	for _, number := range list {
		sum += number
	}
	return sum
}

// someGoats returns valid goats, free ones and tied ones, all of them in cells of the pasture.
func someGoats(r *rand.Rand, p impl.Pasture, count int) []impl.Goat {
	cells := cellsOf(p)
	list := []impl.Goat{}
	for range count {
		g := freeGoat(cells[r.Intn(len(cells))], r.Intn(101), int8(r.Intn(2)))
		if r.Intn(3) == 0 {
			g.Eats = int16(r.Intn(13))
		}
		if r.Intn(2) == 0 {
			g.Stake = cells[r.Intn(len(cells))]
			g.Rope = int16(min(200, squareOf(g.At, g.Stake)+r.Intn(2)*r.Intn(20)))
		}
		list = append(list, g)
	}
	return list
}

// someFlocks returns flocks on bare, poor and rich pastures, with no goats up to MaxGoats.
func someFlocks() []flock {
	r := rand.New(rand.NewSource(21))
	var list []flock
	for i, p := range somePastures() {
		most := []int{0, 1, 2, 5, 12, 60, impl.MaxGrass}[i%7]
		for _, s := range cellsOf(p) {
			p.Grass[s.Y][s.X] = int16(r.Intn(most + 1))
		}
		list = append(list, flock{p, someGoats(r, p, i%(impl.MaxGoats+1))})
	}
	return list
}

// invalidGoats returns goats that are not valid for the example pasture, each for one reason.
func invalidGoats() map[string]impl.Goat {
	free, tied := freeGoat(spotAt(2, 0), 12, impl.LiRich), tiedGoat(spotAt(2, 0), spotAt(1, 1), 2, 12, impl.LiNear)
	change := func(g impl.Goat, f func(*impl.Goat)) impl.Goat { f(&g); return g }
	list := map[string]impl.Goat{
		"rope below -1":         change(tied, func(g *impl.Goat) { g.Rope = -2 }),
		"rope far below":        change(tied, func(g *impl.Goat) { g.Rope = -32768 }),
		"too long a rope":       change(tied, func(g *impl.Goat) { g.Rope = 201 }),
		"the longest rope":      change(tied, func(g *impl.Goat) { g.Rope = 32767 }),
		"too short a rope":      change(tied, func(g *impl.Goat) { g.Rope = 1 }),
		"no rope, but a stake":  change(tied, func(g *impl.Goat) { g.Rope = -1 }),
		"free with stake 1, 0":  change(free, func(g *impl.Goat) { g.Stake = spotAt(1, 0) }),
		"free with stake 0, 1":  change(free, func(g *impl.Goat) { g.Stake = spotAt(0, 1) }),
		"tied away from 0, 0":   change(free, func(g *impl.Goat) { g.Rope = 0 }),
		"out of the rope by Y":  tiedGoat(spotAt(1, 1), spotAt(1, 0), 0, 1, impl.LiRich),
		"out of the rope by XY": tiedGoat(spotAt(0, 1), spotAt(2, 0), 4, 1, impl.LiRich),
		"eats below zero":       change(free, func(g *impl.Goat) { g.Eats = -1 }),
		"eats too much":         change(free, func(g *impl.Goat) { g.Eats = 101 }),
		"eats far too much":     change(tied, func(g *impl.Goat) { g.Eats = 32767 }),
		"likes nothing":         change(free, func(g *impl.Goat) { g.Likes = -1 }),
		"likes another thing":   change(tied, func(g *impl.Goat) { g.Likes = 2 }),
		"likes 127":             change(tied, func(g *impl.Goat) { g.Likes = 127 }),
	}
	for i, s := range badSpots {
		list["stands in no cell "+strconv.Itoa(i)] = change(free, func(g *impl.Goat) { g.At = s })
		list["tied to no cell "+strconv.Itoa(i)] = change(tied, func(g *impl.Goat) { g.Stake, g.Rope = s, 200 })
		list["tied where no cell is "+strconv.Itoa(i)] = change(tied, func(g *impl.Goat) { g.At, g.Stake = s, s })
	}
	return list
}
