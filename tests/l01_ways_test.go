package tests

import (
	"slices"
	"testing"

	"loop.example/g01345/impl"
)

// distancesIn returns the least steps between all cells, by shortening until nothing changes.
func distancesIn(p impl.Pasture) map[link]int64 {
	cells := cellsOf(p)
	steps := map[link]int64{}
	for _, s := range cells {
		steps[link{s, s}] = 0
	}
	for changed := true; changed; {
		changed = false
		for _, from := range cells {
			for _, at := range cells {
				far, known := steps[link{from, at}]
				if !known {
					continue
				}
				for _, next := range openTo(p, at) {
					old, known := steps[link{from, next}]
					if !known || old > far+1 {
						steps[link{from, next}] = far + 1
						changed = true
					}
				}
			}
		}
	}
	return steps
}

// somePairs returns all pairs of cells of a small pasture, and a part of those of a greater one.
func somePairs(p impl.Pasture) []link {
	cells := cellsOf(p)
	stride := 1
	if len(cells) > 20 {
		stride = 11 // it divides no number of cells, so that each cell comes in pairs
	}
	var list []link
	for i := 0; i < len(cells)*len(cells); i += stride {
		list = append(list, link{cells[i/len(cells)], cells[i%len(cells)]})
	}
	return list
}

// firstWay returns the way with so many steps that comes first as a list, of all that there are.
func firstWay(p impl.Pasture, from, to impl.Spot, steps int64) []impl.Spot {
	if from == to && steps == 0 {
		return []impl.Spot{to}
	}
	if steps == 0 {
		return nil
	}
	var first []impl.Spot
	for _, next := range openTo(p, from) {
		rest := firstWay(p, next, to, steps-1)
		if rest == nil {
			continue
		}
		way := append([]impl.Spot{from}, rest...)
		if first == nil || slices.CompareFunc(way, first, compareSpots) < 0 {
			first = way
		}
	}
	return first
}

func compareSpots(a, b impl.Spot) int {
	if a.Y != b.Y {
		return int(a.Y) - int(b.Y)
	}
	return int(a.X) - int(b.X)
}

func yardsByHand(p impl.Pasture) [][]impl.Spot {
	steps := distancesIn(p)
	var yards [][]impl.Spot
	done := map[impl.Spot]bool{}
	for _, s := range cellsOf(p) {
		if done[s] {
			continue
		}
		var yard []impl.Spot
		for _, other := range cellsOf(p) {
			if _, found := steps[link{s, other}]; found {
				yard = append(yard, other)
				done[other] = true
			}
		}
		yards = append(yards, yard)
	}
	return yards
}

func TestYards(t *testing.T) {
	for _, p := range append(somePastures(), everyFence(2, 3)...) {
		yards := yardsByHand(p)
		expect(t, "YardsOf", yards, 0)(impl.YardsOf(p))
		for _, yard := range yards {
			for _, s := range yard {
				expect(t, "YardOf", yard, 0)(impl.YardOf(p, s))
			}
		}
		steps := distancesIn(p)
		for _, pair := range somePairs(p) {
			_, same := steps[pair]
			expect(t, "SameYard", same, 0)(impl.SameYard(p, pair.from, pair.to))
		}
	}
}

func TestSteps(t *testing.T) {
	for _, p := range append(somePastures(), everyFence(2, 3)...) {
		steps := distancesIn(p)
		for _, pair := range somePairs(p) {
			a, b := pair.from, pair.to
			far, found := steps[pair]
			if !found {
				expectCode(t, "StepsBetween", impl.ErrNotFound)(impl.StepsBetween(p, a, b))
				expectCode(t, "WayBetween", impl.ErrNotFound)(impl.WayBetween(p, a, b))
				continue
			}
			expect(t, "StepsBetween", far, 0)(impl.StepsBetween(p, a, b))
			if far <= 9 {
				expect(t, "WayBetween", firstWay(p, a, b, far), 0)(impl.WayBetween(p, a, b))
			}
		}
	}
}

func TestWaysOfEveryFence(t *testing.T) {
	for _, p := range everyFence(3, 3) {
		steps := distancesIn(p)
		for _, a := range cellsOf(p) {
			for _, b := range cellsOf(p) {
				if far, found := steps[link{a, b}]; found {
					expect(t, "WayBetween", firstWay(p, a, b, far), 0)(impl.WayBetween(p, a, b))
				} else {
					expectCode(t, "WayBetween", impl.ErrNotFound)(impl.WayBetween(p, a, b))
				}
			}
		}
	}
}

// A way has the steps told, and goes from cell to cell where one can go.
func TestLongWays(t *testing.T) {
	p, _ := impl.PlainPasture(10, 10, 0)
	for y := range 9 {
		p.South[y] = 1<<10 - 1 - 1<<(9-9*(y%2))
	}
	expect(t, "StepsBetween", 99, 0)(impl.StepsBetween(p, spotAt(0, 0), spotAt(0, 9)))
	way, code := impl.WayBetween(p, spotAt(0, 0), spotAt(0, 9))
	expect(t, "WayBetween", int64(impl.OK), 100)(code, int64(len(way)))
	for i := range len(way) - 1 {
		if !slices.Contains(openTo(p, way[i]), way[i+1]) {
			t.Errorf("no way from %v to %v", way[i], way[i+1])
		}
	}
}

func TestWaysOfNoStep(t *testing.T) {
	p, _ := impl.PlainPasture(1, 1, 0)
	s := spotAt(0, 0)
	expect(t, "StepsBetween", 0, 0)(impl.StepsBetween(p, s, s))
	expect(t, "WayBetween", []impl.Spot{s}, 0)(impl.WayBetween(p, s, s))
	expect(t, "YardsOf", [][]impl.Spot{{s}}, 0)(impl.YardsOf(p))
	expect(t, "SidesOf", 0, 0)(impl.SidesOf(p, []impl.Spot{s}))
}

func TestIdleHurdles(t *testing.T) {
	for _, p := range append(somePastures(), everyFence(3, 3)...) {
		steps := distancesIn(p)
		idle := 0
		want := p
		want.East, want.South = [10]uint16{}, [10]uint16{}
		for _, side := range sidesIn(p) {
			if !isFenced(p, side.from, side.to) {
				continue
			}
			if _, same := steps[side]; same {
				idle++
			} else {
				want = fence(want, side)
			}
		}
		expect(t, "IdleHurdles", idle, 0)(impl.IdleHurdles(p))
		expect(t, "DropIdle", want, 0)(impl.DropIdle(p))
	}
}

func TestYardsWithoutIdleHurdles(t *testing.T) {
	for _, p := range append(somePastures(), everyFence(3, 3)...) {
		rest, code := impl.DropIdle(p)
		expect(t, "DropIdle", int64(impl.OK))(code)
		expect(t, "IdleHurdles", 0, 0)(impl.IdleHurdles(rest))
		expect(t, "yards", yardsByHand(p))(yardsByHand(rest))
	}
}
