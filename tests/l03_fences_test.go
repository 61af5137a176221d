package tests

import (
	"slices"
	"testing"

	"loop.example/g01345/impl"
)

func TestExampleOfFences(t *testing.T) {
	p, _ := impl.PlainPasture(3, 2, 5)
	a, b := []impl.Spot{spotAt(0, 0)}, []impl.Spot{spotAt(2, 1)}
	part := []impl.Hurdle{eastOf(0, 0), southOf(0, 0)}
	expect(t, "PartCells", part, 0)(impl.PartCells(p, a, b))
	expect(t, "FenceText", "0,0| 0,0_")(impl.FenceText(part))
	expect(t, "NearSide", a, 0)(impl.NearSide(p, a, b))
	ways := [][]impl.Spot{
		{spotAt(0, 0), spotAt(1, 0), spotAt(2, 0), spotAt(2, 1)},
		{spotAt(0, 0), spotAt(0, 1), spotAt(1, 1), spotAt(2, 1)},
	}
	expect(t, "WaysApart", ways, 0)(impl.WaysApart(p, a, b))
	expect(t, "SmallYard", []impl.Spot{spotAt(0, 0), spotAt(1, 0)}, 3, 0)(impl.SmallYard(p, spotAt(1, 0), 2))
	four := []impl.Hurdle{eastOf(0, 0), eastOf(1, 0), eastOf(0, 1), eastOf(1, 1)}
	expect(t, "OpenSides", four, 0)(impl.OpenSides(p, []impl.Spot{spotAt(1, 0), spotAt(1, 1)}))
	shut := fenceAll(p, part)
	expect(t, "EncloseCells", shut, 2, 0)(impl.EncloseCells(p, a))
	expect(t, "BestGate", eastOf(0, 0), 3, 0)(impl.BestGate(shut, spotAt(0, 0), spotAt(2, 1)))
}

// A hurdle is valid where there are cells on both sides of it, and nowhere else.
func TestValidHurdle(t *testing.T) {
	for _, p := range []impl.Pasture{examplePasture(t), pastureOf(t, "1"), grassy(10, 10, func(x, y int) int { return 0 })} {
		valid := map[impl.Hurdle]bool{}
		for _, side := range sidesIn(p) {
			valid[hurdleOn(side)] = true
		}
		for x := -128; x < 128; x++ {
			for y := -128; y < 128; y++ {
				for _, h := range []impl.Hurdle{eastOf(x, y), southOf(x, y)} {
					expect(t, "ValidHurdle "+fenceByHand([]impl.Hurdle{h}), valid[h])(impl.ValidHurdle(p, h))
				}
			}
		}
	}
	for name, p := range invalidPastures() {
		expect(t, name, false)(impl.ValidHurdle(p, eastOf(0, 0)))
		expect(t, name, false)(impl.ValidHurdle(p, southOf(0, 0)))
	}
}

func TestHurdlesOf(t *testing.T) {
	want := []impl.Hurdle{eastOf(1, 0), southOf(1, 0)}
	expect(t, "example", want, 0)(impl.HurdlesOf(examplePasture(t)))
	expect(t, "none", []impl.Hurdle(nil), 0)(impl.HurdlesOf(pastureOf(t, "1 1", "1 1")))
	mixed := []impl.Hurdle{southOf(0, 0), eastOf(1, 0), southOf(2, 0), eastOf(0, 1)}
	expect(t, "mixed", mixed, 0)(impl.HurdlesOf(pastureOf(t, "1_ 1| 1_", "1| 1 1")))
	for _, p := range append(somePastures(), everyFence(3, 3)...) {
		expect(t, "HurdlesOf", sidesThat(p, true), 0)(impl.HurdlesOf(p))
	}
}

// Hurdles that stand already, and those that do not stand, change nothing; nor does it matter how often one comes.
func TestAddAndTakeHurdles(t *testing.T) {
	for _, p := range append(somePastures(), everyFence(3, 3)...) {
		stand, open := sidesThat(p, true), sidesThat(p, false)
		all := slices.Concat(open, stand, open)
		slices.Reverse(all)
		expect(t, "add none", p, 0)(impl.AddHurdles(p, nil))
		expect(t, "take none", p, 0)(impl.TakeHurdles(p, nil))
		expect(t, "add those that stand", p, 0)(impl.AddHurdles(p, stand))
		expect(t, "take those that do not", p, 0)(impl.TakeHurdles(p, open))
		expect(t, "add all", fenceAll(p, open), 0)(impl.AddHurdles(p, all))
		expect(t, "take all", unfenceAll(p, stand), 0)(impl.TakeHurdles(p, all))
		for i, h := range stand {
			expect(t, "take one", unfence(p, linkOf(h)), 0)(impl.TakeHurdles(p, stand[i:i+1]))
		}
		for i, h := range open {
			expect(t, "add one", fence(p, linkOf(h)), 0)(impl.AddHurdles(p, open[i:i+1]))
		}
	}
}

// A hurdle on a wall is refused wherever it comes in a list, and whatever else is told.
func TestHurdlesOnWalls(t *testing.T) {
	p := examplePasture(t)
	good := eastOf(0, 0)
	wrong := []impl.Hurdle{
		eastOf(2, 0), eastOf(2, 1), southOf(0, 1), southOf(2, 1), eastOf(-1, 0), southOf(0, -1), eastOf(3, 0), southOf(0, 2),
		eastOf(127, 0), southOf(0, 127), eastOf(-128, -128), southOf(1, -128), eastOf(0, 9), southOf(9, 0),
	}
	for _, h := range wrong {
		for _, list := range [][]impl.Hurdle{{h}, {good, h}, {h, good}, {good, h, good}} {
			expectCode(t, "AddHurdles", impl.ErrRange)(impl.AddHurdles(p, list))
			expectCode(t, "TakeHurdles", impl.ErrRange)(impl.TakeHurdles(p, list))
			expectCode(t, "CheckPart", impl.ErrRange)(impl.CheckPart(p, nil, nil, list))
			expectCode(t, "CheckPart", impl.ErrRange)(impl.CheckPart(p, cellsOf(p), cellsOf(p), list))
		}
	}
}

func TestOpenSides(t *testing.T) {
	p := pastureOf(t, "1 1| 1", "1 1_ 1", "1 1 1")
	middle := []impl.Spot{spotAt(1, 1), spotAt(1, 0), spotAt(1, 1)}
	want := []impl.Hurdle{eastOf(0, 0), eastOf(0, 1), eastOf(1, 1)}
	expect(t, "a cell twice", want, 0)(impl.OpenSides(p, middle))
	around := []impl.Hurdle{southOf(1, 0), eastOf(0, 1), eastOf(1, 1)}
	expect(t, "north, west, east", around, 0)(impl.OpenSides(p, []impl.Spot{spotAt(1, 1)}))
	expect(t, "no cells", []impl.Hurdle(nil), 0)(impl.OpenSides(p, nil))
	expect(t, "all cells", []impl.Hurdle(nil), 0)(impl.OpenSides(p, cellsOf(p)))
	for _, v := range somePartings() {
		expect(t, "OpenSides", openByHand(v.p, v.a), 0)(impl.OpenSides(v.p, v.a))
		expect(t, "OpenSides", openByHand(v.p, v.b), 0)(impl.OpenSides(v.p, v.b))
	}
}

// Hurdles stand on all open sides then; those that stood before are not counted.
func TestEncloseCells(t *testing.T) {
	p := pastureOf(t, "1 1| 1", "1 1_ 1", "1 1 1")
	shut := pastureOf(t, "1| 1| 1", "1| 1|_ 1", "1 1 1")
	expect(t, "two cells", shut, 3, 0)(impl.EncloseCells(p, []impl.Spot{spotAt(1, 1), spotAt(1, 0), spotAt(1, 0)}))
	expect(t, "again", shut, 0, 0)(impl.EncloseCells(shut, []impl.Spot{spotAt(1, 0), spotAt(1, 1)}))
	expect(t, "no cells", p, 0, 0)(impl.EncloseCells(p, nil))
	expect(t, "all cells", p, 0, 0)(impl.EncloseCells(p, cellsOf(p)))
	for _, v := range somePartings() {
		open := openByHand(v.p, v.a)
		expect(t, "EncloseCells", fenceAll(v.p, open), len(open), 0)(impl.EncloseCells(v.p, v.a))
	}
}

// gateByHand takes away each hurdle alone, and returns the first one without which the way is shortest.
func gateByHand(p impl.Pasture, a, b impl.Spot) (best impl.Hurdle, steps int, found bool) {
	for _, h := range sidesThat(p, true) {
		far, there := ringsFrom(unfence(p, linkOf(h)), a)[b]
		if there && (!found || far < steps) {
			best, steps, found = h, far, true
		}
	}
	return best, steps, found
}

func TestBestGate(t *testing.T) {
	p := pastureOf(t, "1| 1| 1")
	expect(t, "two gates", eastOf(0, 0), 1, 0)(impl.BestGate(p, spotAt(1, 0), spotAt(0, 0)))
	expectCode(t, "one less is not enough", impl.ErrNotFound)(impl.BestGate(p, spotAt(0, 0), spotAt(2, 0)))
	expectCode(t, "one can go there", impl.ErrState)(impl.BestGate(p, spotAt(2, 0), spotAt(2, 0)))
	same := pastureOf(t, "1 1_ 1", "1 1 1")
	expectCode(t, "around", impl.ErrState)(impl.BestGate(same, spotAt(1, 0), spotAt(1, 1)))
	// Three gates: by the first two there are as few steps, and by the last one more.
	wall := pastureOf(t, "1_ 1_ 1_", "1 1 1")
	expect(t, "first of several", southOf(0, 0), 2, 0)(impl.BestGate(wall, spotAt(1, 0), spotAt(0, 1)))
	expect(t, "straight on", southOf(1, 0), 1, 0)(impl.BestGate(wall, spotAt(1, 0), spotAt(1, 1)))
	expect(t, "from the south", southOf(2, 0), 1, 0)(impl.BestGate(wall, spotAt(2, 1), spotAt(2, 0)))
	for _, p := range append(somePastures(), everyFence(3, 2)...) {
		for i, pair := range somePairs(p) {
			if len(cellsOf(p)) > 20 && i%7 > 0 {
				continue
			}
			best, steps, found := gateByHand(p, pair.from, pair.to)
			if _, same := ringsFrom(p, pair.from)[pair.to]; same {
				expectCode(t, "BestGate", impl.ErrState)(impl.BestGate(p, pair.from, pair.to))
			} else if !found {
				expectCode(t, "BestGate", impl.ErrNotFound)(impl.BestGate(p, pair.from, pair.to))
			} else {
				expect(t, "BestGate", best, steps, 0)(impl.BestGate(p, pair.from, pair.to))
			}
		}
	}
}

// gatesFrom returns the least number of hurdles on any way to each cell, by lowering until nothing changes.
func gatesFrom(p impl.Pasture, from impl.Spot) map[impl.Spot]int {
	gates := map[impl.Spot]int{from: 0}
	for changed := true; changed; {
		changed = false
		for _, side := range sidesIn(p) {
			for _, step := range []link{side, {side.to, side.from}} {
				count, known := gates[step.from]
				if isFenced(p, side.from, side.to) {
					count++
				}
				if old, there := gates[step.to]; known && (!there || count < old) {
					gates[step.to] = count
					changed = true
				}
			}
		}
	}
	return gates
}

func TestGatesNeeded(t *testing.T) {
	plain := grassy(10, 10, func(x, y int) int { return 0 })
	full := fenceAll(plain, sidesThat(plain, false))
	expect(t, "corner to corner", 18, 0)(impl.GatesNeeded(full, spotAt(0, 0), spotAt(9, 9)))
	expect(t, "the same cell", 0, 0)(impl.GatesNeeded(full, spotAt(4, 4), spotAt(4, 4)))
	around := pastureOf(t, "1| 1| 1", "1_ 1_ 1_", "1 1 1")
	expect(t, "around", 0, 0)(impl.GatesNeeded(around, spotAt(0, 0), spotAt(2, 0)))
	expect(t, "south", 1, 0)(impl.GatesNeeded(around, spotAt(0, 0), spotAt(2, 2)))
	// Two hurdles straight on; around there is only one.
	ring := pastureOf(t, "1| 1| 1", "1_ 1|_ 1", "1 1 1")
	expect(t, "one gate around", 1, 0)(impl.GatesNeeded(ring, spotAt(0, 0), spotAt(2, 0)))
	for _, p := range somePastures() {
		for _, a := range cellsOf(p)[:min(3, int(p.Wide))] {
			for b, count := range gatesFrom(p, a) {
				expect(t, "GatesNeeded", count, 0)(impl.GatesNeeded(p, a, b))
				expect(t, "GatesNeeded back", count, 0)(impl.GatesNeeded(p, b, a))
			}
		}
	}
}

// With so many gates, and no fewer, there are hurdles without which one can go there.
func TestFewestGates(t *testing.T) {
	for _, p := range everyFence(3, 2) {
		sets := subsets(sidesThat(p, true))
		for _, b := range cellsOf(p) {
			i := slices.IndexFunc(sets, func(list []impl.Hurdle) bool {
				return slices.Contains(reachedFrom(unfenceAll(p, list), []impl.Spot{spotAt(1, 1)}), b)
			})
			expect(t, "GatesNeeded", len(sets[i]), 0)(impl.GatesNeeded(p, spotAt(1, 1), b))
		}
	}
}

func TestWeakSides(t *testing.T) {
	expect(t, "a row", []impl.Hurdle{eastOf(0, 0), eastOf(1, 0)}, 0)(impl.WeakSides(pastureOf(t, "1 1 1")))
	expect(t, "a ring", []impl.Hurdle(nil), 0)(impl.WeakSides(pastureOf(t, "1 1", "1 1")))
	expect(t, "all hurdles", []impl.Hurdle(nil), 0)(impl.WeakSides(pastureOf(t, "1|_ 1_", "1| 1")))
	hook := []impl.Hurdle{southOf(0, 0), southOf(1, 0), eastOf(0, 1)}
	expect(t, "a hook", hook, 0)(impl.WeakSides(pastureOf(t, "1| 1", "1 1")))
	tail := []impl.Hurdle{eastOf(1, 1), eastOf(2, 1)}
	expect(t, "a ring with a tail", tail, 0)(impl.WeakSides(pastureOf(t, "1 1| 1|_ 1_", "1 1 1 1")))
	for _, p := range append(somePastures(), everyFence(3, 3)...) {
		var weak []impl.Hurdle
		for _, h := range sidesThat(p, false) {
			side := linkOf(h)
			if _, same := ringsFrom(fence(p, side), side.from)[side.to]; !same {
				weak = append(weak, h)
			}
		}
		expect(t, "WeakSides", weak, 0)(impl.WeakSides(p))
	}
}

func TestJoinYards(t *testing.T) {
	expect(t, "a yard", []impl.Hurdle(nil), 0)(impl.JoinYards(examplePasture(t)))
	expect(t, "a row", []impl.Hurdle{eastOf(0, 0), eastOf(1, 0)}, 0)(impl.JoinYards(pastureOf(t, "1| 1| 1")))
	first := []impl.Hurdle{eastOf(0, 0), southOf(0, 0), southOf(1, 0)}
	expect(t, "all hurdles", first, 0)(impl.JoinYards(pastureOf(t, "1|_ 1_", "1| 1")))
	expect(t, "one of several", []impl.Hurdle{southOf(0, 0)}, 0)(impl.JoinYards(pastureOf(t, "1_ 1_ 1_", "1 1 1")))
	for _, p := range append(somePastures(), everyFence(3, 3)...) {
		var list []impl.Hurdle
		rest := p
		for _, h := range sidesThat(p, true) {
			side := linkOf(h)
			if _, same := ringsFrom(rest, side.from)[side.to]; !same {
				list = append(list, h)
				rest = unfence(rest, side)
			}
		}
		expect(t, "JoinYards", list, 0)(impl.JoinYards(p))
	}
}

// No fewer hurdles can be taken away: of all sets of them the first ones that leave one yard are as many.
func TestFewestJoints(t *testing.T) {
	for _, p := range everyFence(3, 2) {
		sets := subsets(sidesThat(p, true))
		i := slices.IndexFunc(sets, func(list []impl.Hurdle) bool {
			return len(reachedFrom(unfenceAll(p, list), []impl.Spot{spotAt(0, 0)})) == 6
		})
		list, code := impl.JoinYards(p)
		expect(t, "JoinYards", len(sets[i]), 0)(int64(len(list)), code)
	}
}

func TestSmallYardOfOneCell(t *testing.T) {
	for _, p := range somePastures() {
		for _, s := range cellsOf(p) {
			expect(t, "SmallYard", []impl.Spot{s}, len(openTo(p, s)), 0)(impl.SmallYard(p, s, 1))
		}
	}
}

// A yard of just as many cells is told as a whole, with no open sides; of a yard with fewer there are none.
func TestSmallYardOfWholeYards(t *testing.T) {
	for size := 1; size <= 8; size++ {
		p := fence(grassy(10, 1, func(x, y int) int { return 1 }), link{spotAt(size-1, 0), spotAt(size, 0)})
		for _, s := range cellsOf(p)[:size] {
			for want := int64(1); want <= 6; want++ {
				if want > int64(size) {
					expectCode(t, "fewer", impl.ErrNotFound)(impl.SmallYard(p, s, want))
				} else if want == int64(size) {
					expect(t, "as many", cellsOf(p)[:size], 0, 0)(impl.SmallYard(p, s, want))
				}
			}
		}
	}
}

func TestSmallYard(t *testing.T) {
	p, _ := impl.PlainPasture(10, 10, 1)
	corner := []impl.Spot{spotAt(0, 0), spotAt(1, 0), spotAt(0, 1), spotAt(1, 1), spotAt(0, 2), spotAt(1, 2)}
	expect(t, "corner", corner[:4], 4, 0)(impl.SmallYard(p, spotAt(1, 1), 4))
	long := []impl.Spot{spotAt(0, 0), spotAt(1, 0), spotAt(2, 0), spotAt(0, 1), spotAt(1, 1), spotAt(2, 1)}
	expect(t, "MaxYard", long, 5, 0)(impl.SmallYard(p, spotAt(0, 0), impl.MaxYard))
	// Cells around a hurdle are connected by ways within them, or not at all.
	bent := pastureOf(t, "1 1", "1| 1", "1| 1")
	expect(t, "around", wayOf(0, 0, 1, 0, 0, 1, 0, 2), 1, 0)(impl.SmallYard(bent, spotAt(0, 0), 4))
	expect(t, "not across", wayOf(0, 1, 0, 2), 1, 0)(impl.SmallYard(bent, spotAt(0, 1), 2))
	for i, p := range append(somePastures(), everyFence(3, 2)...) {
		cells := cellsOf(p)
		for j := i % 7; j < len(cells); j += 7 {
			size := 1 + (i+j)%6
			if len(reachedFrom(p, cells[j:j+1])) < size {
				expectCode(t, "SmallYard", impl.ErrNotFound)(impl.SmallYard(p, cells[j], int64(size)))
				continue
			}
			best, least := smallByHand(p, cells[j], size)
			expect(t, "SmallYard", best, least, 0)(impl.SmallYard(p, cells[j], int64(size)))
		}
	}
}
