package tests

import (
	"slices"
	"testing"

	"loop.example/g01345/impl"
)

// Of several fewest sets that is told for which the fewest cells are near the first ones.
func TestFewestCellsNearTheFirst(t *testing.T) {
	row := pastureOf(t, "1 1 1 1 1")
	west, east := []impl.Spot{spotAt(0, 0)}, []impl.Spot{spotAt(4, 0)}
	expect(t, "from the west", []impl.Hurdle{eastOf(0, 0)}, 0)(impl.PartCells(row, west, east))
	expect(t, "near the west", west, 0)(impl.NearSide(row, west, east))
	expect(t, "from the east", []impl.Hurdle{eastOf(3, 0)}, 0)(impl.PartCells(row, east, west))
	expect(t, "near the east", east, 0)(impl.NearSide(row, east, west))
	// Behind a room of four cells come two narrow places, of which the nearer one is told.
	rooms := pastureOf(t, "1 1 1 1 1", "1 1| 1_ 1|_ 1", "1 1_ 1_ 1_ 1_", "1 1 1 1 1")
	room := []impl.Spot{spotAt(1, 0), spotAt(0, 0), spotAt(0, 1), spotAt(1, 1), spotAt(0, 2), spotAt(1, 2), spotAt(0, 3)}
	far := []impl.Spot{spotAt(4, 3), spotAt(4, 0)}
	expect(t, "room", []impl.Hurdle{eastOf(1, 0), eastOf(1, 2), eastOf(0, 3)}, 0)(impl.PartCells(rooms, room, far))
	for _, v := range smallPartings() {
		part, near, sets := partByHand(v.p, v.a, v.b)
		if sets != 1 {
			t.Fatalf("%d sets part %v from %v in %q", sets, v.a, v.b, impl.PastureText(v.p))
		}
		expect(t, "PartCells", part, 0)(impl.PartCells(v.p, v.a, v.b))
		expect(t, "NearSide", near, 0)(impl.NearSide(v.p, v.a, v.b))
	}
}

// Nothing has to be done if a list has no cells; near those of a are their yards then.
func TestPartsWithoutCells(t *testing.T) {
	none := []impl.Spot{}
	for _, p := range somePastures() {
		for _, list := range [][]impl.Spot{cellsOf(p), cellsOf(p)[:1], cellsOf(p)[len(cellsOf(p))/2:], none} {
			expect(t, "PartCells", []impl.Hurdle(nil), 0)(impl.PartCells(p, list, nil))
			expect(t, "PartCells", []impl.Hurdle(nil), 0)(impl.PartCells(p, nil, list))
			expect(t, "NearSide", reachedFrom(p, list), 0)(impl.NearSide(p, list, nil))
			expect(t, "NearSide", none, 0)(impl.NearSide(p, none, list))
			expect(t, "CheckPart", true, 0)(impl.CheckPart(p, list, none, nil))
			expect(t, "CheckPart", true, 0)(impl.CheckPart(p, none, list, nil))
			expect(t, "WaysApart", [][]impl.Spot(nil), 0)(impl.WaysApart(p, list, nil))
			expect(t, "WaysApart", [][]impl.Spot(nil), 0)(impl.WaysApart(p, nil, list))
			expect(t, "CheckWays", true, 0)(impl.CheckWays(p, none, list, nil))
		}
	}
}

// Cells that hurdles part already need no more of them.
func TestPartsOfYards(t *testing.T) {
	p := pastureOf(t, "1| 1", "1| 1")
	a, b := []impl.Spot{spotAt(0, 0)}, []impl.Spot{spotAt(1, 0), spotAt(1, 1)}
	expect(t, "PartCells", []impl.Hurdle(nil), 0)(impl.PartCells(p, a, b))
	expect(t, "NearSide", []impl.Spot{spotAt(0, 0), spotAt(0, 1)}, 0)(impl.NearSide(p, a, b))
	expect(t, "WaysApart", [][]impl.Spot(nil), 0)(impl.WaysApart(p, a, b))
	expect(t, "CheckPart", true, 0)(impl.CheckPart(p, a, b, nil))
}

// A cell in both lists is refused behind cells that are none, and is never parted from itself.
func TestCellInBothLists(t *testing.T) {
	p := examplePasture(t)
	a, b := []impl.Spot{spotAt(0, 0), spotAt(1, 0)}, []impl.Spot{spotAt(2, 1), spotAt(1, 0)}
	for _, pair := range [][2][]impl.Spot{{a, b}, {b, a}, {a, a}, {cellsOf(p), a}} {
		expectCode(t, "PartCells", impl.ErrState)(impl.PartCells(p, pair[0], pair[1]))
		expectCode(t, "NearSide", impl.ErrState)(impl.NearSide(p, pair[0], pair[1]))
		expectCode(t, "WaysApart", impl.ErrState)(impl.WaysApart(p, pair[0], pair[1]))
		all := sidesThat(unfenceAll(p, sidesThat(p, true)), false)
		expect(t, "CheckPart", false, 0)(impl.CheckPart(p, pair[0], pair[1], all))
		for _, s := range badSpots {
			wrong := append(slices.Clone(pair[1]), s)
			expectCode(t, "PartCells", impl.ErrRange)(impl.PartCells(p, pair[0], wrong))
			expectCode(t, "NearSide", impl.ErrRange)(impl.NearSide(p, wrong, pair[0]))
			expectCode(t, "WaysApart", impl.ErrRange)(impl.WaysApart(p, pair[0], wrong))
			expectCode(t, "CheckPart", impl.ErrRange)(impl.CheckPart(p, wrong, pair[0], nil))
			expectCode(t, "CheckWays", impl.ErrRange)(impl.CheckWays(p, pair[0], wrong, nil))
		}
	}
}

func TestCheckPart(t *testing.T) {
	p := pastureOf(t, "1 1 1")
	west, east := []impl.Spot{spotAt(0, 0)}, []impl.Spot{spotAt(2, 0)}
	expect(t, "no hurdle", false, 0)(impl.CheckPart(p, west, east, nil))
	expect(t, "a hurdle", true, 0)(impl.CheckPart(p, west, east, []impl.Hurdle{eastOf(1, 0)}))
	expect(t, "not between", false, 0)(impl.CheckPart(p, west, cellsOf(p)[1:], []impl.Hurdle{eastOf(1, 0)}))
	for _, v := range smallPartings() {
		for i, list := range subsets(sidesThat(v.p, false)) {
			if i%11 != 0 {
				continue
			}
			list = append(list, sidesThat(v.p, true)...)
			parted := !shareCells(reachedFrom(fenceAll(v.p, list), v.a), v.b)
			expect(t, "CheckPart", parted, 0)(impl.CheckPart(v.p, v.a, v.b, list))
		}
	}
}

func TestWaysApart(t *testing.T) {
	for _, v := range smallPartings() {
		expect(t, "WaysApart", waysByHand(v.p, v.a, v.b), 0)(impl.WaysApart(v.p, v.a, v.b))
	}
	// The way that comes first begins with the first cell, not with the cell that was told first.
	p := pastureOf(t, "1 1 1", "1 1 1")
	a, b := []impl.Spot{spotAt(2, 1), spotAt(0, 1), spotAt(0, 0)}, []impl.Spot{spotAt(1, 1), spotAt(1, 0)}
	want := [][]impl.Spot{
		{spotAt(0, 0), spotAt(1, 0)},
		{spotAt(0, 1), spotAt(1, 1)},
		{spotAt(2, 1), spotAt(1, 1)},
		{spotAt(2, 1), spotAt(2, 0), spotAt(1, 0)},
	}
	expect(t, "WaysApart", want, 0)(impl.WaysApart(p, a, b))
}

// Each way is as short as any that is left, and behind the last one there is none.
func TestLongWaysApart(t *testing.T) {
	for _, v := range somePartings() {
		ways, code := impl.WaysApart(v.p, v.a, v.b)
		expect(t, "WaysApart", int64(impl.OK))(code)
		p := v.p
		for _, way := range ways {
			least := 1000
			for _, from := range v.a {
				steps := ringsFrom(p, from)
				for _, to := range v.b {
					if far, found := steps[to]; found {
						least = min(least, far)
					}
				}
			}
			expect(t, "steps", least)(int64(len(way) - 1))
			p = fenceWay(p, way)
		}
		expect(t, "more ways", false)(shareCells(reachedFrom(p, v.a), v.b))
	}
}

// A shortest way that is taken first can be in the way of two others: three ways may be apart, and fewer be told.
func TestMoreWaysThanTold(t *testing.T) {
	fewer := 0
	for _, v := range somePartings() {
		told, _ := impl.WaysApart(v.p, v.a, v.b)
		most, _ := mostWays(v.p, v.a, v.b)
		if len(told) < len(most) {
			fewer++
		}
		expect(t, "no more", true)(len(told) <= len(most))
	}
	expect(t, "fewer", true)(fewer > 0)
}

func wayOf(list ...int) []impl.Spot {
	var way []impl.Spot
	for i := 0; i < len(list); i += 2 {
		way = append(way, spotAt(list[i], list[i+1]))
	}
	return way
}

func TestCheckWays(t *testing.T) {
	p := pastureOf(t, "1 1| 1", "1 1 1")
	a, b := wayOf(0, 0, 1, 0, 0, 0), wayOf(2, 1, 1, 0, 1, 1)
	cases := []struct {
		name string
		ways [][]impl.Spot
		want bool
	}{
		{"no ways", nil, true},
		{"a way", [][]impl.Spot{wayOf(0, 0, 0, 1, 1, 1, 2, 1)}, true},
		{"a way through a cell of b", [][]impl.Spot{wayOf(0, 0, 1, 0, 1, 1, 2, 1)}, true},
		{"two ways", [][]impl.Spot{wayOf(0, 0, 1, 0), wayOf(1, 0, 1, 1)}, true},
		{"two ways through a cell", [][]impl.Spot{wayOf(0, 0, 0, 1, 1, 1), wayOf(1, 0, 1, 1, 2, 1)}, true},
		{"a way through a cell twice", [][]impl.Spot{wayOf(1, 0, 0, 0, 0, 1, 1, 1, 1, 0)}, true},
		{"a single cell of both", [][]impl.Spot{wayOf(1, 0)}, true},
		{"a single cell of both twice", [][]impl.Spot{wayOf(1, 0), wayOf(1, 0)}, true},
		{"a single cell of a", [][]impl.Spot{wayOf(0, 0)}, false},
		{"a single cell of b", [][]impl.Spot{wayOf(2, 1)}, false},
		{"a single cell of none", [][]impl.Spot{wayOf(0, 1)}, false},
		{"not from a", [][]impl.Spot{wayOf(0, 1, 1, 1)}, false},
		{"not to b", [][]impl.Spot{wayOf(0, 0, 0, 1)}, false},
		{"backward", [][]impl.Spot{wayOf(2, 1, 1, 1, 0, 1, 0, 0)}, false},
		{"over a hurdle", [][]impl.Spot{wayOf(1, 0, 2, 0, 2, 1)}, false},
		{"over a corner", [][]impl.Spot{wayOf(0, 0, 1, 1)}, false},
		{"over two cells", [][]impl.Spot{wayOf(0, 0, 0, 1, 2, 1)}, false},
		{"without a step", [][]impl.Spot{wayOf(1, 0, 1, 0)}, false},
		{"there and back", [][]impl.Spot{wayOf(1, 0, 0, 0, 1, 0)}, false},
		{"a side twice in a direction", [][]impl.Spot{wayOf(1, 0, 0, 0, 0, 1, 1, 1, 1, 0, 0, 0, 1, 0)}, false},
		{"a side in two ways", [][]impl.Spot{wayOf(0, 0, 1, 0), wayOf(0, 0, 1, 0, 1, 1)}, false},
		{"a side in two ways, south", [][]impl.Spot{wayOf(1, 0, 1, 1), wayOf(0, 0, 1, 0, 1, 1)}, false},
		{"a side in two directions", [][]impl.Spot{wayOf(0, 0, 1, 0), wayOf(1, 0, 0, 0, 0, 1, 1, 1)}, false},
		{"the last way is none", [][]impl.Spot{wayOf(0, 0, 1, 0), wayOf(1, 0, 1, 1), wayOf(0, 0)}, false},
	}
	for _, c := range cases {
		expect(t, c.name, c.want, 0)(impl.CheckWays(p, a, b, c.ways))
	}
	expect(t, "no cells", false, 0)(impl.CheckWays(p, nil, nil, [][]impl.Spot{wayOf(0, 0)}))
}

// Ways without cells, and with cells that are none, are refused also behind ways that are none.
func TestRangeOfWays(t *testing.T) {
	p := examplePasture(t)
	a, b := wayOf(0, 0), wayOf(1, 0)
	bad := wayOf(2, 1)
	expectCode(t, "no cells", impl.ErrRange)(impl.CheckWays(p, a, b, [][]impl.Spot{bad, {}}))
	expectCode(t, "no cells", impl.ErrRange)(impl.CheckWays(p, nil, nil, [][]impl.Spot{nil}))
	for _, s := range badSpots {
		for _, way := range [][]impl.Spot{{s}, {a[0], s}, {s, b[0]}, {a[0], s, b[0]}} {
			expectCode(t, "no cell", impl.ErrRange)(impl.CheckWays(p, a, b, [][]impl.Spot{way}))
			expectCode(t, "no cell", impl.ErrRange)(impl.CheckWays(p, a, b, [][]impl.Spot{bad, way, bad}))
		}
	}
}
