package tests

import (
	"math"
	"math/rand"
	"slices"
	"strconv"
	"strings"
	"testing"

	"loop.example/g01345/impl"
)

// fenceArguments are those of all functions of chapter 3.
type fenceArguments struct {
	p    impl.Pasture
	h    impl.Hurdle
	list []impl.Hurdle
	s, t impl.Spot
	a, b []impl.Spot
	ways [][]impl.Spot
	size int64
	text string
}

// callFences calls each function of chapter 3.
func callFences(v fenceArguments) map[string][]any {
	return map[string][]any{
		"ValidHurdle":  results(impl.ValidHurdle(v.p, v.h)),
		"HurdlesOf":    results(impl.HurdlesOf(v.p)),
		"AddHurdles":   results(impl.AddHurdles(v.p, v.list)),
		"TakeHurdles":  results(impl.TakeHurdles(v.p, v.list)),
		"OpenSides":    results(impl.OpenSides(v.p, v.a)),
		"PartCells":    results(impl.PartCells(v.p, v.a, v.b)),
		"CheckPart":    results(impl.CheckPart(v.p, v.a, v.b, v.list)),
		"NearSide":     results(impl.NearSide(v.p, v.a, v.b)),
		"WaysApart":    results(impl.WaysApart(v.p, v.a, v.b)),
		"CheckWays":    results(impl.CheckWays(v.p, v.a, v.b, v.ways)),
		"BestGate":     results(impl.BestGate(v.p, v.s, v.t)),
		"GatesNeeded":  results(impl.GatesNeeded(v.p, v.s, v.t)),
		"WeakSides":    results(impl.WeakSides(v.p)),
		"SmallYard":    results(impl.SmallYard(v.p, v.s, v.size)),
		"EncloseCells": results(impl.EncloseCells(v.p, v.a)),
		"JoinYards":    results(impl.JoinYards(v.p)),
		"FenceText":    results(impl.FenceText(v.list)),
		"ReadFence":    results(impl.ReadFence(v.text)),
	}
}

func TestAllFenceFunctionsAreCalled(t *testing.T) {
	wantAllCalled(t, "l03_fences.go", callFences(fenceArguments{}))
}

// someFenceArguments returns ordinary and invalid arguments, and the extremes of each.
func someFenceArguments() []fenceArguments {
	r := rand.New(rand.NewSource(33))
	sizes := []int64{1, 2, 3, 4, 5, 6, 0, 7, -1, 256 + 2, 1<<32 + 1, math.MinInt64, math.MaxInt64}
	texts := []string{"", " ", "0,0| 0,0_", "9,9_", "x", "0,0|\n", "\xff", strings.Repeat("9", 5000)}
	partings := somePartings()
	for _, p := range invalidPastures() {
		partings = append(partings, parting{p, cellsOf(p)[:min(1, len(cellsOf(p)))], []impl.Spot{spotAt(1, 0)}})
	}
	for range 50 {
		wild := parting{p: wildPasture(r), a: []impl.Spot{wildSpot(r)}, b: []impl.Spot{wildSpot(r), wildSpot(r)}}
		partings = append(partings, wild, parting{partings[r.Intn(len(partings))].p, wild.a, wild.b})
	}
	var list []fenceArguments
	for i, c := range partings {
		v := fenceArguments{p: c.p, a: c.a, b: c.b, size: sizes[i%len(sizes)], text: texts[i%len(texts)]}
		v.s, v.t = spotAt(r.Intn(10), r.Intn(10)), spotAt(r.Intn(4), r.Intn(4))
		for range r.Intn(6) {
			v.h = impl.Hurdle{At: spotAt(r.Intn(10), r.Intn(3)), South: r.Intn(2) == 0}
			v.list = append(v.list, v.h)
		}
		if i%9 == 0 {
			v.s, v.h.At = wildSpot(r), wildSpot(r)
			v.list = append(v.list, v.h)
		}
		if impl.ValidPasture(c.p) {
			v.ways, _ = mostWays(c.p, c.a, c.b)
		}
		if i%7 == 0 {
			v.ways = append(v.ways, []impl.Spot{v.s, v.t}, nil)
		}
		list = append(list, v)
	}
	return list
}

func wildSpot(r *rand.Rand) impl.Spot { return spotAt(r.Intn(256), r.Intn(256)) }

// P1: every function returns, and returns equal results for equal arguments, also behind changes of its first ones.
func TestEqualResultsOfFences(t *testing.T) {
	for i, v := range someFenceArguments() {
		wantEqualResults(t, "arguments "+strconv.Itoa(i), func() map[string][]any { return callFences(v) })
	}
}

// roomFor returns a copy of a list with unused capacity, and a check that nothing of it has changed.
func roomFor[T comparable](t *testing.T, list []T, other T) (copied []T, check func(name string)) {
	room := make([]T, len(list)+5)
	for i := range room {
		room[i] = other
	}
	copy(room, list)
	before := slices.Clone(room)
	return room[:len(list)], func(name string) {
		t.Helper()
		if !slices.Equal(room, before) {
			t.Fatalf("%s: list changed from %v to %v", name, before, room)
		}
	}
}

// P1: no argument is modified, its unused capacity included, and no result shares memory with one.
func TestUnchangedFences(t *testing.T) {
	for i, v := range someFenceArguments() {
		var checks []func(string)
		keep := func(list []impl.Spot) []impl.Spot {
			copied, check := roomFor(t, list, spotAt(-5, 5))
			checks = append(checks, check)
			return copied
		}
		list, check := roomFor(t, v.list, eastOf(-5, 5))
		checks = append(checks, check)
		v.list, v.a, v.b = list, keep(v.a), keep(v.b)
		ways := make([][]impl.Spot, 0, len(v.ways)+5)
		for _, way := range v.ways {
			ways = append(ways, keep(way))
		}
		v.ways = ways
		scribbleAll(callFences(v))
		for _, check := range checks {
			check("arguments " + strconv.Itoa(i))
		}
		for _, way := range ways[len(ways):cap(ways)] {
			expect(t, "capacity", true)(way == nil)
		}
	}
}

// P1: nil and empty lists are equivalent.
func TestNilAndEmptyFences(t *testing.T) {
	for _, v := range someFenceArguments() {
		empty := v
		v.list, v.a, v.b, v.ways = nil, nil, nil, nil
		empty.list, empty.a, empty.b, empty.ways = []impl.Hurdle{}, []impl.Spot{}, []impl.Spot{}, [][]impl.Spot{}
		first, second := callFences(v), callFences(empty)
		for name, list := range first {
			expect(t, name, list...)(second[name]...)
		}
	}
}

func TestManyCellsAndHurdles(t *testing.T) {
	p, _ := impl.PlainPasture(10, 10, 1)
	a, b := slices.Repeat(wayOf(0, 0), 500000), slices.Repeat(wayOf(9, 9), 500000)
	part := []impl.Hurdle{eastOf(0, 0), southOf(0, 0)}
	expect(t, "PartCells", part, 0)(impl.PartCells(p, a, b))
	expect(t, "NearSide", wayOf(0, 0), 0)(impl.NearSide(p, a, b))
	expect(t, "OpenSides", part, 0)(impl.OpenSides(p, a))
	expect(t, "EncloseCells", fenceAll(p, part), 2, 0)(impl.EncloseCells(p, a))
	ways, code := impl.WaysApart(p, a, b)
	expect(t, "WaysApart", 2, 0)(int64(len(ways)), code)
	list := slices.Repeat(part, 500000)
	expect(t, "AddHurdles", fenceAll(p, part), 0)(impl.AddHurdles(p, list))
	expect(t, "TakeHurdles", p, 0)(impl.TakeHurdles(p, list))
	expect(t, "CheckPart", true, 0)(impl.CheckPart(p, a[:1], b[:1], list))
	expect(t, "FenceText", "")(impl.FenceText(list))
	list[len(list)-1] = southOf(0, 9)
	expectCode(t, "AddHurdles", impl.ErrRange)(impl.AddHurdles(p, list))
	single := slices.Repeat([][]impl.Spot{wayOf(0, 0)}, 500000)
	expect(t, "CheckWays", true, 0)(impl.CheckWays(p, a[:1], a[:1], single))
	long := [][]impl.Spot{slices.Repeat(wayOf(0, 0, 1, 0), 250000)}
	expect(t, "CheckWays", false, 0)(impl.CheckWays(p, a[:1], wayOf(1, 0), long))
	for _, part := range []string{"0", " ", ",", "|", "0,0| ", "0,0|", "\n", "-"} {
		expectCode(t, part, impl.ErrSyntax)(impl.ReadFence(strings.Repeat(part, 1000000/len(part))))
	}
}

// Errors are told in their order: a pasture first, whatever else is wrong.
func TestInvalidPasturesOfFencesComeFirst(t *testing.T) {
	bare := []string{"ValidHurdle", "FenceText", "ReadFence"}
	for name, p := range invalidPastures() {
		for _, s := range append(badSpots, spotAt(0, 0)) {
			for _, size := range []int64{0, 1, 6, 7, -1} {
				h := impl.Hurdle{At: s, South: size%2 == 0}
				v := fenceArguments{p: p, h: h, list: []impl.Hurdle{h}, s: s, t: s, size: size}
				v.a, v.b, v.ways = []impl.Spot{s}, []impl.Spot{s}, [][]impl.Spot{{s}, nil}
				for function, list := range callFences(v) {
					if !slices.Contains(bare, function) {
						expectCode(t, function+" of "+name, impl.ErrInvalid)(list...)
					}
				}
			}
		}
	}
}

// Behind a pasture come cells, and behind these what is told of a function alone.
func TestRangeOfCellsOfFences(t *testing.T) {
	p := examplePasture(t)
	here := spotAt(0, 0)
	for _, s := range badSpots {
		for _, size := range []int64{1, 6, 7, 0, -1, math.MinInt64, math.MaxInt64} {
			expectCode(t, "SmallYard", impl.ErrRange)(impl.SmallYard(p, s, size))
		}
		for _, pair := range []link{{s, here}, {here, s}, {s, s}} {
			expectCode(t, "BestGate", impl.ErrRange)(impl.BestGate(p, pair.from, pair.to))
			expectCode(t, "GatesNeeded", impl.ErrRange)(impl.GatesNeeded(p, pair.from, pair.to))
		}
		for _, list := range [][]impl.Spot{{s}, {here, s}, {s, here}, {here, here, s}} {
			expectCode(t, "OpenSides", impl.ErrRange)(impl.OpenSides(p, list))
			expectCode(t, "EncloseCells", impl.ErrRange)(impl.EncloseCells(p, list))
			expectCode(t, "PartCells", impl.ErrRange)(impl.PartCells(p, list, nil))
			expectCode(t, "PartCells", impl.ErrRange)(impl.PartCells(p, nil, list))
			expectCode(t, "NearSide", impl.ErrRange)(impl.NearSide(p, list, list))
			expectCode(t, "WaysApart", impl.ErrRange)(impl.WaysApart(p, nil, list))
			expectCode(t, "CheckPart", impl.ErrRange)(impl.CheckPart(p, nil, list, nil))
			expectCode(t, "CheckWays", impl.ErrRange)(impl.CheckWays(p, list, nil, nil))
		}
	}
}

// The size comes first, and then how many cells the yard has.
func TestOrderOfErrorsOfSmallYards(t *testing.T) {
	shut := pastureOf(t, "1| 1 1")
	for _, size := range []int64{0, 7, -1, 8, 256 + 1, 1<<32 + 1, math.MinInt64, math.MaxInt64} {
		expectCode(t, "SmallYard", impl.ErrLimit)(impl.SmallYard(shut, spotAt(0, 0), size))
		expectCode(t, "SmallYard", impl.ErrLimit)(impl.SmallYard(shut, spotAt(2, 0), size))
	}
	for size := int64(2); size <= 6; size++ {
		expectCode(t, "SmallYard", impl.ErrNotFound)(impl.SmallYard(shut, spotAt(0, 0), size))
	}
	expect(t, "SmallYard", wayOf(1, 0, 2, 0), 0, 0)(impl.SmallYard(shut, spotAt(2, 0), 2))
	expectCode(t, "SmallYard", impl.ErrNotFound)(impl.SmallYard(shut, spotAt(2, 0), 3))
}

// P6: hurdles that part cells do, and there are no fewer than ways that share no side: as many ways are found.
func TestHurdlesThatPartDo(t *testing.T) {
	for _, v := range somePartings() {
		part, code := impl.PartCells(v.p, v.a, v.b)
		fenced := fenceAll(v.p, part)
		expect(t, "parted", false, 0)(shareCells(reachedFrom(fenced, v.a), v.b), code)
		expect(t, "CheckPart", true, 0)(impl.CheckPart(v.p, v.a, v.b, part))
		ways, near := mostWays(v.p, v.a, v.b)
		expect(t, "hurdles", len(ways))(int64(len(part)))
		expect(t, "CheckWays", true, 0)(impl.CheckWays(v.p, v.a, v.b, ways))
		expect(t, "NearSide", near, 0)(impl.NearSide(v.p, v.a, v.b))
		expect(t, "near", reachedFrom(fenced, v.a))(near)
		expect(t, "on the open sides", openByHand(v.p, near))(part)
		told, _ := impl.WaysApart(v.p, v.a, v.b)
		expect(t, "CheckWays", true, 0)(impl.CheckWays(v.p, v.a, v.b, told))
		expect(t, "fewer hurdles than ways", false)(len(part) < len(told))
	}
}

// P6: with one hurdle less the cells are not parted.
func TestNoHurdleIsIdle(t *testing.T) {
	for _, v := range somePartings() {
		part, _ := impl.PartCells(v.p, v.a, v.b)
		for i := range part {
			rest := slices.Delete(slices.Clone(part), i, i+1)
			expect(t, "CheckPart", false, 0)(impl.CheckPart(v.p, v.a, v.b, rest))
			expect(t, "parted", true)(shareCells(reachedFrom(fenceAll(v.p, rest), v.a), v.b))
		}
	}
}

// P7: when yards are joined there is one; with one hurdle more there is not.
func TestJoinedYardsAreOne(t *testing.T) {
	for _, p := range append(somePastures(), everyFence(3, 3)...) {
		list, code := impl.JoinYards(p)
		joined := unfenceAll(p, list)
		expect(t, "JoinYards", int64(impl.OK))(code)
		expect(t, "TakeHurdles", joined, 0)(impl.TakeHurdles(p, list))
		expect(t, "yards", [][]impl.Spot{cellsOf(p)}, 0)(impl.YardsOf(joined))
		for _, h := range list {
			one := []impl.Spot{spotAt(0, 0)}
			expect(t, "stands", true)(isFenced(p, linkOf(h).from, linkOf(h).to))
			expect(t, "one more", true)(len(reachedFrom(fence(joined, linkOf(h)), one)) < len(cellsOf(p)))
		}
	}
}

// P8: cells with the fewest open sides are a yard, once enclosed.
func TestSmallYardsAreYards(t *testing.T) {
	for i, p := range append(somePastures(), everyFence(3, 2)...) {
		for j, s := range cellsOf(p) {
			size := 1 + (i+j)%6
			cells, open, code := impl.SmallYard(p, s, int64(size))
			if code != impl.OK {
				continue
			}
			shut, count, code := impl.EncloseCells(p, cells)
			expect(t, "EncloseCells", fenceAll(p, openByHand(p, cells)), open, 0)(shut, count, code)
			expect(t, "YardOf", cells, 0)(impl.YardOf(shut, s))
			expect(t, "cells", size, true)(int64(len(cells)), slices.Contains(cells, s))
		}
	}
}
