package tests

import (
	"math"
	"math/rand"
	"reflect"
	"slices"
	"strconv"
	"strings"
	"testing"

	"loop.example/g01345/impl"
)

// arguments are those of all functions of chapter 1.
type arguments struct {
	p, q   impl.Pasture
	a, b   impl.Spot
	list   []impl.Spot
	number int64
	wide   int64
	high   int64
	on     bool
	text   string
}

func results(list ...any) []any { return list }

// callAll calls each function of chapter 1.
func callAll(v arguments) map[string][]any {
	return map[string][]any{
		"CodeName":      results(impl.CodeName(v.number)),
		"ValidPasture":  results(impl.ValidPasture(v.p)),
		"SamePasture":   results(impl.SamePasture(v.p, v.q)),
		"PlainPasture":  results(impl.PlainPasture(v.wide, v.high, v.number)),
		"GrassAt":       results(impl.GrassAt(v.p, v.a)),
		"WithGrass":     results(impl.WithGrass(v.p, v.a, v.number)),
		"HasHurdle":     results(impl.HasHurdle(v.p, v.a, v.number)),
		"SetHurdle":     results(impl.SetHurdle(v.p, v.a, v.number, v.on)),
		"CountHurdles":  results(impl.CountHurdles(v.p)),
		"BesideOf":      results(impl.BesideOf(v.p, v.a)),
		"YardOf":        results(impl.YardOf(v.p, v.a)),
		"YardsOf":       results(impl.YardsOf(v.p)),
		"SameYard":      results(impl.SameYard(v.p, v.a, v.b)),
		"GrassIn":       results(impl.GrassIn(v.p)),
		"GrassOf":       results(impl.GrassOf(v.p, v.list)),
		"SidesOf":       results(impl.SidesOf(v.p, v.list)),
		"StepsBetween":  results(impl.StepsBetween(v.p, v.a, v.b)),
		"WayBetween":    results(impl.WayBetween(v.p, v.a, v.b)),
		"IdleHurdles":   results(impl.IdleHurdles(v.p)),
		"DropIdle":      results(impl.DropIdle(v.p)),
		"MirrorPasture": results(impl.MirrorPasture(v.p)),
		"TurnPasture":   results(impl.TurnPasture(v.p)),
		"PastureText":   results(impl.PastureText(v.p)),
		"ReadPasture":   results(impl.ReadPasture(v.text)),
	}
}

func TestAllFunctionsAreCalled(t *testing.T) {
	wantAllCalled(t, "l01_pastures.go", callAll(arguments{}))
}

// someArguments returns ordinary and invalid arguments, and the extremes of each.
func someArguments() []arguments {
	r := rand.New(rand.NewSource(5))
	pastures := somePastures()
	for _, p := range invalidPastures() {
		pastures = append(pastures, p)
	}
	for range 50 {
		pastures = append(pastures, wildPasture(r))
	}
	spots := []impl.Spot{{}, {X: 9, Y: 9}, {X: -1}, {Y: -1}, {X: 10}, {Y: 10}, {X: -128, Y: 127}, {X: 127, Y: -128}}
	numbers := []int64{0, 1, 2, 3, 4, -1, 10, 11, 1000, 1001, 1 << 32, math.MinInt64, math.MaxInt64}
	texts := []string{"", "\n", "5 2|_ 1\n3 4 0\n", "5|\n", "x", "5 5\n5", "\xff\n", strings.Repeat("9", 5000)}
	var list []arguments
	for i, p := range pastures {
		pick := func() impl.Spot {
			if n := r.Intn(20); n < len(spots) {
				return spots[n]
			}
			return spotAt(r.Intn(10), r.Intn(10))
		}
		v := arguments{p: p, q: pastures[r.Intn(len(pastures))], a: pick(), b: pick(), on: r.Intn(2) == 0}
		v.number, v.wide, v.high = numbers[i%len(numbers)], numbers[r.Intn(len(numbers))], numbers[r.Intn(len(numbers))]
		v.text = texts[i%len(texts)]
		for range r.Intn(8) {
			v.list = append(v.list, pick())
		}
		list = append(list, v)
	}
	return list
}

func wildPasture(r *rand.Rand) impl.Pasture {
	p := impl.Pasture{Wide: int8(r.Intn(256)), High: int8(r.Intn(256))}
	for y := range impl.Most {
		p.East[y], p.South[y] = uint16(r.Intn(1<<16)), uint16(r.Intn(1<<16))
		for x := range impl.Most {
			p.Grass[y][x] = int16(r.Intn(1 << 16))
		}
	}
	return p
}

// P1: every function returns, and returns equal results for equal arguments, also behind changes of its first ones.
func TestEqualResults(t *testing.T) {
	for i, v := range someArguments() {
		wantEqualResults(t, "arguments "+strconv.Itoa(i), func() map[string][]any { return callAll(v) })
	}
}

// P1: no argument is modified, its unused capacity included.
func TestUnchangedArguments(t *testing.T) {
	for i, v := range someArguments() {
		room := make([]impl.Spot, len(v.list)+5)
		for j := range room {
			room[j] = spotAt(-j, j)
		}
		copy(room, v.list)
		before := slices.Clone(room)
		v.list = room[:len(v.list)]
		callAll(v)
		if !slices.Equal(room, before) {
			t.Fatalf("arguments %d: list changed from %v to %v", i, before, room)
		}
	}
}

// P1: nil and empty lists are equivalent.
func TestNilAndEmptyLists(t *testing.T) {
	for _, v := range someArguments() {
		empty := v
		v.list, empty.list = nil, []impl.Spot{}
		if !reflect.DeepEqual(callAll(v), callAll(empty)) {
			t.Fatal("results of nil and empty lists differ")
		}
	}
}

func TestResultsShareNoMemory(t *testing.T) {
	for _, p := range somePastures() {
		yards, _ := impl.YardsOf(p)
		want := yardsByHand(p)
		for i, yard := range yards {
			if !slices.Equal(yard, want[i]) {
				t.Fatalf("yard %d of %q is %v, want %v", i, impl.PastureText(p), yard, want[i])
			}
			scribble(yard)
		}
	}
}

func TestManyElements(t *testing.T) {
	p := examplePasture(t)
	list := make([]impl.Spot, 1000000)
	expect(t, "GrassOf", 5000000, 0)(impl.GrassOf(p, list))
	expect(t, "SidesOf", 2, 0)(impl.SidesOf(p, list))
	list[len(list)-1] = spotAt(3, 0)
	expectCode(t, "GrassOf", impl.ErrRange)(impl.GrassOf(p, list))
	expectCode(t, "SidesOf", impl.ErrRange)(impl.SidesOf(p, list))
	for _, part := range []string{"0", " ", "\n", "|", "_", "0 ", "0\n", "0 0\n", "-"} {
		text := strings.Repeat(part, 1000000/len(part))
		expectCode(t, strconv.Quote(part), impl.ErrSyntax)(impl.ReadPasture(text))
	}
}

// badSpots are cells of no example pasture.
var badSpots = []impl.Spot{{X: -1}, {Y: -1}, {X: 3}, {Y: 2}, {X: 2, Y: 2}, {X: 127, Y: 127}, {X: -128, Y: -128}, {X: 9, Y: 9}}

// Errors are told in their order: a pasture first, whatever else is wrong.
func TestInvalidComesFirst(t *testing.T) {
	bare := []string{"CodeName", "ValidPasture", "SamePasture", "PlainPasture", "PastureText", "ReadPasture"}
	for name, p := range invalidPastures() {
		for _, s := range append(badSpots, spotAt(0, 0)) {
			for _, number := range []int64{0, -1, 4, 1001} {
				v := arguments{p: p, a: s, b: s, list: []impl.Spot{s}, number: number}
				for function, list := range callAll(v) {
					if !slices.Contains(bare, function) {
						expectCode(t, function+" of "+name, impl.ErrInvalid)(list...)
					}
				}
			}
		}
	}
}

func TestRangeOfSpots(t *testing.T) {
	p := examplePasture(t)
	here := spotAt(0, 0)
	for _, s := range badSpots {
		for _, number := range []int64{impl.SiNorth, impl.SiEast, -1, 4, 1001} {
			expectCode(t, "WithGrass", impl.ErrRange)(impl.WithGrass(p, s, number))
			expectCode(t, "HasHurdle", impl.ErrRange)(impl.HasHurdle(p, s, number))
			expectCode(t, "SetHurdle", impl.ErrRange)(impl.SetHurdle(p, s, number, true))
		}
		expectCode(t, "GrassAt", impl.ErrRange)(impl.GrassAt(p, s))
		expectCode(t, "BesideOf", impl.ErrRange)(impl.BesideOf(p, s))
		expectCode(t, "YardOf", impl.ErrRange)(impl.YardOf(p, s))
		for _, pair := range []link{{s, here}, {here, s}, {s, s}} {
			expectCode(t, "SameYard", impl.ErrRange)(impl.SameYard(p, pair.from, pair.to))
			expectCode(t, "StepsBetween", impl.ErrRange)(impl.StepsBetween(p, pair.from, pair.to))
			expectCode(t, "WayBetween", impl.ErrRange)(impl.WayBetween(p, pair.from, pair.to))
		}
		for _, list := range [][]impl.Spot{{s}, {here, s}, {s, here}, {here, here, s}} {
			expectCode(t, "GrassOf", impl.ErrRange)(impl.GrassOf(p, list))
			expectCode(t, "SidesOf", impl.ErrRange)(impl.SidesOf(p, list))
		}
	}
}

// ErrNotFound comes behind ErrRange, also where one cell is shut in.
func TestRangeComesBeforeNotFound(t *testing.T) {
	shut := pastureOf(t, "1| 1")
	expectCode(t, "StepsBetween", impl.ErrNotFound)(impl.StepsBetween(shut, spotAt(0, 0), spotAt(1, 0)))
	expectCode(t, "WayBetween", impl.ErrNotFound)(impl.WayBetween(shut, spotAt(1, 0), spotAt(0, 0)))
	expectCode(t, "StepsBetween", impl.ErrRange)(impl.StepsBetween(shut, spotAt(0, 0), spotAt(2, 0)))
	expectCode(t, "WayBetween", impl.ErrRange)(impl.WayBetween(shut, spotAt(0, 1), spotAt(0, 0)))
	expect(t, "SameYard", false, 0)(impl.SameYard(shut, spotAt(0, 0), spotAt(1, 0)))
}

// There are four sides; ErrState comes behind ErrRange, at walls too.
func TestRangeOfNumbers(t *testing.T) {
	p := examplePasture(t)
	for _, s := range cellsOf(p) {
		for _, side := range []int64{-1, 4, 5, 256, 1 << 32, math.MinInt64, math.MaxInt64} {
			expectCode(t, "HasHurdle", impl.ErrRange)(impl.HasHurdle(p, s, side))
			expectCode(t, "SetHurdle", impl.ErrRange)(impl.SetHurdle(p, s, side, true))
			expectCode(t, "SetHurdle", impl.ErrRange)(impl.SetHurdle(p, s, side, false))
		}
		for _, grass := range []int64{-1, 1001, 65536, 1<<32 + 5, math.MinInt64, math.MaxInt64} {
			expectCode(t, "WithGrass", impl.ErrRange)(impl.WithGrass(p, s, grass))
		}
	}
}

// P2: mirrored twice, or turned four times, a pasture is as it was.
func TestMirroredTwiceTurnedFourTimes(t *testing.T) {
	for _, p := range append(somePastures(), everyFence(3, 3)...) {
		expect(t, "mirrored twice", p)(repeated(t, p, 2, impl.MirrorPasture))
		expect(t, "turned four times", p)(repeated(t, p, 4, impl.TurnPasture))
	}
}

func repeated(t *testing.T, p impl.Pasture, times int, f func(impl.Pasture) (impl.Pasture, int64)) impl.Pasture {
	t.Helper()
	for range times {
		var code int64
		p, code = f(p)
		if code != impl.OK || !impl.ValidPasture(p) {
			t.Fatalf("code %d, pasture %v", code, p)
		}
	}
	return p
}

// moved builds by hand the pasture whose cells and hurdles are those of p in other places.
func moved(p impl.Pasture, wide, high int8, place func(impl.Spot) impl.Spot) impl.Pasture {
	q := impl.Pasture{Wide: wide, High: high}
	for _, s := range cellsOf(p) {
		to := place(s)
		q.Grass[to.Y][to.X] = p.Grass[s.Y][s.X]
	}
	for _, side := range sidesIn(p) {
		if !isFenced(p, side.from, side.to) {
			continue
		}
		a, b := place(side.from), place(side.to)
		if compareSpots(b, a) < 0 {
			a, b = b, a
		}
		q = fence(q, link{a, b})
	}
	return q
}

func TestMirrorAndTurn(t *testing.T) {
	for _, p := range append(somePastures(), everyFence(3, 3)...) {
		mirror := moved(p, p.Wide, p.High, func(s impl.Spot) impl.Spot { return impl.Spot{X: p.Wide - 1 - s.X, Y: s.Y} })
		expect(t, "MirrorPasture", mirror, 0)(impl.MirrorPasture(p))
		turn := moved(p, p.High, p.Wide, func(s impl.Spot) impl.Spot { return impl.Spot{X: p.High - 1 - s.Y, Y: s.X} })
		expect(t, "TurnPasture", turn, 0)(impl.TurnPasture(p))
	}
}

// P3: yards have all cells, each one once.
func TestYardsHaveAllCellsOnce(t *testing.T) {
	for _, p := range append(somePastures(), everyFence(3, 3)...) {
		yards, code := impl.YardsOf(p)
		expect(t, "YardsOf", int64(impl.OK))(code)
		all := slices.Concat(yards...)
		for _, yard := range yards {
			if len(yard) == 0 || !slices.IsSortedFunc(yard, compareSpots) {
				t.Errorf("yard %v is not ordered, or has no cell", yard)
			}
		}
		if !slices.IsSortedFunc(yards, func(a, b []impl.Spot) int { return compareSpots(a[0], b[0]) }) {
			t.Errorf("yards %v are not ordered", yards)
		}
		slices.SortFunc(all, compareSpots)
		expect(t, "cells", cellsOf(p))(all)
	}
}
