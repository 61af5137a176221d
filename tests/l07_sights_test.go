package tests

import (
	"math/rand"
	"slices"
	"testing"

	"loop.example/g01345/impl"
)

func TestValidSights(t *testing.T) {
	p := examplePasture(t)
	for _, list := range [][]impl.Sight{
		nil, sightsOf(0, 0, 0), sightsOf(1000, 2, 1), sightsOf(0, 0, 0, 1000, 2, 1), sightsOf(5, 0, 0, 5, 1, 1, 5, 0, 0, 6, 0, 0), sightsOf(1000, 2, 0, 1000, 0, 1),
		slices.Repeat(sightsOf(5, 1, 1), 39), slices.Repeat(sightsOf(5, 1, 1), 40),
	} {
		expect(t, sightsByHand(list), true)(impl.ValidSights(p, list))
		for name, q := range invalidPastures() {
			expect(t, name, false)(impl.ValidSights(q, list))
		}
	}
	for name, list := range invalidSights() {
		expect(t, name, false)(impl.ValidSights(p, list))
	}
	for _, v := range someOutlooks() {
		expect(t, "some sights", true)(impl.ValidSights(v.p, v.list))
	}
}

func TestValidDaysAndCells(t *testing.T) {
	p := examplePasture(t)
	for first := -2; first <= 1002; first++ {
		for _, second := range []int{-1, 0, first - 1, first, first + 1, 1000, 1001} {
			valid := 0 <= first && first <= second && second <= 1000
			expect(t, "days", valid)(impl.ValidSights(p, sightsOf(first, 0, 0, second, 2, 1)))
		}
	}
	for x := -128; x < 128; x++ {
		for y := -128; y < 128; y++ {
			expect(t, "cells", isCell(p, spotAt(x, y)))(impl.ValidSights(p, sightsOf(5, 0, 0, 5, x, y)))
		}
	}
}

// wantStrange wants the first strange sight that is told, -1 if there is none.
func wantStrange(t *testing.T, v outlook, index int) {
	t.Helper()
	got := results(impl.FirstStrange(v.p, v.list, int64(v.steps)))
	if index < 0 {
		expectCode(t, sightsByHand(v.list), impl.ErrNotFound)(got...)
		expectCode(t, sightsByHand(v.list), impl.ErrNotFound)(impl.ExplainedBy(v.p, v.list, int64(v.steps)))
	} else {
		expect(t, sightsByHand(v.list), index, 0)(got...)
	}
}

func TestFirstStrange(t *testing.T) {
	p := examplePasture(t)
	// From 1, 0 to 1, 1 there are 3 steps.
	far := func(days int) []impl.Sight { return sightsOf(10, 1, 0, 10+days, 1, 1) }
	for _, v := range []struct {
		list        []impl.Sight
		steps, want int
	}{
		{nil, 0, -1}, {sightsOf(0, 2, 1), 0, -1}, {sightsOf(1000, 2, 1), 100, -1},
		{far(1), 3, -1}, {far(1), 2, 1}, {far(3), 1, -1}, {far(2), 1, 1}, {far(2), 2, -1}, {far(0), 100, 1}, {far(990), 0, 1}, {far(1), 100, -1}, {far(1), 0, 1},
		// On one day a goat does not go on.
		{sightsOf(4, 1, 0, 4, 1, 0), 0, -1}, {sightsOf(4, 1, 0, 4, 1, 0, 9, 1, 0), 0, -1}, {sightsOf(4, 1, 0, 4, 2, 0), 100, 1}, {sightsOf(4, 1, 0, 5, 2, 0, 5, 1, 0), 100, 2},
		{sightsOf(4, 1, 0, 4, 2, 0, 4, 1, 0), 100, 1}, {sightsOf(0, 0, 0, 4, 1, 0, 4, 1, 0, 4, 0, 0, 4, 1, 0), 100, 3},
		// Of several strange ones the first one counts; behind it one comes from its cell.
		{sightsOf(0, 0, 0, 1, 2, 1, 2, 0, 0), 2, 1}, {sightsOf(0, 0, 0, 3, 2, 1, 4, 0, 0, 5, 2, 1), 2, 2}, {sightsOf(0, 0, 0, 3, 2, 1, 6, 0, 0, 7, 2, 1), 1, 3},
		{sightsOf(0, 0, 0, 1, 2, 1, 9, 2, 1), 2, 1},
		// Days are counted from the sight before, and not from the first one.
		{sightsOf(0, 0, 0, 100, 0, 0, 101, 2, 1), 2, 2}, {sightsOf(0, 0, 0, 100, 0, 0, 101, 2, 1), 3, -1},
	} {
		wantStrange(t, outlook{p, v.list, v.steps}, v.want)
	}
}

// Where one cannot come at all, no days are enough.
func TestSightsInTwoYards(t *testing.T) {
	p := pastureOf(t, "1| 1 1")
	for _, steps := range []int{0, 1, 2, 100} {
		wantStrange(t, outlook{p, sightsOf(0, 0, 0, 1000, 1, 0), steps}, 1)
		// The first sight is not strange, in whichever yard.
		wantStrange(t, outlook{p, sightsOf(0, 0, 0), steps}, -1)
		wantStrange(t, outlook{p, sightsOf(0, 0, 0, 5, 1, 0, 5, 1, 0), steps}, 1)
	}
	alone := pastureOf(t, "1|_ 1", "1 1")
	wantStrange(t, outlook{alone, sightsOf(0, 0, 0, 7, 1, 1, 9, 0, 1), 1}, 1)
	wantStrange(t, outlook{alone, sightsOf(0, 1, 1, 7, 0, 1, 9, 0, 0), 1}, 2)
}

func TestStepsOfSights(t *testing.T) {
	p := grassy(10, 10, func(x, y int) int { return 0 })
	for y := range 9 {
		p.South[y] = 1<<10 - 1 - 1<<(9-9*(y%2))
	}
	for _, v := range []struct{ days, steps, want int }{
		{1, 99, -1}, {1, 98, 1}, {1, 100, -1}, {99, 1, -1}, {98, 1, 1}, {9, 11, -1}, {9, 10, 1}, {10, 10, -1}, {1000, 0, 1}, {0, 100, 1},
	} {
		wantStrange(t, outlook{p, sightsOf(0, 0, 0, v.days, 0, 9), v.steps}, v.want)
		wantStrange(t, outlook{p, sightsOf(1000-v.days, 0, 9, 1000, 0, 0), v.steps}, v.want)
	}
}

func TestRangesOfSteps(t *testing.T) {
	p := pastureOf(t, "1| 1 1")
	for _, steps := range append(extremes, 101) {
		for _, list := range [][]impl.Sight{nil, sightsOf(0, 0, 0), sightsOf(0, 0, 0, 1, 0, 0), sightsOf(0, 0, 0, 1, 2, 0)} {
			expectCode(t, "FirstStrange", impl.ErrRange)(impl.FirstStrange(p, list, steps))
			expectCode(t, "ExplainedBy", impl.ErrRange)(impl.ExplainedBy(p, list, steps))
		}
		for name, list := range invalidSights() {
			expectCode(t, name, impl.ErrInvalid)(impl.FirstStrange(p, list, steps))
			expectCode(t, name, impl.ErrInvalid)(impl.ExplainedBy(p, list, steps))
		}
	}
	for _, steps := range []int64{0, 100} {
		expectCode(t, "the ends of the range", impl.ErrNotFound)(impl.FirstStrange(p, nil, steps))
		expectCode(t, "the ends of the range", impl.ErrNotFound)(impl.ExplainedBy(p, nil, steps))
	}
}

func TestExplainedBy(t *testing.T) {
	ring := []string{"1 1|_ 1", "1| 1 1", "1 1 1"}
	for _, v := range []struct {
		rows  []string
		list  []impl.Sight
		steps int64
		want  []impl.Hurdle
	}{
		// Only one of them is in the way.
		{[]string{"1| 1 1"}, sightsOf(0, 0, 0, 1, 2, 0), 2, []impl.Hurdle{eastOf(0, 0)}},
		{[]string{"1| 1 1", "1_ 1_ 1_", "1| 1| 1"}, sightsOf(0, 0, 0, 1, 1, 0), 1, []impl.Hurdle{eastOf(0, 0)}},
		// Two in a row, which only together explain it.
		{[]string{"1| 1| 1"}, sightsOf(0, 0, 0, 1, 2, 0), 2, nil},
		{[]string{"1| 1| 1"}, sightsOf(0, 0, 0, 1, 2, 0), 100, nil},
		{[]string{"1| 1| 1"}, sightsOf(0, 0, 0, 1, 1, 0), 2, []impl.Hurdle{eastOf(0, 0)}},
		{[]string{"1| 1| 1"}, sightsOf(0, 0, 0, 1, 1, 0, 2, 2, 0), 2, nil},
		// Each one of several alone makes a way.
		{[]string{"1| 1", "1| 1", "1| 1"}, sightsOf(0, 0, 0, 1, 1, 2), 3, []impl.Hurdle{eastOf(0, 0), eastOf(0, 1), eastOf(0, 2)}},
		{[]string{"1| 1", "1| 1", "1| 1"}, sightsOf(0, 0, 1, 1, 1, 1), 2, []impl.Hurdle{eastOf(0, 1)}},
		{[]string{"1| 1", "1| 1", "1| 1"}, sightsOf(0, 0, 1, 1, 1, 1), 3, []impl.Hurdle{eastOf(0, 0), eastOf(0, 1), eastOf(0, 2)}},
		{[]string{"1_ 1_ 1_", "1 1 1"}, sightsOf(0, 0, 0, 2, 2, 1), 2, []impl.Hurdle{southOf(0, 0), southOf(1, 0), southOf(2, 0)}},
		// From 1, 0 to 1, 1 there are 5 steps; without a hurdle elsewhere there are 3.
		{ring, sightsOf(5, 1, 0, 6, 1, 1), 1, []impl.Hurdle{southOf(1, 0)}},
		{ring, sightsOf(5, 1, 0, 6, 1, 1), 3, []impl.Hurdle{eastOf(1, 0), southOf(1, 0), eastOf(0, 1)}},
		{ring, sightsOf(5, 1, 0, 6, 2, 0), 1, []impl.Hurdle{eastOf(1, 0)}},
		// The same day in two cells is explained by none, with or without hurdles.
		{ring, sightsOf(5, 1, 0, 5, 1, 1), 100, nil},
		{[]string{"1 1"}, sightsOf(5, 0, 0, 5, 1, 0), 100, nil},
		{[]string{"1 1 1"}, sightsOf(5, 0, 0, 6, 2, 0), 1, nil},
		// It explains the first strange one, but not the second one.
		{[]string{"1| 1 1"}, sightsOf(0, 0, 0, 1, 1, 0, 2, 2, 0, 3, 0, 0), 1, nil},
	} {
		expect(t, sightsByHand(v.list), v.want, 0)(impl.ExplainedBy(pastureOf(t, v.rows...), v.list, v.steps))
	}
}

func TestSightsByHand(t *testing.T) {
	none, strange, explained := 0, 0, 0
	for _, v := range someOutlooks() {
		for _, steps := range []int{v.steps, 0, max(0, v.steps-1), 100} {
			v.steps = steps
			index := strangeByHand(v.p, v.list, steps)
			wantStrange(t, v, index)
			if index < 0 {
				none++
				continue
			}
			strange++
			by := explainedByHand(v.p, v.list, steps)
			expect(t, "ExplainedBy", by, 0)(impl.ExplainedBy(v.p, v.list, int64(steps)))
			if len(by) > 0 {
				explained++
			}
		}
	}
	if none < 100 || strange < 100 || explained < 50 {
		t.Errorf("%d without a strange one, %d with one, %d explained", none, strange, explained)
	}
}

// All sights of two or three days on all fences of a small pasture.
func TestSightsOfEveryFence(t *testing.T) {
	r := rand.New(rand.NewSource(88))
	for _, p := range everyFence(2, 3) {
		cells := cellsOf(p)
		for range 10 {
			a, b, c := cells[r.Intn(6)], cells[r.Intn(6)], cells[r.Intn(6)]
			v := outlook{p, []impl.Sight{{At: a}, {Day: 1, At: b}, {Day: int16(1 + r.Intn(3)), At: c}}, r.Intn(6)}
			index := strangeByHand(p, v.list, v.steps)
			wantStrange(t, v, index)
			if index >= 0 {
				expect(t, "ExplainedBy", explainedByHand(p, v.list, v.steps), 0)(impl.ExplainedBy(p, v.list, int64(v.steps)))
			}
		}
	}
}

// Sights that come again on one day, in all orders of three cells.
func TestSightsOfOneDay(t *testing.T) {
	p := grassy(3, 1, func(x, y int) int { return 0 })
	for length := range 6 {
		for _, places := range everyList(length, 6) {
			var list []impl.Sight
			for _, place := range places {
				list = append(list, impl.Sight{Day: int16(place / 3), At: spotAt(int(place%3), 0)})
			}
			if !slices.IsSortedFunc(list, func(a, b impl.Sight) int { return int(a.Day - b.Day) }) {
				expectCode(t, sightsByHand(list), impl.ErrInvalid)(impl.FirstStrange(p, list, 1))
				continue
			}
			for _, steps := range []int{0, 1, 2} {
				wantStrange(t, outlook{p, list, steps}, strangeByHand(p, list, steps))
			}
		}
	}
}

func TestMostSights(t *testing.T) {
	p := grassy(10, 10, func(x, y int) int { return 0 })
	var list []impl.Sight
	for i := range impl.MaxSights {
		list = append(list, impl.Sight{Day: int16(i), At: spotAt(i%10, i/10)})
	}
	// From the east end of a row to the west end of the next one there are 10 steps.
	wantStrange(t, outlook{p, list, 10}, -1)
	wantStrange(t, outlook{p, list, 9}, 10)
	wantStrange(t, outlook{p, list[:10], 1}, -1)
	wantStrange(t, outlook{p, list[10:20], 1}, -1)
	fenced := p
	for _, side := range sidesIn(p) {
		fenced = fence(fenced, side)
	}
	wantStrange(t, outlook{fenced, list, 100}, 1)
	expect(t, "180 hurdles", []impl.Hurdle(nil), 0)(impl.ExplainedBy(fenced, list, 100))
	expect(t, "one of 180", []impl.Hurdle{eastOf(0, 0)}, 0)(impl.ExplainedBy(fenced, list[:2], 1))
	last := append(slices.Repeat(list[:1], 39), impl.Sight{Day: 1, At: spotAt(0, 1)})
	wantStrange(t, outlook{fenced, last, 100}, 39)
	expect(t, "the last one", []impl.Hurdle{southOf(0, 0)}, 0)(impl.ExplainedBy(fenced, last, 100))
}
