package tests

import (
	"math/rand"
	"slices"
	"strconv"
	"testing"

	"loop.example/g01345/impl"
)

// wantMost wants the most stakes with so many looks, and as many looks to be the least budget.
func wantMost(t *testing.T, name string, p impl.Pasture, reach int, most []impl.Spot, looks int) {
	t.Helper()
	for _, budget := range []int{looks, looks + 1, impl.MaxLooks} {
		expect(t, name, most, looks, 0)(impl.MostStakes(p, int64(reach), int64(budget)))
	}
	for _, budget := range []int{looks - 1, looks / 2, 0} {
		expectCode(t, name, impl.ErrBudget)(impl.MostStakes(p, int64(reach), int64(budget)))
	}
}

// The looks here are counted on paper: a cell in which no stake can be put is none.
func TestLooks(t *testing.T) {
	one, two, three := pastureOf(t, "1"), pastureOf(t, "1 1"), pastureOf(t, "1 1 1")
	wantMost(t, "one cell", one, 0, wayOf(0, 0), 1)
	wantMost(t, "one cell", one, 200, wayOf(0, 0), 1)
	wantMost(t, "both cells", two, 0, wayOf(0, 0, 1, 0), 2)
	// Without 0, 0 there are no more cells left than have been found.
	wantMost(t, "one of both", two, 1, wayOf(0, 0), 1)
	// Without 0, 0 two cells are left, which is more: 1, 0 is tried; without it there is one.
	wantMost(t, "one of three", three, 1, wayOf(0, 0), 2)
	wantMost(t, "both ends", pastureOf(t, "1 1| 1"), 1, wayOf(0, 0, 2, 0), 2)
	// 0 and 3 are found; without 3 only one is left, and without 0 there are three: 1 is tried, which 2 and 3 meet.
	wantMost(t, "two of four", pastureOf(t, "1 1 1 1"), 1, wayOf(0, 0, 3, 0), 3)
	// Each one but the last is tried alone.
	wantMost(t, "one of five", pastureOf(t, "1 1 1 1 1"), 200, wayOf(0, 0), 4)
	wantMost(t, "a column", pastureOf(t, "1", "1", "1", "1"), 1, wayOf(0, 0, 0, 3), 3)
}

// Behind 0, 0 the first one that can stand is 3, 0, and then there is no room; but with 4, 0 there is for 2, 1.
func TestMoreThanGreedyStakes(t *testing.T) {
	p, _ := impl.PlainPasture(5, 2, 1)
	greedy, _ := impl.GreedyStakes(p, 1)
	expect(t, "greedy", wayOf(0, 0, 3, 0), wayOf(0, 0, 4, 0, 2, 1))(greedy, mostByHand(p, 1))
	wantMost(t, "most", p, 1, wayOf(0, 0, 4, 0, 2, 1), seek(p, 1).looks)
}

// The search tries all sets of cells by itself: its stakes are the most, the first ones of several.
func TestMostStakesOfAllSets(t *testing.T) {
	r := rand.New(rand.NewSource(53))
	pastures := everyFence(2, 2)
	for _, size := range [][2]int{{1, 1}, {7, 1}, {1, 8}, {5, 2}, {2, 4}, {3, 3}, {10, 1}} {
		for hurdles := range 4 {
			pastures = append(pastures, randomPasture(r, size[0], size[1], hurdles))
		}
	}
	for _, p := range pastures {
		for _, reach := range []int{0, 1, 2, 4, 5, 200} {
			most, _, code := impl.MostStakes(p, int64(reach), impl.MaxLooks)
			expect(t, "MostStakes", mostByHand(p, reach), int64(impl.OK))(most, code)
		}
	}
}

func TestLooksBySeeking(t *testing.T) {
	r := rand.New(rand.NewSource(54))
	pastures := everyFence(3, 2)
	for range 60 {
		pastures = append(pastures, randomPasture(r, 1+r.Intn(5), 1+r.Intn(4), r.Intn(5)))
	}
	for i, p := range pastures {
		for _, reach := range []int{0, 1, 2, 4, i % 30, 200} {
			s := seek(p, reach)
			wantMost(t, "reach "+strconv.Itoa(reach), p, reach, s.most, s.looks)
		}
	}
	for _, v := range []struct{ wide, high, reach int64 }{{10, 10, 50}, {10, 10, 25}, {10, 10, 200}, {10, 10, 0}, {6, 6, 1}, {10, 1, 1}, {1, 10, 2}, {10, 2, 1}} {
		p, _ := impl.PlainPasture(v.wide, v.high, 1)
		s := seek(p, int(v.reach))
		wantMost(t, "plain, reach "+strconv.Itoa(int(v.reach)), p, int(v.reach), s.most, s.looks)
	}
}

// Where all stakes can stand no cell is passed over; where a single one can, all but the last one are tried.
func TestLooksOfGreatPastures(t *testing.T) {
	for wide := int64(1); wide <= impl.Most; wide++ {
		for high := int64(1); high <= impl.Most; high++ {
			p, _ := impl.PlainPasture(wide, high, 3)
			cells := int(wide * high)
			expect(t, "each cell", cellsOf(p), cells, 0)(impl.MostStakes(p, 0, int64(cells)))
			expectCode(t, "one less", impl.ErrBudget)(impl.MostStakes(p, 0, int64(cells-1)))
			alone := max(1, cells-1)
			expect(t, "a single one", wayOf(0, 0), alone, 0)(impl.MostStakes(p, 200, int64(alone)))
			expectCode(t, "one less", impl.ErrBudget)(impl.MostStakes(p, 200, int64(alone-1)))
		}
	}
}

func TestBudgets(t *testing.T) {
	p, _ := impl.PlainPasture(10, 10, 1)
	expectCode(t, "all looks are not enough", impl.ErrBudget)(impl.MostStakes(p, 1, impl.MaxLooks))
	for _, reach := range []int64{0, 1, 2, 5, 200} {
		expectCode(t, "no looks", impl.ErrBudget)(impl.MostStakes(p, reach, 0))
		for _, budget := range append(extremes, impl.MaxLooks+1) {
			expectCode(t, "budget", impl.ErrRange)(impl.MostStakes(p, reach, budget))
		}
	}
	for _, reach := range append(extremes, impl.MaxReach+1) {
		for _, budget := range []int64{-1, 0, 100, impl.MaxLooks} {
			expectCode(t, "reach", impl.ErrRange)(impl.MostStakes(p, reach, budget))
		}
	}
}

// Stakes are told in the order in which they are put, which is that of the cells.
func TestOrderOfMostStakes(t *testing.T) {
	for _, v := range someStakings() {
		for _, reach := range []int64{1, 2, 9} {
			most, _, code := impl.MostStakes(v.p, reach, 1500)
			if code == impl.ErrBudget {
				continue
			}
			sorted := slices.IsSortedFunc(most, compareSpots)
			expect(t, "MostStakes", int64(impl.OK), true)(code, sorted)
		}
	}
}
