package tests

import (
	"math"
	"testing"

	"loop.example/g01345/impl"
)

// The yard is that of the cells 0,0 and 1,0 and 0,1; the last cell is by itself.
func partedPasture(t *testing.T) impl.Pasture {
	t.Helper()
	return pastureOf(t, "30 5_", "20| 40")
}

func TestGrazeYard(t *testing.T) {
	p := partedPasture(t)
	first, last := spotAt(0, 0), spotAt(0, 1)
	expect(t, "nothing", p, 0, 0)(impl.GrazeYard(p, first, 0))
	expect(t, "of the first cell", pastureOf(t, "1 5_", "20| 40"), 29, 0)(impl.GrazeYard(p, first, 29))
	expect(t, "all of the first cell", pastureOf(t, "0 5_", "20| 40"), 30, 0)(impl.GrazeYard(p, last, 30))
	expect(t, "of the next one in the row", pastureOf(t, "0 4_", "20| 40"), 31, 0)(impl.GrazeYard(p, last, 31))
	expect(t, "of the next row", pastureOf(t, "0 0_", "19| 40"), 36, 0)(impl.GrazeYard(p, first, 36))
	expect(t, "all", pastureOf(t, "0 0_", "0| 40"), 55, 0)(impl.GrazeYard(p, last, 55))
	expect(t, "less than is asked for", pastureOf(t, "0 0_", "0| 40"), 55, 0)(impl.GrazeYard(p, first, 56))
	expect(t, "much less", pastureOf(t, "0 0_", "0| 40"), 55, 0)(impl.GrazeYard(p, first, 100000))
	expect(t, "the other yard", pastureOf(t, "30 5_", "20| 0"), 40, 0)(impl.GrazeYard(p, spotAt(1, 1), 60))
	bare := pastureOf(t, "0 0")
	expect(t, "bare", bare, 0, 0)(impl.GrazeYard(bare, first, 9))
	full := grassy(10, 10, func(x, y int) int { return 1000 })
	expect(t, "most", grassy(10, 10, func(x, y int) int { return 0 }), 100000, 0)(impl.GrazeYard(full, spotAt(9, 9), 100000))
	for _, eats := range []int64{-1, 100001, 1 << 32, math.MinInt64, math.MaxInt64} {
		expectCode(t, "GrazeYard", impl.ErrRange)(impl.GrazeYard(p, first, eats))
	}
}

func TestMowYard(t *testing.T) {
	p := partedPasture(t)
	first, last := spotAt(0, 0), spotAt(0, 1)
	expect(t, "rounded down", pastureOf(t, "20 5_", "20| 40"), 2, 0)(impl.MowYard(p, first, 20))
	expect(t, "just as much as leave", p, 0, 0)(impl.MowYard(p, last, 30))
	expect(t, "one more", pastureOf(t, "29 5_", "20| 40"), 0, 0)(impl.MowYard(p, last, 29))
	expect(t, "three more", pastureOf(t, "27 5_", "20| 40"), 0, 0)(impl.MowYard(p, last, 27))
	expect(t, "four more", pastureOf(t, "26 5_", "20| 40"), 1, 0)(impl.MowYard(p, last, 26))
	expect(t, "rounded in all", pastureOf(t, "17 5_", "17| 40"), 4, 0)(impl.MowYard(p, first, 17))
	expect(t, "all", pastureOf(t, "0 0_", "0| 40"), 13, 0)(impl.MowYard(p, spotAt(1, 0), 0))
	expect(t, "nothing", p, 0, 0)(impl.MowYard(p, first, 1000))
	expect(t, "the other yard", pastureOf(t, "30 5_", "20| 1"), 9, 0)(impl.MowYard(p, spotAt(1, 1), 1))
	full := grassy(10, 10, func(x, y int) int { return 1000 })
	expect(t, "most", grassy(10, 10, func(x, y int) int { return 0 }), 25000, 0)(impl.MowYard(full, spotAt(9, 9), 0))
	for _, leave := range []int64{-1, 1001, 1 << 32, math.MinInt64, math.MaxInt64} {
		expectCode(t, "MowYard", impl.ErrRange)(impl.MowYard(p, first, leave))
	}
}

func TestGrazedAndMownFields(t *testing.T) {
	for i, f := range someFields() {
		yard := yardByHand(f.p, f.at)
		for _, eats := range []int{0, 1, 7 * i, 500, 100000} {
			left, eaten := grazedByHand(f.p, yard, eats)
			expect(t, "GrazeYard", left, eaten, 0)(impl.GrazeYard(f.p, f.at, int64(eats)))
		}
		for _, leave := range []int{0, 1, (7 * i) % 1000, 500, 1000} {
			left, mown := mownByHand(f.p, yard, leave)
			expect(t, "MowYard", left, mown/4, 0)(impl.MowYard(f.p, f.at, int64(leave)))
		}
	}
}

func TestHayOf(t *testing.T) {
	p, g := pastureOf(t, "98| 10"), exampleGrowth()
	expect(t, "no days", 19, 0)(impl.HayOf(p, g, spotAt(0, 0), 0, 20))
	expect(t, "a day", 20, 0)(impl.HayOf(p, g, spotAt(0, 0), 1, 20))
	expect(t, "grass that grows up to leave", 0, 0)(impl.HayOf(p, g, spotAt(1, 0), 2, 20))
	expect(t, "a day more", 1, 0)(impl.HayOf(p, g, spotAt(1, 0), 3, 20))
	expect(t, "to the limit", 57, 0)(impl.HayOf(p, g, spotAt(0, 0), impl.MaxYear, 20))
	for i, f := range someFields() {
		yard := yardByHand(f.p, f.at)
		for _, days := range []int{0, 1, i % 61, impl.MaxYear} {
			leave := (i * 17) % 400
			want := hayByHand(f.p, f.g, yard, days, leave)
			expect(t, "HayOf", want, 0)(impl.HayOf(f.p, f.g, f.at, int64(days), int64(leave)))
		}
	}
}

func TestBestMowing(t *testing.T) {
	at := spotAt(0, 0)
	p := pastureOf(t, "20")
	expect(t, "nothing grows", 0, 5, 0)(impl.BestMowing(p, growthOf(1000), at, 9, 0))
	expect(t, "no hay ever", 0, 0, 0)(impl.BestMowing(p, growthOf(1000), at, 9, 20))
	slow := growthOf(1000, 1, 1, 1, 1)
	expect(t, "no days", 0, 0, 0)(impl.BestMowing(p, slow, at, 0, 20))
	expect(t, "too few days", 0, 0, 0)(impl.BestMowing(p, slow, at, 3, 20))
	expect(t, "just enough days", 4, 1, 0)(impl.BestMowing(p, slow, at, 4, 20))
	expect(t, "least of several", 4, 1, 0)(impl.BestMowing(p, slow, at, 7, 20))
	expect(t, "last day", 8, 2, 0)(impl.BestMowing(p, slow, at, 8, 20))
	expect(t, "a year", 364, 91, 0)(impl.BestMowing(p, slow, at, impl.MaxYear, 20))
	expect(t, "up to the limit", 2, 7, 0)(impl.BestMowing(p, growthOf(31, 6), at, impl.MaxYear, 0))
	for i, f := range someFields() {
		days, leave := int64(i%33), int64((i*19)%300)
		yard := yardByHand(f.p, f.at)
		best, most := 0, -1
		for d := range int(days) + 1 {
			if hay := hayByHand(f.p, f.g, yard, d, int(leave)); hay > most {
				best, most = d, hay
			}
		}
		expect(t, "BestMowing", best, most, 0)(impl.BestMowing(f.p, f.g, f.at, days, leave))
	}
}

func TestBestTwoMowings(t *testing.T) {
	at := spotAt(0, 0)
	p := pastureOf(t, "20")
	expect(t, "nothing grows", 0, 1, 5, 0)(impl.BestTwoMowings(p, growthOf(1000), at, 60, 0))
	expect(t, "no hay ever", 0, 1, 0, 0)(impl.BestTwoMowings(p, growthOf(1000), at, 9, 20))
	slow := growthOf(1000, 1, 1, 1, 1)
	expect(t, "one day", 0, 1, 5, 0)(impl.BestTwoMowings(p, slow, at, 1, 0))
	expect(t, "hay of the second day alone", 0, 4, 1, 0)(impl.BestTwoMowings(p, slow, at, 7, 20))
	// 4 and 8 make as much hay as 0 and 8.
	expect(t, "first of several", 0, 8, 2, 0)(impl.BestTwoMowings(p, slow, at, 8, 20))
	expect(t, "first of several", 0, 8, 2, 0)(impl.BestTwoMowings(p, slow, at, 9, 20))
	// What is left behind the first mowing grows faster than what is not mown.
	low := growthOf(1000, 20, 1, 1)
	expect(t, "mown before it grows slowly", 3, 8, 45, 0)(impl.BestTwoMowings(p, low, at, 8, 0))
	expect(t, "60 days", 0, 60, 20, 0)(impl.BestTwoMowings(p, slow, at, 60, 0))
	for _, days := range []int64{61, 62, impl.MaxYear} {
		expectCode(t, "many days", impl.ErrLimit)(impl.BestTwoMowings(p, slow, at, days, 0))
	}
	expectCode(t, "no days", impl.ErrNotFound)(impl.BestTwoMowings(p, slow, at, 0, 0))
}

func TestBestTwoMowingsOfFields(t *testing.T) {
	for i, f := range someFields() {
		if len(cellsOf(f.p)) > 50 {
			continue
		}
		days, leave := 1+i%17, (i*19)%300
		yard := yardByHand(f.p, f.at)
		var best [2]int
		most := -1
		for first := range days {
			for second := first + 1; second <= days; second++ {
				if hay := twiceByHand(f.p, f.g, yard, first, second, leave); hay > most {
					best, most = [2]int{first, second}, hay
				}
			}
		}
		expect(t, "BestTwoMowings", best[0], best[1], most, 0)(impl.BestTwoMowings(f.p, f.g, f.at, int64(days), int64(leave)))
	}
}

func TestFeedHay(t *testing.T) {
	expect(t, "just enough", 0, 3, 0)(impl.FeedHay(24, 8, 3))
	expect(t, "one left", 1, 3, 0)(impl.FeedHay(25, 8, 3))
	expect(t, "not enough on the last day", 0, 2, 0)(impl.FeedHay(23, 8, 3))
	expect(t, "nothing left for the last days", 0, 2, 0)(impl.FeedHay(16, 8, 5))
	expect(t, "not enough on the first day", 0, 0, 0)(impl.FeedHay(7, 8, 3))
	expect(t, "no hay", 0, 0, 0)(impl.FeedHay(0, 1, 365))
	expect(t, "nothing eaten", 7, 3, 0)(impl.FeedHay(7, 0, 3))
	expect(t, "nothing there and nothing eaten", 0, 365, 0)(impl.FeedHay(0, 0, impl.MaxYear))
	expect(t, "no days", 7, 0, 0)(impl.FeedHay(7, 8, 0))
	expect(t, "most", 0, 10, 0)(impl.FeedHay(1000000, 100000, 10))
	expect(t, "a year", 1000000-365*2739, 365, 0)(impl.FeedHay(1000000, 2739, impl.MaxYear))
	expect(t, "a day less", 0, 364, 0)(impl.FeedHay(1000000, 2740, impl.MaxYear))
	for _, wrong := range []int64{-1, 1000001, 1 << 40, math.MinInt64, math.MaxInt64} {
		expectCode(t, "hay", impl.ErrRange)(impl.FeedHay(wrong, 1, 1))
		expectCode(t, "eats", impl.ErrRange)(impl.FeedHay(1, wrong, 1))
		expectCode(t, "days", impl.ErrRange)(impl.FeedHay(1, 1, wrong))
	}
	expectCode(t, "eats", impl.ErrRange)(impl.FeedHay(1, 100001, 0))
	expectCode(t, "days", impl.ErrRange)(impl.FeedHay(1, 0, 366))
}

func TestBalanceOf(t *testing.T) {
	before, after := pastureOf(t, "98| 10_", "1 1"), pastureOf(t, "100 20", "0 0")
	expect(t, "as it is", 10, 0)(impl.BalanceOf(before, after, 0, 0, 0))
	expect(t, "grown", 0, 0)(impl.BalanceOf(before, after, 10, 0, 0))
	expect(t, "grown and eaten", 0, 0)(impl.BalanceOf(before, after, 15, 5, 0))
	expect(t, "grown and mown", 0, 0)(impl.BalanceOf(before, after, 15, 0, 5))
	expect(t, "all", 0, 0)(impl.BalanceOf(before, after, 110, 60, 40))
	expect(t, "too little", -1, 0)(impl.BalanceOf(before, after, 11, 0, 0))
	expect(t, "too much", 3, 0)(impl.BalanceOf(before, after, 10, 1, 2))
	most := int64(1000000000)
	expect(t, "greatest", 10+most+most, 0)(impl.BalanceOf(before, after, 0, most, most))
	expect(t, "least", 10-most, 0)(impl.BalanceOf(before, after, most, 0, 0))
	expect(t, "all greatest", 10+most, 0)(impl.BalanceOf(before, after, most, most, most))
	empty, full := grassy(10, 10, func(x, y int) int { return 0 }), grassy(10, 10, func(x, y int) int { return 1000 })
	expect(t, "empty to full", 100000, 0)(impl.BalanceOf(empty, full, 0, 0, 0))
	expect(t, "full to empty", -100000, 0)(impl.BalanceOf(full, empty, 0, 0, 0))
}

// Pastures that are not valid come first, then those of another size, and then the numbers.
func TestOrderOfErrorsOfBalances(t *testing.T) {
	p := pastureOf(t, "98 10", "1 1")
	others := []impl.Pasture{pastureOf(t, "98 10"), pastureOf(t, "98", "10"), pastureOf(t, "1 1 1", "1 1 1"), pastureOf(t, "1 1", "1 1", "1 1"), pastureOf(t, "110")}
	for _, wrong := range []int64{-1, 1000000001, math.MinInt64, math.MaxInt64} {
		for i := range 3 {
			var numbers [3]int64
			numbers[i] = wrong
			expectCode(t, "numbers", impl.ErrRange)(impl.BalanceOf(p, p, numbers[0], numbers[1], numbers[2]))
			for _, q := range others {
				expectCode(t, "another size", impl.ErrState)(impl.BalanceOf(p, q, numbers[0], numbers[1], numbers[2]))
				expectCode(t, "another size", impl.ErrState)(impl.BalanceOf(q, p, numbers[0], numbers[1], numbers[2]))
			}
			for name, q := range invalidPastures() {
				expectCode(t, name, impl.ErrInvalid)(impl.BalanceOf(p, q, numbers[0], numbers[1], numbers[2]))
				expectCode(t, name, impl.ErrInvalid)(impl.BalanceOf(q, p, numbers[0], numbers[1], numbers[2]))
			}
		}
	}
	for _, q := range others {
		expectCode(t, "another size", impl.ErrState)(impl.BalanceOf(p, q, 0, 0, 0))
	}
}
