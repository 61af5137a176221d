package tests

import (
	"math"
	"strconv"
	"testing"

	"loop.example/g01345/impl"
)

func TestExampleOfGrowth(t *testing.T) {
	g := exampleGrowth()
	expect(t, "ReadGrowth", g, 0)(impl.ReadGrowth("5,8,3,0,0,0,0,0,0,0,0 250"))
	expect(t, "below 100", 103, 0)(impl.GrowCell(g, 98))
	expect(t, "to the limit", 250, 0)(impl.GrowCell(g, 248))
	expect(t, "above the limit", 300, 0)(impl.GrowCell(g, 300))
	expect(t, "DaysTo", 4, 0)(impl.DaysTo(g, 98, 120))
	for _, step := range [][2]int64{{103, 111}, {111, 119}, {119, 127}} {
		expect(t, "on the way", step[1], 0)(impl.GrowCell(g, step[0]))
	}
	expect(t, "BestBand", 1, 8, 0)(impl.BestBand(g))
	p := pastureOf(t, "98 10")
	expect(t, "GrowOnce", pastureOf(t, "103 15"), 10, 0)(impl.GrowOnce(p, g))
	expect(t, "MowYard", pastureOf(t, "20 10"), 19, 0)(impl.MowYard(p, spotAt(0, 0), 20))
	expect(t, "FeedHay", 0, 2, 0)(impl.FeedHay(19, 8, 3))
}

func TestValidGrowth(t *testing.T) {
	for _, g := range someGrowths() {
		expect(t, growthByHand(g), true)(impl.ValidGrowth(g))
	}
	for name, g := range invalidGrowths() {
		expect(t, name, false)(impl.ValidGrowth(g))
	}
	for limit := -32768; limit < 32768; limit++ {
		expect(t, "limit", limit >= 0 && limit <= 1000)(impl.ValidGrowth(growthOf(limit)))
	}
	for more := -128; more < 128; more++ {
		for i := range 11 {
			g := growthOf(500)
			g.Table[i] = int8(more)
			expect(t, growthByHand(g), more >= 0 && more <= 100)(impl.ValidGrowth(g))
		}
	}
}

// A cell below the limit grows to it at most, and one at it or above it stays.
func TestGrowCellAtTheLimit(t *testing.T) {
	g := exampleGrowth()
	for _, step := range [][2]int64{{246, 249}, {247, 250}, {248, 250}, {249, 250}, {250, 250}, {251, 251}, {1000, 1000}, {299, 299}, {999, 999}} {
		expect(t, strconv.Itoa(int(step[0])), step[1], 0)(impl.GrowCell(g, step[0]))
	}
	for _, step := range [][2]int64{{0, 5}, {94, 99}, {95, 100}, {99, 104}, {100, 108}, {199, 207}, {200, 203}, {201, 204}} {
		expect(t, strconv.Itoa(int(step[0])), step[1], 0)(impl.GrowCell(g, step[0]))
	}
	high := growthOf(1000, 0, 0, 0, 0, 0, 0, 0, 0, 0, 7, 100)
	for _, step := range [][2]int64{{899, 899}, {900, 907}, {992, 999}, {993, 1000}, {994, 1000}, {999, 1000}, {1000, 1000}} {
		expect(t, strconv.Itoa(int(step[0])), step[1], 0)(impl.GrowCell(high, step[0]))
	}
	expect(t, "limit 0", 0, 0)(impl.GrowCell(growthOf(0, 100), 0))
	expect(t, "limit 1", 1, 0)(impl.GrowCell(growthOf(1, 100), 0))
	expect(t, "growth 0", 17, 0)(impl.GrowCell(growthOf(1000), 17))
}

func TestGrowCell(t *testing.T) {
	for _, g := range someGrowths() {
		for grass := range impl.MaxGrass + 1 {
			expect(t, growthByHand(g), cellLater(g, grass), 0)(impl.GrowCell(g, int64(grass)))
		}
		for _, grass := range []int64{-1, 1001, 1 << 32, math.MinInt64, math.MaxInt64} {
			expectCode(t, "GrowCell", impl.ErrRange)(impl.GrowCell(g, grass))
		}
	}
}

func TestGrowOnceAndGrowDays(t *testing.T) {
	for i, f := range someFields() {
		before := grassIn(f.p)
		once := grownByHand(f.p, f.g, nil)
		expect(t, "GrowOnce", once, grassIn(once)-before, 0)(impl.GrowOnce(f.p, f.g))
		expect(t, "one day", once, grassIn(once)-before, 0)(impl.GrowDays(f.p, f.g, 1))
		expect(t, "no days", f.p, 0, 0)(impl.GrowDays(f.p, f.g, 0))
		days := []int{2, 3, 10, 60, impl.MaxYear}[i%5]
		later := laterByHand(f.p, f.g, days)
		expect(t, "GrowDays", later, grassIn(later)-before, 0)(impl.GrowDays(f.p, f.g, int64(days)))
	}
}

// A cell of each kind: hurdles neither grow nor hinder.
func TestGrowOncePastHurdles(t *testing.T) {
	p := pastureOf(t, "98| 248_ 0", "250_ 251 199", "300| 1000 100")
	want := pastureOf(t, "103| 250_ 5", "250_ 251 207", "300| 1000 108")
	expect(t, "GrowOnce", want, 5+2+5+8+8, 0)(impl.GrowOnce(p, exampleGrowth()))
}

func TestYearsOfGrowth(t *testing.T) {
	p := pastureOf(t, "0 1000")
	expect(t, "one a day", pastureOf(t, "365 1000"), 365, 0)(impl.GrowDays(p, growthOf(1000, 1, 1, 1, 1), impl.MaxYear))
	expect(t, "a day less", pastureOf(t, "364 1000"), 364, 0)(impl.GrowDays(p, growthOf(1000, 1, 1, 1, 1), impl.MaxYear-1))
	for _, days := range []int64{-1, 366, 1 << 32, math.MinInt64, math.MaxInt64} {
		expectCode(t, "GrowDays", impl.ErrRange)(impl.GrowDays(p, exampleGrowth(), days))
	}
}

func TestDaysTo(t *testing.T) {
	g := exampleGrowth()
	expect(t, "there already", 0, 0)(impl.DaysTo(g, 98, 98))
	expect(t, "more already", 0, 0)(impl.DaysTo(g, 98, 5))
	expect(t, "above the limit already", 0, 0)(impl.DaysTo(g, 400, 300))
	expect(t, "exactly", 1, 0)(impl.DaysTo(g, 98, 103))
	expect(t, "one more", 2, 0)(impl.DaysTo(g, 98, 104))
	expect(t, "the limit", 1, 0)(impl.DaysTo(g, 248, 250))
	expectCode(t, "above the limit", impl.ErrNotFound)(impl.DaysTo(g, 248, 251))
	expectCode(t, "no growth", impl.ErrNotFound)(impl.DaysTo(growthOf(1000), 0, 1))
	expect(t, "no growth, there already", 0, 0)(impl.DaysTo(growthOf(1000), 0, 0))
	slow := growthOf(1000, 1, 1, 1, 1, 1)
	expect(t, "a year", 365, 0)(impl.DaysTo(slow, 0, 365))
	expectCode(t, "more than a year", impl.ErrNotFound)(impl.DaysTo(slow, 0, 366))
	expectCode(t, "more than a year", impl.ErrNotFound)(impl.DaysTo(slow, 1, 367))
	expectCode(t, "a gap", impl.ErrNotFound)(impl.DaysTo(growthOf(1000, 30, 0, 30), 0, 121))
	expect(t, "up to a gap", 4, 0)(impl.DaysTo(growthOf(1000, 30, 0, 30), 0, 120))
}

func daysByHand(g impl.Growth, from, to int) (days int, found bool) {
	for from < to {
		next := cellLater(g, from)
		if next == from || days == impl.MaxYear {
			return 0, false
		}
		from = next
		days++
	}
	return days, true
}

func TestDaysToAllAmounts(t *testing.T) {
	for _, g := range someGrowths() {
		for from := 0; from <= impl.MaxGrass; from += 37 {
			for to := 0; to <= impl.MaxGrass; to += 25 {
				if days, found := daysByHand(g, from, to); found {
					expect(t, growthByHand(g), days, 0)(impl.DaysTo(g, int64(from), int64(to)))
				} else {
					expectCode(t, growthByHand(g), impl.ErrNotFound)(impl.DaysTo(g, int64(from), int64(to)))
				}
			}
		}
	}
	for _, wrong := range []int64{-1, 1001, math.MinInt64, math.MaxInt64} {
		for _, other := range []int64{0, 500, 1000, wrong} {
			expectCode(t, "DaysTo", impl.ErrRange)(impl.DaysTo(exampleGrowth(), wrong, other))
			expectCode(t, "DaysTo", impl.ErrRange)(impl.DaysTo(exampleGrowth(), other, wrong))
		}
	}
}

func TestBestBand(t *testing.T) {
	expect(t, "first of several", 1, 9, 0)(impl.BestBand(growthOf(1000, 3, 9, 8, 9, 9)))
	expect(t, "all equal", 0, 4, 0)(impl.BestBand(growthOf(10, 4, 4, 4, 4, 4, 4, 4, 4, 4, 4, 4)))
	expect(t, "nothing grows", 0, 0, 0)(impl.BestBand(growthOf(1000)))
	expect(t, "last index", 10, 1, 0)(impl.BestBand(growthOf(0, 0, 0, 0, 0, 0, 0, 0, 0, 0, 0, 1)))
	expect(t, "last but one", 9, 100, 0)(impl.BestBand(growthOf(0, 0, 0, 0, 0, 0, 0, 0, 0, 0, 100, 100)))
	for _, g := range someGrowths() {
		index, more, code := impl.BestBand(g)
		expect(t, "BestBand", int64(impl.OK), int64(g.Table[index]))(code, more)
		for i, other := range g.Table {
			expect(t, "better", false)(int64(other) > more || int64(other) == more && int64(i) < index)
		}
	}
}
