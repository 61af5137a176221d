package tests

import (
	"math"
	"slices"
	"testing"

	"loop.example/g01345/impl"
)

func rotate(r rotation) (impl.Pasture, []int64, int64) {
	return impl.RotateYards(r.p, r.g, r.order, int64(r.stay), int64(r.eats), int64(r.days))
}

func shortDays(r rotation) ([]int64, int64) {
	return impl.ShortDays(r.p, r.g, r.order, int64(r.stay), int64(r.eats), int64(r.days))
}

func bestStay(r rotation) (int64, int64, int64) {
	return impl.BestStay(r.p, r.g, r.order, int64(r.eats), int64(r.days))
}

// The cells of the yard of the day do not grow: neither what is left of them, nor those from which nothing is eaten.
func TestYardOfTheDayDoesNotGrow(t *testing.T) {
	r := rotation{pastureOf(t, "98| 10 40"), exampleGrowth(), []int64{0, 1}, 1, 12, 1}
	expect(t, "first day", pastureOf(t, "86| 15 45"), []int64{12}, 0)(rotate(r))
	r.days = 2
	expect(t, "second day", pastureOf(t, "91| 3 45"), []int64{12, 12}, 0)(rotate(r))
	r.eats = 0
	expect(t, "nothing eaten", pastureOf(t, "103| 15 45"), []int64{0, 0}, 0)(rotate(r))
	r.order = []int64{0}
	expect(t, "only one yard", pastureOf(t, "98| 20 50"), []int64{0, 0}, 0)(rotate(r))
}

// What has grown on a day can be eaten on the next one, but not on the same one.
func TestGrazingComesBeforeGrowing(t *testing.T) {
	r := rotation{pastureOf(t, "0| 0| 0"), growthOf(1000, 5), []int64{0, 1, 2}, 1, 100, 3}
	expect(t, "each yard once", pastureOf(t, "10| 5| 0"), []int64{0, 5, 10}, 0)(rotate(r))
	r.stay = 3
	expect(t, "in the first yard", pastureOf(t, "0| 15| 15"), []int64{0, 0, 0}, 0)(rotate(r))
	r.order = []int64{2, 1}
	r.days = 4
	expect(t, "then in the second one", pastureOf(t, "20| 0| 5"), []int64{0, 0, 0, 15}, 0)(rotate(r))
}

func TestOrderGoesAround(t *testing.T) {
	r := rotation{pastureOf(t, "10| 20| 30"), growthOf(1000), []int64{0, 1, 2}, 1, 4, 7}
	expect(t, "around", pastureOf(t, "0| 12| 22"), []int64{4, 4, 4, 4, 4, 4, 2}, 0)(rotate(r))
	r.stay = 2
	expect(t, "two days each", pastureOf(t, "0| 12| 22"), []int64{4, 4, 4, 4, 4, 4, 2}, 0)(rotate(r))
	r.days = 8
	expect(t, "the second one of the first again", pastureOf(t, "0| 12| 22"), []int64{4, 4, 4, 4, 4, 4, 2, 0}, 0)(rotate(r))
	r.days, r.order = 5, []int64{2, 2, 0}
	expect(t, "one yard twice", pastureOf(t, "6| 20| 14"), []int64{4, 4, 4, 4, 4}, 0)(rotate(r))
	r.stay = 365
	expect(t, "in the first one", pastureOf(t, "10| 20| 10"), []int64{4, 4, 4, 4, 4}, 0)(rotate(r))
}

// Yards are told by their indices in YardsOf: they are ordered by their first cells.
func TestTurnsAreYards(t *testing.T) {
	p := pastureOf(t, "1| 2|_ 4", "8|_ 16|_ 32", "64 128 256")
	for index, want := range []int64{1 + 8, 2, 4 + 32 + 64 + 128 + 256, 16} {
		r := rotation{p, growthOf(1000), []int64{int64(index)}, 1, 1000, 1}
		left, _ := grazedByHand(p, yardsByHand(p)[index], 1000)
		expect(t, "one day", left, []int64{want}, 0)(rotate(r))
	}
	r := rotation{p, growthOf(1000, 1), []int64{3, 2, 1, 0}, 1, 1000, 4}
	expect(t, "all yards", pastureOf(t, "0| 1|_ 2", "0|_ 3|_ 2", "2 2 2"), []int64{16, 4 + 32 + 64 + 128 + 256 + 3, 2 + 2, 1 + 8 + 6}, 0)(rotate(r))
}

func TestDaysOfRotations(t *testing.T) {
	r := rotation{pastureOf(t, "9| 9"), exampleGrowth(), []int64{1}, 1, 3, 0}
	expect(t, "no days", r.p, []int64(nil), 0)(rotate(r))
	expect(t, "no days", []int64(nil), 0)(shortDays(r))
	expect(t, "no days", 1, 0, 0)(bestStay(r))
	r.days = impl.MaxYear
	end, eaten, code := rotate(r)
	expect(t, "a year", pastureOf(t, "250| 0"), 365, 9, 0)(end, int64(len(eaten)), sumOf(eaten), code)
	short, _ := shortDays(r)
	expect(t, "a year", 362, 3, 364)(int64(len(short)), short[0], short[361])
	expect(t, "a year", 1, 9, 0)(bestStay(r))
}

func TestShortDays(t *testing.T) {
	r := rotation{pastureOf(t, "98| 10"), exampleGrowth(), []int64{1, 0}, 1, 12, 2}
	expect(t, "one less on the first day", []int64{0}, 0)(shortDays(r))
	r.eats = 10
	expect(t, "just enough", []int64(nil), 0)(shortDays(r))
	r.eats, r.stay = 9, 3
	r.days = 6
	expect(t, "then nothing", []int64{1, 2}, 0)(shortDays(r))
	r.eats = 0
	expect(t, "days on which nothing is eaten", []int64(nil), 0)(shortDays(r))
	r.p, r.eats = pastureOf(t, "0| 0"), 1
	r.g = growthOf(1000)
	expect(t, "bare", []int64{0, 1, 2, 3, 4, 5}, 0)(shortDays(r))
	expect(t, "bare", r.p, make([]int64, 6), 0)(rotate(r))
}

func TestRotationsByHand(t *testing.T) {
	for _, r := range someRotations() {
		end, eaten := r.byHand()
		expect(t, "RotateYards", end, eaten, 0)(rotate(r))
		var short []int64
		for d, food := range eaten {
			if food != int64(r.eats) {
				short = append(short, int64(d))
			}
		}
		expect(t, "ShortDays", short, 0)(shortDays(r))
	}
}

func TestBestStay(t *testing.T) {
	r := rotation{pastureOf(t, "10| 10"), growthOf(1000), []int64{0, 1}, 0, 5, 4}
	// With stays of 1 and 2 all is eaten; with longer ones there is nothing left on the third day.
	expect(t, "least of several", 1, 20, 0)(bestStay(r))
	r.eats, r.days = 5, 3
	expect(t, "all stays up to 2", 1, 15, 0)(bestStay(r))
	r.p, r.order, r.days = pastureOf(t, "3| 10"), []int64{1, 0}, 2
	expect(t, "longer in the first one", 2, 10, 0)(bestStay(r))
	r.eats = 0
	expect(t, "nothing eaten", 1, 0, 0)(bestStay(r))
	r.order, r.eats = []int64{0}, 3
	expect(t, "only one yard", 1, 3, 0)(bestStay(r))
}

// In the first yard there is something for 30 days, and for 31 days; in the second one there is nothing.
func TestLongestStay(t *testing.T) {
	r := rotation{pastureOf(t, "930| 0"), growthOf(1000), []int64{0, 1}, 0, 30, 30}
	expect(t, "30 days", 30, 900, 0)(bestStay(r))
	r.days = 31
	expect(t, "not more than 30 days", 30, 900, 0)(bestStay(r))
	r.days = 29
	expect(t, "29 days", 29, 870, 0)(bestStay(r))
}

func TestBestStayByHand(t *testing.T) {
	for _, r := range someRotations() {
		if len(cellsOf(r.p)) > 50 && r.days > 60 {
			continue
		}
		best, most := 0, int64(-1)
		for r.stay = 1; r.stay <= 30; r.stay++ {
			if _, eaten := r.byHand(); sumOf(eaten) > most {
				best, most = r.stay, sumOf(eaten)
			}
		}
		expect(t, "BestStay", best, most, 0)(bestStay(r))
	}
}

// wantRotationCode wants a code of all functions that rotate.
func wantRotationCode(t *testing.T, name string, code int64, r rotation) {
	t.Helper()
	expectCode(t, name+" of RotateYards", code)(rotate(r))
	expectCode(t, name+" of ShortDays", code)(shortDays(r))
	expectCode(t, name+" of BestStay", code)(bestStay(r))
}

func TestOrdersOfTurns(t *testing.T) {
	p := pastureOf(t, "98| 10")
	for _, count := range []int{0, 1, 39, 40, 41, 42, 1000000} {
		for _, days := range []int{0, 1, 45} {
			r := rotation{p, exampleGrowth(), slices.Repeat([]int64{1}, count), 1, 1, days}
			if count == 0 || count > impl.MaxTurns {
				wantRotationCode(t, "count", impl.ErrLimit, r)
				continue
			}
			end, eaten := r.byHand()
			expect(t, "RotateYards", end, eaten, 0)(rotate(r))
		}
	}
	last := append(make([]int64, impl.MaxTurns-1), 1)
	r := rotation{p, exampleGrowth(), last, 1, 1, impl.MaxTurns}
	end, eaten := r.byHand()
	expect(t, "the last one of 40", end, eaten, 0)(rotate(r))
}

// An index of no yard is refused wherever it comes, also if its turn never does.
func TestIndicesOfNoYard(t *testing.T) {
	p := pastureOf(t, "98| 10 1| 1")
	for _, index := range []int64{-1, 3, 4, 256, 1 << 32, math.MinInt64, math.MaxInt64} {
		for _, order := range [][]int64{{index}, {index, 0}, {0, index}, {0, 2, index, 1}, append(make([]int64, 39), index)} {
			for _, days := range []int{0, 1, 60} {
				wantRotationCode(t, "index", impl.ErrState, rotation{p, exampleGrowth(), order, 365, 1, days})
			}
		}
		many := append(make([]int64, 40), index)
		wantRotationCode(t, "too many come first", impl.ErrLimit, rotation{p, exampleGrowth(), many, 1, 1, 1})
	}
	expect(t, "all yards", 1, 3, 0)(impl.BestStay(p, exampleGrowth(), []int64{0, 1, 2}, 1, 3))
}
