package tests

import (
	"math"
	"math/rand"
	"runtime"
	"slices"
	"strconv"
	"strings"
	"testing"

	"loop.example/g01345/impl"
)

// growthArguments are those of all functions of chapter 4.
type growthArguments struct {
	p, q             impl.Pasture
	g                impl.Growth
	at               impl.Spot
	grass, to        int64
	days, stay, eats int64
	leave, hay       int64
	order            []int64
	text             string
}

// callGrowth calls each function of chapter 4.
func callGrowth(v growthArguments) map[string][]any {
	return map[string][]any{
		"ValidGrowth":    results(impl.ValidGrowth(v.g)),
		"GrowCell":       results(impl.GrowCell(v.g, v.grass)),
		"GrowOnce":       results(impl.GrowOnce(v.p, v.g)),
		"GrowDays":       results(impl.GrowDays(v.p, v.g, v.days)),
		"DaysTo":         results(impl.DaysTo(v.g, v.grass, v.to)),
		"BestBand":       results(impl.BestBand(v.g)),
		"GrazeYard":      results(impl.GrazeYard(v.p, v.at, v.eats)),
		"MowYard":        results(impl.MowYard(v.p, v.at, v.leave)),
		"HayOf":          results(impl.HayOf(v.p, v.g, v.at, v.days, v.leave)),
		"BestMowing":     results(impl.BestMowing(v.p, v.g, v.at, v.days, v.leave)),
		"BestTwoMowings": results(impl.BestTwoMowings(v.p, v.g, v.at, v.days, v.leave)),
		"RotateYards":    results(impl.RotateYards(v.p, v.g, v.order, v.stay, v.eats, v.days)),
		"ShortDays":      results(impl.ShortDays(v.p, v.g, v.order, v.stay, v.eats, v.days)),
		"BestStay":       results(impl.BestStay(v.p, v.g, v.order, v.eats, v.days)),
		"FeedHay":        results(impl.FeedHay(v.hay, v.eats, v.days)),
		"BalanceOf":      results(impl.BalanceOf(v.p, v.q, v.grass, v.eats, v.hay)),
		"GrowthText":     results(impl.GrowthText(v.g)),
		"ReadGrowth":     results(impl.ReadGrowth(v.text)),
	}
}

func TestAllGrowthFunctionsAreCalled(t *testing.T) {
	wantAllCalled(t, "l04_growth.go", callGrowth(growthArguments{}))
}

// extremes are numbers that are out of every range.
var extremes = []int64{-1, math.MinInt64, math.MaxInt64, 1 << 40, -1 << 32}

// someGrowthArguments returns ordinary and invalid arguments, and the extremes of each.
func someGrowthArguments() []growthArguments {
	r := rand.New(rand.NewSource(44))
	texts := []string{"", " ", "5,8,3,0,0,0,0,0,0,0,0 250", "0,0,0,0,0,0,0,0,0,0,0 0", "5,8 250", "\xff", strings.Repeat("9", 5000), strings.Repeat(",", 5000)}
	pick := func(most int64) int64 {
		if n := r.Intn(40); n < len(extremes) {
			return extremes[n]
		}
		return []int64{0, 1, most, most + 1, r.Int63n(most + 1), r.Int63n(most + 1), r.Int63n(most + 1)}[r.Intn(7)]
	}
	rotations := someRotations()
	for _, p := range invalidPastures() {
		rotations = append(rotations, rotation{p: p, g: exampleGrowth(), order: []int64{0}})
	}
	for _, g := range invalidGrowths() {
		rotations = append(rotations, rotation{p: grassy(2, 2, func(x, y int) int { return 60 }), g: g, order: []int64{0}})
	}
	for range 50 {
		wild := rotation{p: wildPasture(r), order: []int64{r.Int63(), -r.Int63()}}
		wild.g = growthOf(r.Intn(1<<16), r.Intn(256), r.Intn(256))
		rotations = append(rotations, wild)
	}
	var list []growthArguments
	for i, c := range rotations {
		v := growthArguments{p: c.p, q: c.p, g: c.g, order: c.order, text: texts[i%len(texts)]}
		v.at = spotAt(r.Intn(3), r.Intn(3))
		v.grass, v.to, v.leave = pick(1000), pick(1000), pick(1000)
		v.days, v.stay, v.eats, v.hay = pick([]int64{60, 365}[i%2]), pick(365), pick(200), pick(1000000)
		if i%9 == 0 {
			v.q, v.at = rotations[r.Intn(len(rotations))].p, wildSpot(r)
		}
		list = append(list, v)
	}
	return list
}

// P1: every function returns, and returns equal results for equal arguments, also behind changes of its first ones.
func TestEqualResultsOfGrowth(t *testing.T) {
	for i, v := range someGrowthArguments() {
		wantEqualResults(t, "arguments "+strconv.Itoa(i), func() map[string][]any { return callGrowth(v) })
	}
}

// P1: no argument is modified, its unused capacity included, and no result shares memory with one.
func TestUnchangedOrders(t *testing.T) {
	for i, v := range someGrowthArguments() {
		order, check := roomFor(t, v.order, -5)
		v.order = order
		scribbleAll(callGrowth(v))
		check("arguments " + strconv.Itoa(i))
	}
}

// P1: nil and empty orders are equivalent.
func TestNilAndEmptyOrders(t *testing.T) {
	for _, v := range someGrowthArguments() {
		empty := v
		v.order, empty.order = nil, []int64{}
		first, second := callGrowth(v), callGrowth(empty)
		for name, list := range first {
			expect(t, name, list...)(second[name]...)
		}
	}
}

// P1: what a call returns does not depend on what runs beside it, and nothing of it runs on.
func TestStaysBesideEachOther(t *testing.T) {
	before := runtime.NumGoroutine()
	r := rotation{lush(rand.New(rand.NewSource(45)), 10, 10, 500), exampleGrowth(), []int64{0}, 1, 300, impl.MaxYear}
	want := results(bestStay(r))
	done := make(chan []any)
	for range 20 {
		go func() { done <- results(bestStay(r)) }()
	}
	for range 20 {
		expect(t, "BestStay", want...)(<-done...)
	}
	wantNoMoreGoroutines(t, before)
}

// withGrowth are the functions with a growth, and withPasture those with a pasture.
var (
	withGrowth  = []string{"GrowCell", "GrowOnce", "GrowDays", "DaysTo", "BestBand", "HayOf", "BestMowing", "BestTwoMowings", "RotateYards", "ShortDays", "BestStay"}
	withPasture = []string{"GrowOnce", "GrowDays", "GrazeYard", "MowYard", "HayOf", "BestMowing", "BestTwoMowings", "RotateYards", "ShortDays", "BestStay", "BalanceOf"}
)

// Errors are told in their order: what is not valid first, whatever else is wrong.
func TestInvalidGrowthComesFirst(t *testing.T) {
	good := growthArguments{p: pastureOf(t, "98| 10"), q: pastureOf(t, "1"), g: exampleGrowth(), order: []int64{0}, stay: 1, days: 1}
	bad := good
	bad.at, bad.grass, bad.to, bad.days, bad.stay, bad.eats, bad.leave, bad.hay, bad.order = spotAt(-1, 0), -1, -1, -1, 0, -1, -1, -1, nil
	for _, v := range []growthArguments{good, bad} {
		for name, p := range invalidPastures() {
			u := v
			u.p = p
			called := callGrowth(u)
			for _, function := range withPasture {
				expectCode(t, function+" of "+name, impl.ErrInvalid)(called[function]...)
			}
		}
		for name, g := range invalidGrowths() {
			u := v
			u.g = g
			called := callGrowth(u)
			for _, function := range withGrowth {
				expectCode(t, function+" of "+name, impl.ErrInvalid)(called[function]...)
			}
			expect(t, name, "")(called["GrowthText"]...)
		}
	}
}

// Behind what is not valid come cells and numbers, and behind these what is told of a function alone.
func TestRangesOfGrowth(t *testing.T) {
	good := growthArguments{p: pastureOf(t, "98| 10 4", "5 6 7"), g: exampleGrowth(), stay: 1, days: 1}
	for _, days := range []int64{0, 61, impl.MaxYear} {
		good.days = days
		wrong := func(name string, change func(*growthArguments), functions ...string) {
			v := good
			change(&v)
			called := callGrowth(v)
			for _, function := range functions {
				expectCode(t, function+" with "+name, impl.ErrRange)(called[function]...)
			}
		}
		mowing := []string{"HayOf", "BestMowing", "BestTwoMowings"}
		rotating := []string{"RotateYards", "ShortDays", "BestStay"}
		for _, s := range badSpots {
			wrong("a spot", func(v *growthArguments) { v.at = s }, append(mowing, "GrazeYard", "MowYard")...)
		}
		for _, order := range [][]int64{nil, {0}, {-1}, make([]int64, 41)} {
			good.order = order
			for _, n := range append(extremes, 366) {
				wrong("days", func(v *growthArguments) { v.days = n }, append(slices.Concat(mowing, rotating), "GrowDays", "FeedHay")...)
			}
			for _, n := range append(extremes, 366, 0) {
				wrong("stay", func(v *growthArguments) { v.stay = n }, "RotateYards", "ShortDays")
			}
			for _, n := range append(extremes, 100001) {
				wrong("eats", func(v *growthArguments) { v.eats = n }, append(rotating, "GrazeYard", "FeedHay")...)
			}
			for _, n := range append(extremes, 1001) {
				wrong("leave", func(v *growthArguments) { v.leave = n }, append(mowing, "MowYard")...)
			}
		}
	}
}

// The ends of all ranges are allowed.
func TestEndsOfRanges(t *testing.T) {
	p, g := pastureOf(t, "1000| 0"), growthOf(1000, 100, 100, 100, 100, 100, 100, 100, 100, 100, 100, 100)
	expect(t, "leave", 0, 0)(impl.HayOf(p, g, spotAt(0, 0), 365, 1000))
	expect(t, "leave", 0, 0, 0)(impl.BestMowing(p, g, spotAt(1, 0), 365, 1000))
	expect(t, "leave", 0, 10, 500, 0)(impl.BestTwoMowings(p, g, spotAt(0, 0), 60, 0))
	end, eaten, code := impl.RotateYards(p, g, []int64{0, 1}, 365, 100000, 365)
	expect(t, "stay", pastureOf(t, "0| 1000"), 1000, 0)(end, sumOf(eaten), code)
	short, code := impl.ShortDays(p, g, []int64{1}, 365, 100000, 365)
	expect(t, "stay", 365, 0)(int64(len(short)), code)
	expect(t, "eats", 1, 1000+364*100, 0)(impl.BestStay(p, g, []int64{0, 1}, 100000, 365))
}

func wantWithin(t *testing.T, g impl.Growth, before, after impl.Pasture) {
	t.Helper()
	for _, s := range cellsOf(before) {
		if was, is := grassAt(before, s), grassAt(after, s); is > max(was, int(g.Limit)) {
			t.Errorf("%s: %d grows to %d", growthByHand(g), was, is)
		}
	}
}

// P9: nothing grows to more than the limit; what has it, or more, stays, and nothing grows less.
func TestNothingGrowsToMoreThanTheLimit(t *testing.T) {
	for _, g := range someGrowths() {
		for grass := range int64(impl.MaxGrass + 1) {
			later, code := impl.GrowCell(g, grass)
			expect(t, growthByHand(g), int64(impl.OK), false)(code, later > max(grass, int64(g.Limit)) || later < grass || later > grass+100)
		}
	}
	for _, f := range someFields() {
		for _, days := range []int64{1, 2, 10, 60, impl.MaxYear} {
			grown, _, code := impl.GrowDays(f.p, f.g, days)
			expect(t, "GrowDays", int64(impl.OK), true)(code, impl.ValidPasture(grown))
			wantWithin(t, f.g, f.p, grown)
			once, _, _ := impl.GrowOnce(grown, f.g)
			wantWithin(t, f.g, grown, once)
			for _, s := range cellsOf(f.p) {
				expect(t, "less", false)(grassAt(grown, s) < grassAt(f.p, s) || grassAt(once, s) < grassAt(grown, s))
			}
		}
	}
	for _, r := range someRotations() {
		end, _, code := rotate(r)
		expect(t, "RotateYards", int64(impl.OK), true)(code, impl.ValidPasture(end))
		wantWithin(t, r.g, r.p, end)
	}
}

// P10: no day makes more hay than the best one, and no day before it makes as much.
func TestNoDayMakesMoreHay(t *testing.T) {
	for i, f := range someFields() {
		days, leave := int64(i%120), int64((i*19)%300)
		best, hay, code := impl.BestMowing(f.p, f.g, f.at, days, leave)
		expect(t, "BestMowing", int64(impl.OK), true)(code, best >= 0 && best <= days)
		expect(t, "of the best day", hay, 0)(impl.HayOf(f.p, f.g, f.at, best, leave))
		for d := range days + 1 {
			other, _ := impl.HayOf(f.p, f.g, f.at, d, leave)
			expect(t, "more", false)(other > hay || other == hay && d < best)
			grown, _, _ := impl.GrowDays(f.p, f.g, d)
			_, mown, _ := impl.MowYard(grown, f.at, leave)
			expect(t, "HayOf", mown)(other)
		}
	}
}

// hayOfTwo mows behind two numbers of days, counted from the beginning.
func hayOfTwo(f field, first, second, leave int64) int64 {
	p, _, _ := impl.GrowDays(f.p, f.g, first)
	p, hay, _ := impl.MowYard(p, f.at, leave)
	p, _, _ = impl.GrowDays(p, f.g, second-first)
	_, more, _ := impl.MowYard(p, f.at, leave)
	return hay + more
}

// P10: no two days make more hay than the best two, and none before these as much.
func TestNoTwoDaysMakeMoreHay(t *testing.T) {
	for i, f := range someFields() {
		days, leave := int64(1+i%20), int64((i*23)%200)
		if i%40 == 0 {
			days = 60
		}
		first, second, hay, code := impl.BestTwoMowings(f.p, f.g, f.at, days, leave)
		expect(t, "BestTwoMowings", int64(impl.OK), true)(code, first >= 0 && first < second && second <= days)
		expect(t, "of the best two days", hay)(hayOfTwo(f, first, second, leave))
		for a := range days {
			for b := a + 1; b <= days; b++ {
				other := hayOfTwo(f, a, b, leave)
				expect(t, "more", false)(other > hay || other == hay && (a < first || a == first && b < second))
			}
		}
	}
}

// wantBalance wants all grass to sum up, and not to, if one is told more or less.
func wantBalance(t *testing.T, name string, before, after impl.Pasture, grown, eaten, mown int64) {
	t.Helper()
	expect(t, name, int64(grassIn(before))+grown)(int64(grassIn(after)) + eaten + mown)
	expect(t, name, 0, 0)(impl.BalanceOf(before, after, grown, eaten, mown))
	expect(t, name, -1, 0)(impl.BalanceOf(before, after, grown+1, eaten, mown))
	expect(t, name, 1, 0)(impl.BalanceOf(before, after, grown, eaten+1, mown))
	expect(t, name, 1, 0)(impl.BalanceOf(before, after, grown, eaten, mown+1))
}

// P11: grass that has grown, been eaten and been mown sums up, after each step and after all of them.
func TestGrassSumsUp(t *testing.T) {
	r := rand.New(rand.NewSource(46))
	for _, f := range someFields() {
		var grown, eaten, mown int64
		p := f.p
		for range 12 {
			was, at := p, cellsOf(p)[r.Intn(len(cellsOf(p)))]
			var more, food, cut int64
			switch r.Intn(4) {
			case 0:
				p, more, _ = impl.GrowOnce(p, f.g)
			case 1:
				p, more, _ = impl.GrowDays(p, f.g, r.Int63n(30))
			case 2:
				p, food, _ = impl.GrazeYard(p, at, r.Int63n(500))
			case 3:
				var hay int64
				p, hay, _ = impl.MowYard(p, at, r.Int63n(100))
				cut = int64(grassIn(was) - grassIn(p))
				expect(t, "hay", cut/4)(hay)
			}
			wantBalance(t, "step", was, p, more, food, cut)
			grown, eaten, mown = grown+more, eaten+food, mown+cut
		}
		wantBalance(t, "all steps", f.p, p, grown, eaten, mown)
	}
}

// otherYards lets all cells grow but those of a yard, and returns by how much.
func otherYards(p impl.Pasture, g impl.Growth, yard []impl.Spot) (impl.Pasture, int64) {
	grown := int64(0)
	for _, s := range cellsOf(p) {
		if was := int64(grassAt(p, s)); !slices.Contains(yard, s) {
			later, _ := impl.GrowCell(g, was)
			p, _ = impl.WithGrass(p, s, later)
			grown += later - was
		}
	}
	return p, grown
}

// P11: rotations sum up: on each day goats graze in one yard, and then the others grow.
func TestRotationsSumUp(t *testing.T) {
	for _, r := range someRotations() {
		if r.days = min(r.days, 40); len(cellsOf(r.p)) > 50 {
			r.days = min(r.days, 5)
		}
		yards, _ := impl.YardsOf(r.p)
		end, eaten, code := rotate(r)
		expect(t, "RotateYards", int64(impl.OK), r.days)(code, int64(len(eaten)))
		var grown int64
		p := r.p
		for d, food := range eaten {
			yard := yards[r.order[d/r.stay%len(r.order)]]
			var got, more int64
			p, got, _ = impl.GrazeYard(p, yard[0], int64(r.eats))
			expect(t, "eaten", food)(got)
			p, more = otherYards(p, r.g, yard)
			grown += more
		}
		expect(t, "end", p)(end)
		wantBalance(t, "rotation", r.p, end, grown, sumOf(eaten), 0)
	}
}

// P11: hay that is fed sums up.
func TestFedHaySumsUp(t *testing.T) {
	for _, hay := range []int64{0, 1, 19, 100, 999999, 1000000} {
		for _, eats := range []int64{0, 1, 8, 99, 100000} {
			for _, days := range []int64{0, 1, 3, 200, impl.MaxYear} {
				left, enough, code := impl.FeedHay(hay, eats, days)
				expect(t, "FeedHay", int64(impl.OK), max(0, hay-eats*days))(code, left)
				expect(t, "just so many days", true)(enough <= days && eats*enough <= hay && (enough == days || eats*(enough+1) > hay))
			}
		}
	}
}
