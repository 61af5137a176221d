package tests

import (
	"math/rand"
	"slices"
	"testing"

	"loop.example/g01345/impl"
)

// P19: goats, hurdles, stakes and meadows agree on one pasture. Each test here asks functions of several chapters for the same thing.

// sharedPastures returns pastures with one yard to MaxMeadows, none of which has more than MaxGrass grass.
func sharedPastures() []impl.Pasture {
	r := rand.New(rand.NewSource(95))
	var list []impl.Pasture
	for len(list) < 150 {
		p := randomPasture(r, 1+r.Intn(7), 1+r.Intn(7), r.Intn(6))
		for _, s := range cellsOf(p) {
			p.Grass[s.Y][s.X] = int16(r.Intn(1 + r.Intn(20)))
		}
		if len(yardsByHand(p)) <= impl.MaxMeadows {
			list = append(list, p)
		}
	}
	return list
}

func meadowsIn(t *testing.T, p impl.Pasture, grows int64) []impl.Meadow {
	t.Helper()
	list, code := impl.MeadowsOf(p, grows)
	expect(t, "MeadowsOf", int64(impl.OK), true)(code, impl.ValidMeadows(list))
	return list
}

// The meadows are the yards, and what grass they have is that of all goats that could be there.
func TestMeadowsAgreeWithYards(t *testing.T) {
	for _, p := range sharedPastures() {
		list := meadowsIn(t, p, 1)
		yards, _ := impl.YardsOf(p)
		expect(t, "meadows", len(yards))(int64(len(list)))
		grass, cells := int64(0), int64(0)
		for i, yard := range yards {
			sum, _ := impl.GrassOf(p, yard)
			expect(t, "grass and cells of a yard", sum, len(yard))(int64(list[i].Grass), int64(list[i].Grows))
			grass, cells = grass+int64(list[i].Grass), cells+int64(list[i].Grows)
		}
		all, _ := impl.GrassIn(p)
		expect(t, "all grass and cells", all, len(cellsOf(p)))(grass, cells)
		// Water in the first cell of each other yard tells which meadows have it.
		var water []impl.Spot
		var want []int64
		for i := 0; i < len(yards); i += 2 {
			water, want = append(water, yards[i][0]), append(want, int64(i))
		}
		expect(t, "WateredYards", want, 0)(impl.WateredYards(p, water))
	}
}

// A free goat has the cells of its yard, and so has one that is tied with the longest rope, and a stake with the greatest reach.
func TestGoatsAgreeWithStakesAndMeadows(t *testing.T) {
	for _, p := range sharedPastures() {
		list := meadowsIn(t, p, 0)
		yards, _ := impl.YardsOf(p)
		for i, yard := range yards {
			at := yard[len(yard)/2]
			free, _ := impl.FreeGoat(at, 5, impl.LiNear)
			tied, _ := impl.TieGoat(p, free, impl.MaxReach)
			stake := impl.Stake{At: at, Reach: impl.MaxReach}
			expect(t, "a yard", yard, 0)(impl.YardOf(p, at))
			expect(t, "a free goat", yard, 0)(impl.CellsFor(p, free))
			expect(t, "a tied goat", yard, 0)(impl.CellsFor(p, tied))
			expect(t, "a stake", yard, 0)(impl.ReachOf(p, stake))
			expect(t, "steps", yard, 0)(impl.StepsReach(p, at, impl.MaxWalk))
			expect(t, "food", int64(list[i].Grass), 0)(impl.FoodOf(p, stake))
			open, code := impl.OpenSides(p, yard)
			expect(t, "no open sides", 0, 0)(int64(len(open)), code)
		}
	}
}

// Goats that are tied where they stand have what is reached from stakes there, and can meet if, and only if, the stakes meet.
func TestTiedGoatsAgreeWithStakes(t *testing.T) {
	r := rand.New(rand.NewSource(96))
	for _, p := range sharedPastures() {
		stakes := someStakesOn(r, p, 1+r.Intn(impl.MaxStakes))
		var goats []impl.Goat
		for _, s := range stakes {
			goats = append(goats, tiedGoat(s.At, s.At, int(s.Reach), 9, impl.LiRich))
		}
		expect(t, "both are valid", true, true)(impl.ValidStakes(p, stakes), impl.ValidGoats(p, goats))
		expect(t, "MeetingPairs", results(impl.CanMeet(p, goats))...)(impl.MeetingPairs(p, stakes))
		uncovered, _ := impl.UncoveredBy(p, stakes)
		shared, _ := impl.SharedCells(p, stakes)
		for i, g := range goats {
			expect(t, "cells", results(impl.CellsFor(p, g))...)(impl.ReachOf(p, stakes[i]))
		}
		for _, s := range cellsOf(p) {
			who, _ := impl.WhoEatsAt(p, goats, s)
			expect(t, "who eats there", len(who) == 0, len(who) > 1)(slices.Contains(uncovered, s), slices.Contains(shared, s))
		}
	}
}

// inYards returns for each yard the sum of what its goats have.
func inYards(p impl.Pasture, goats []impl.Goat, numbers []int64) []int64 {
	yards := yardsByHand(p)
	sums := make([]int64, len(yards))
	for i, yard := range yards {
		for j, g := range goats {
			if slices.Contains(yard, g.At) {
				sums[i] += numbers[j]
			}
		}
	}
	return sums
}

// What goats eat is what their meadows have less, and no hurdle or stake changes by it.
func TestEatenGrassAgreesWithMeadows(t *testing.T) {
	r := rand.New(rand.NewSource(97))
	for _, p := range sharedPastures() {
		before := meadowsIn(t, p, 3)
		goats := someGoats(r, p, r.Intn(8))
		left, moved, eaten, code := impl.FeedByBites(p, goats)
		expect(t, "FeedByBites", int64(impl.OK))(code)
		after := meadowsIn(t, left, 3)
		for i, sum := range inYards(p, goats, eaten) {
			expect(t, "eaten in a meadow", int64(before[i].Grass)-int64(after[i].Grass))(sum)
		}
		expect(t, "goats stay in their yards", inYards(p, goats, eaten))(inYards(left, moved, eaten))
		expect(t, "HurdlesOf", results(impl.HurdlesOf(p))...)(impl.HurdlesOf(left))
		expect(t, "BalanceOf", 0, 0)(impl.BalanceOf(p, left, 0, sumOf(eaten), 0))
	}
}

// A day of a season is one on which so much is grazed in a yard, if nothing grows.
func TestDaysAgreeWithGrazing(t *testing.T) {
	r := rand.New(rand.NewSource(98))
	for _, p := range sharedPastures() {
		list := meadowsIn(t, p, 0)
		yards, _ := impl.YardsOf(p)
		for i, yard := range yards {
			for _, need := range []int64{1, int64(list[i].Grass), int64(list[i].Grass) + 1, 1 + r.Int63n(30)} {
				if need < 1 {
					continue
				}
				left, eaten, _ := impl.GrazeYard(p, yard[r.Intn(len(yard))], need)
				if eaten == need {
					expect(t, "enough", meadowsIn(t, left, 0), 0)(impl.DayBehind(list, need, int64(i)))
				} else {
					expectCode(t, "too little", impl.ErrState)(impl.DayBehind(list, need, int64(i)))
				}
			}
		}
	}
}

// A plan is the order of a rotation with a stay of one day, if nothing grows: its first hungry day is the first short one.
func TestPlansAgreeWithRotations(t *testing.T) {
	r := rand.New(rand.NewSource(99))
	for _, p := range sharedPastures() {
		list := meadowsIn(t, p, 0)
		var plan []int64
		for range 1 + r.Intn(8) {
			plan = append(plan, r.Int63n(int64(len(list))))
		}
		need, days := 1+r.Int63n(20), int64(len(plan))
		end, _, _ := impl.RotateYards(p, impl.Growth{}, plan, 1, need, days)
		short, code := impl.ShortDays(p, impl.Growth{}, plan, 1, need, days)
		expect(t, "ShortDays", int64(impl.OK))(code)
		expect(t, "CheckPlan", len(short) == 0, 0)(impl.CheckPlan(list, need, plan))
		if len(short) > 0 {
			expect(t, "FirstHungry", short[0], 0)(impl.FirstHungry(list, need, plan))
		} else {
			expect(t, "GrassBehind", meadowsIn(t, end, 0), 0)(impl.GrassBehind(list, need, plan))
		}
	}
}

// Sights are not strange if, and only if, there are steps enough between their cells, and so they are for stakes and goats.
func TestSightsAgreeWithSteps(t *testing.T) {
	r := rand.New(rand.NewSource(100))
	for _, p := range sharedPastures() {
		cells := cellsOf(p)
		for range 20 {
			a, b, steps, days := cells[r.Intn(len(cells))], cells[r.Intn(len(cells))], r.Int63n(5), r.Int63n(5)
			sights := []impl.Sight{{Day: 7, At: a}, {Day: int16(7 + days), At: b}}
			_, code := impl.FirstStrange(p, sights, steps)
			far, none := impl.StepsBetween(p, a, b)
			expect(t, "StepsBetween", none == impl.OK && far <= steps*days)(code == impl.ErrNotFound)
			reached, _ := impl.StepsReach(p, a, steps*days)
			expect(t, "StepsReach", slices.Contains(reached, b))(code == impl.ErrNotFound)
			same, _ := impl.SameYard(p, a, b)
			_, ever := impl.FirstStrange(p, []impl.Sight{{At: a}, {Day: 100, At: b}}, 100)
			expect(t, "SameYard", same)(ever == impl.ErrNotFound)
		}
	}
}

// Between two yards the best gate explains sights with as many steps as it has, and no hurdle does with one less.
func TestSightsAgreeWithGates(t *testing.T) {
	r := rand.New(rand.NewSource(101))
	gates := 0
	for _, p := range sharedPastures() {
		yards, _ := impl.YardsOf(p)
		for i, yard := range yards[1:] {
			a, b := yards[i][r.Intn(len(yards[i]))], yard[r.Intn(len(yard))]
			sights := []impl.Sight{{At: a}, {Day: 1, At: b}}
			gate, steps, code := impl.BestGate(p, a, b)
			if code == impl.ErrNotFound {
				expect(t, "no hurdle", []impl.Hurdle(nil), 0)(impl.ExplainedBy(p, sights, 100))
				continue
			}
			by, _ := impl.ExplainedBy(p, sights, steps)
			expect(t, "the first one is the best gate", gate)(by[0])
			expect(t, "one step less", []impl.Hurdle(nil), 0)(impl.ExplainedBy(p, sights, steps-1))
			needed, _ := impl.GatesNeeded(p, a, b)
			expect(t, "GatesNeeded", 1)(needed)
			gates++
		}
	}
	if gates < 50 {
		t.Errorf("%d gates", gates)
	}
}

// Hurdles that are taken make one meadow of two, and those that are put make two of one; grass neither comes nor goes.
func TestHurdlesAgreeWithMeadows(t *testing.T) {
	r := rand.New(rand.NewSource(102))
	for _, p := range sharedPastures() {
		list := meadowsIn(t, p, 1)
		joints, _ := impl.JoinYards(p)
		expect(t, "JoinYards", len(list)-1)(int64(len(joints)))
		for i := range joints {
			rest, _ := impl.TakeHurdles(p, joints[:i+1])
			expect(t, "meadows", len(list)-1-i)(int64(len(meadowsIn(t, rest, 1))))
		}
		whole, _ := impl.TakeHurdles(p, joints)
		all, _ := impl.GrassIn(p)
		expect(t, "one meadow", []impl.Meadow{{Grass: int16(all), Grows: int16(len(cellsOf(p))), Most: impl.MaxGrass}})(meadowsIn(t, whole, 1))
		cells := cellsOf(p)
		a, b := cells[r.Intn(len(cells))], cells[r.Intn(len(cells))]
		if a == b {
			continue
		}
		part, _ := impl.PartCells(whole, []impl.Spot{a}, []impl.Spot{b})
		parted, _ := impl.AddHurdles(whole, part)
		two := meadowsIn(t, parted, 1)
		expect(t, "two meadows", 2, all)(int64(len(two)), int64(two[0].Grass)+int64(two[1].Grass))
		near, _ := impl.NearSide(whole, []impl.Spot{a}, []impl.Spot{b})
		grass, _ := impl.GrassOf(parted, near)
		yards, _ := impl.YardsOf(parted)
		at := slices.IndexFunc(yards, func(yard []impl.Spot) bool { return slices.Contains(yard, a) })
		expect(t, "the near side", near, grass)(yards[at], int64(two[at].Grass))
	}
}

// Groups that fit into the yards of a pasture can eat there on a day of a season, and free goats there need as much.
func TestHerdsAgreeWithMeadows(t *testing.T) {
	r := rand.New(rand.NewSource(103))
	fit := 0
	for _, p := range sharedPastures() {
		list := meadowsIn(t, p, 0)
		h := randomHerd(r, 1+r.Intn(5), 4)
		for i := range h.Eats {
			h.Eats[i] = int16(1 + r.Intn(20))
		}
		groups, _, _ := impl.FewestGroups(h)
		needs, _ := impl.NeedsOf(h, groups)
		var grass []int64
		for _, m := range list {
			grass = append(grass, int64(m.Grass))
		}
		yards, code := impl.FitGroups(h, groups, grass)
		if code != impl.OK {
			continue
		}
		fit++
		all, _ := impl.YardsOf(p)
		for group, yard := range yards {
			_, code := impl.DayBehind(list, needs[group], yard)
			expect(t, "DayBehind", int64(impl.OK))(code)
			var goats []impl.Goat
			for goat, number := range groups {
				if number == int64(group) {
					goats = append(goats, freeGoat(all[yard][0], int(h.Eats[goat]), impl.LiRich))
				}
			}
			expect(t, "NeedOf", needs[group], 0)(impl.NeedOf(p, goats))
			_, eaten, _ := impl.GrazeYard(p, all[yard][0], needs[group])
			expect(t, "GrazeYard", needs[group])(eaten)
		}
	}
	if fit < 20 {
		t.Errorf("%d herds fit", fit)
	}
}

// A pasture that is mirrored or turned has the same meadows in another order, and its sights and stakes with it.
func TestTurnedPasturesAgree(t *testing.T) {
	r := rand.New(rand.NewSource(104))
	compare := func(a, b impl.Meadow) int { return int(a.Grass)*2000 + int(a.Grows) - int(b.Grass)*2000 - int(b.Grows) }
	for _, p := range sharedPastures() {
		want := slices.SortedFunc(slices.Values(meadowsIn(t, p, 1)), compare)
		cells := cellsOf(p)
		a, b := cells[r.Intn(len(cells))], cells[r.Intn(len(cells))]
		steps := r.Int63n(6)
		for _, v := range []struct {
			turn  func(impl.Pasture) (impl.Pasture, int64)
			place func(impl.Spot) impl.Spot
		}{
			{impl.MirrorPasture, func(s impl.Spot) impl.Spot { return impl.Spot{X: p.Wide - 1 - s.X, Y: s.Y} }},
			{impl.TurnPasture, func(s impl.Spot) impl.Spot { return impl.Spot{X: p.High - 1 - s.Y, Y: s.X} }},
		} {
			q, _ := v.turn(p)
			expect(t, "meadows", want)(slices.SortedFunc(slices.Values(meadowsIn(t, q, 1)), compare))
			_, first := impl.FirstStrange(p, []impl.Sight{{At: a}, {Day: 1, At: b}}, steps)
			_, second := impl.FirstStrange(q, []impl.Sight{{At: v.place(a)}, {Day: 1, At: v.place(b)}}, steps)
			expect(t, "FirstStrange", first)(second)
			food, _ := impl.FoodOf(p, impl.Stake{At: a, Reach: 4})
			expect(t, "FoodOf", food, 0)(impl.FoodOf(q, impl.Stake{At: v.place(a), Reach: 4}))
		}
	}
}
