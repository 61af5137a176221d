package tests

import (
	"math/rand"
	"runtime"
	"slices"
	"strconv"
	"strings"
	"testing"

	"loop.example/g01345/impl"
)

// tetherArguments are those of all functions of chapter 5.
type tetherArguments struct {
	p             impl.Pasture
	a, b          impl.Stake
	list, other   []impl.Stake
	s, t          impl.Spot
	cells, walk   []impl.Spot
	index, grass  int64
	reach, budget int64
	steps, length int64
	text          string
}

// callTethers calls each function of chapter 5.
func callTethers(v tetherArguments) map[string][]any {
	return map[string][]any{
		"ValidStakes":   results(impl.ValidStakes(v.p, v.list)),
		"SameStakes":    results(impl.SameStakes(v.list, v.other)),
		"SquareOf":      results(impl.SquareOf(v.s, v.t)),
		"ReachOf":       results(impl.ReachOf(v.p, v.a)),
		"FoodOf":        results(impl.FoodOf(v.p, v.a)),
		"CommonOf":      results(impl.CommonOf(v.p, v.a, v.b)),
		"MeetingPairs":  results(impl.MeetingPairs(v.p, v.list)),
		"GreatestReach": results(impl.GreatestReach(v.p, v.list, v.index)),
		"LeastReach":    results(impl.LeastReach(v.p, v.s, v.grass)),
		"UncoveredBy":   results(impl.UncoveredBy(v.p, v.list)),
		"SharedCells":   results(impl.SharedCells(v.p, v.list)),
		"GreedyStakes":  results(impl.GreedyStakes(v.p, v.reach)),
		"MostStakes":    results(impl.MostStakes(v.p, v.reach, v.budget)),
		"CheckApart":    results(impl.CheckApart(v.p, v.reach, v.cells)),
		"StepsReach":    results(impl.StepsReach(v.p, v.s, v.steps)),
		"ValidWalk":     results(impl.ValidWalk(v.p, v.s, v.walk)),
		"WindsOf":       results(impl.WindsOf(v.p, v.s, v.walk)),
		"RopeLeft":      results(impl.RopeLeft(v.p, v.s, v.walk, v.length)),
		"StakesText":    results(impl.StakesText(v.list)),
		"ReadStakes":    results(impl.ReadStakes(v.text)),
	}
}

func TestAllTetherFunctionsAreCalled(t *testing.T) {
	wantAllCalled(t, "l05_tethers.go", callTethers(tetherArguments{}))
}

// pickUpTo returns a number that is mostly 0 to most.
func pickUpTo(r *rand.Rand, most int64) int64 {
	if n := r.Intn(60); n < len(extremes) {
		return extremes[n]
	}
	return []int64{0, 1, 2, most, most + 1, r.Int63n(most + 1), r.Int63n(most + 1)}[r.Intn(7)]
}

func wildStakes(r *rand.Rand) []impl.Stake {
	var list []impl.Stake
	for range r.Intn(15) {
		list = append(list, impl.Stake{At: wildSpot(r), Reach: int16(r.Intn(1 << 16))})
	}
	return list
}

// someTetherArguments returns ordinary and invalid arguments, and the extremes of each.
func someTetherArguments() []tetherArguments {
	r := rand.New(rand.NewSource(57))
	texts := []string{"", " ", "0,0/1 2,1/4", "9,9/200", "x", "0,0/1\n", "\xff", strings.Repeat("9", 5000), strings.Repeat("0,0/1 ", 5000)}
	stakings := someStakings()
	for _, list := range invalidStakes() {
		stakings = append(stakings, staking{grassy(3, 2, func(x, y int) int { return 5 }), list})
	}
	for _, p := range invalidPastures() {
		stakings = append(stakings, staking{p, []impl.Stake{stakeAt(0, 0, 1)}})
	}
	for range 50 {
		stakings = append(stakings, staking{wildPasture(r), wildStakes(r)}, staking{stakings[r.Intn(200)].p, wildStakes(r)})
	}
	var list []tetherArguments
	for i, c := range stakings {
		v := tetherArguments{p: c.p, list: c.list, text: texts[i%len(texts)]}
		v.other = slices.Clone(stakings[max(0, i-r.Intn(2))].list)
		if len(c.list) > 0 {
			v.a, v.b, v.s, v.t = c.list[0], c.list[len(c.list)-1], c.list[0].At, c.list[len(c.list)-1].At
		}
		for _, stake := range c.list {
			v.cells = append(v.cells, stake.At)
		}
		v.index, v.grass, v.reach = pickUpTo(r, 12), pickUpTo(r, 3000), pickUpTo(r, 200)
		v.budget, v.steps, v.length = pickUpTo(r, 2000), pickUpTo(r, 200), pickUpTo(r, 1000)
		if impl.ValidPasture(c.p) {
			v.walk = randomTour(r, c.p, 1+r.Intn(220)).walk
			v.s = randomTour(r, c.p, 0).at
		}
		if i%9 == 0 {
			v.a.At, v.s, v.t = wildSpot(r), wildSpot(r), wildSpot(r)
			v.walk = append(v.walk, v.s)
		}
		list = append(list, v)
	}
	return list
}

// P1: every function returns, and returns equal results for equal arguments, also behind changes of its first ones.
func TestEqualResultsOfTethers(t *testing.T) {
	for i, v := range someTetherArguments() {
		wantEqualResults(t, "arguments "+strconv.Itoa(i), func() map[string][]any { return callTethers(v) })
	}
}

// P1: no argument is modified, its unused capacity included, and no result shares memory with one.
func TestUnchangedStakes(t *testing.T) {
	for i, v := range someTetherArguments() {
		list, checkList := roomFor(t, v.list, stakeAt(-5, 5, -5))
		other, checkOther := roomFor(t, v.other, stakeAt(-5, 5, -5))
		cells, checkCells := roomFor(t, v.cells, spotAt(-5, 5))
		walk, checkWalk := roomFor(t, v.walk, spotAt(-5, 5))
		v.list, v.other, v.cells, v.walk = list, other, cells, walk
		scribbleAll(callTethers(v))
		for _, check := range []func(string){checkList, checkOther, checkCells, checkWalk} {
			check("arguments " + strconv.Itoa(i))
		}
	}
}

// P1: nil and empty lists are equivalent.
func TestNilAndEmptyStakes(t *testing.T) {
	for _, v := range someTetherArguments() {
		empty := v
		v.list, v.other, v.cells, v.walk = nil, nil, nil, nil
		empty.list, empty.other, empty.cells, empty.walk = []impl.Stake{}, []impl.Stake{}, []impl.Spot{}, []impl.Spot{}
		first, second := callTethers(v), callTethers(empty)
		for name, list := range first {
			expect(t, name, list...)(second[name]...)
		}
	}
}

// P1: what a call returns does not depend on what runs beside it, and nothing of it runs on.
func TestStakesBesideEachOther(t *testing.T) {
	before := runtime.NumGoroutine()
	p, _ := impl.PlainPasture(10, 10, 1)
	want := results(impl.MostStakes(p, 16, impl.MaxLooks))
	done := make(chan []any)
	for range 20 {
		go func() { done <- results(impl.MostStakes(p, 16, impl.MaxLooks)) }()
	}
	for range 20 {
		expect(t, "MostStakes", want...)(<-done...)
	}
	for range 20 {
		expectCode(t, "MostStakes", impl.ErrBudget)(impl.MostStakes(p, 1, 10))
	}
	wantNoMoreGoroutines(t, before)
}

func TestManyStakesAndCells(t *testing.T) {
	p, _ := impl.PlainPasture(10, 10, 1)
	list, cells := make([]impl.Stake, 1000000), make([]impl.Spot, 1000000)
	expectCode(t, "MeetingPairs", impl.ErrInvalid)(impl.MeetingPairs(p, list))
	expectCode(t, "GreatestReach", impl.ErrInvalid)(impl.GreatestReach(p, list, 0))
	expectCode(t, "UncoveredBy", impl.ErrInvalid)(impl.UncoveredBy(p, list))
	expectCode(t, "SharedCells", impl.ErrInvalid)(impl.SharedCells(p, list))
	expect(t, "ValidStakes", false)(impl.ValidStakes(p, list))
	expect(t, "StakesText", "")(impl.StakesText(list))
	expect(t, "CheckApart", false, 0)(impl.CheckApart(p, 200, cells))
	cells[len(cells)-1] = spotAt(10, 0)
	expectCode(t, "CheckApart", impl.ErrRange)(impl.CheckApart(p, 200, cells))
	expectCode(t, "WindsOf", impl.ErrState)(impl.WindsOf(p, spotAt(1, 1), cells))
	expectCode(t, "RopeLeft", impl.ErrState)(impl.RopeLeft(p, spotAt(1, 1), cells, 0))
	for _, part := range []string{"0", " ", ",", "/", "0,0/1 ", "0,0/1", "\n", "-"} {
		expectCode(t, part, impl.ErrSyntax)(impl.ReadStakes(strings.Repeat(part, 1000000/len(part))))
	}
}

// Errors are told in their order: a pasture and stakes first, whatever else is wrong.
func TestInvalidStakesComeFirst(t *testing.T) {
	good := tetherArguments{p: examplePasture(t), a: stakeAt(0, 0, 1), b: stakeAt(1, 1, 1), walk: wayOf(0, 1)}
	good.list, good.cells = []impl.Stake{good.a, good.b}, wayOf(0, 0)
	bad := good
	bad.index, bad.grass, bad.reach, bad.budget, bad.steps, bad.length = -1, -1, -1, -1, -1, -1
	bad.s, bad.cells, bad.walk = spotAt(-1, 0), wayOf(-1, 0, -1, 0), nil
	withPasture := []string{
		"ReachOf", "FoodOf", "CommonOf", "MeetingPairs", "GreatestReach", "LeastReach", "UncoveredBy", "SharedCells", "GreedyStakes",
		"MostStakes", "CheckApart", "StepsReach", "WindsOf", "RopeLeft",
	}
	for _, v := range []tetherArguments{good, bad} {
		for name, p := range invalidPastures() {
			u := v
			u.p = p
			called := callTethers(u)
			for _, function := range withPasture {
				expectCode(t, function+" of "+name, impl.ErrInvalid)(called[function]...)
			}
			expect(t, name, false)(called["ValidStakes"]...)
			expect(t, name, false)(called["ValidWalk"]...)
		}
		for name, list := range invalidStakes() {
			u := v
			u.list = list
			called := callTethers(u)
			for _, function := range []string{"MeetingPairs", "GreatestReach", "UncoveredBy", "SharedCells"} {
				expectCode(t, function+" of "+name, impl.ErrInvalid)(called[function]...)
			}
		}
	}
}

// A single stake is valid as a list of one; of two for CommonOf each one is.
func TestInvalidSingleStakes(t *testing.T) {
	p, good := examplePasture(t), stakeAt(0, 0, 1)
	bad := []impl.Stake{stakeAt(0, 0, -1), stakeAt(2, 1, 201), stakeAt(1, 1, -32768), stakeAt(1, 1, 32767)}
	for _, s := range badSpots {
		bad = append(bad, impl.Stake{At: s, Reach: 1})
	}
	for _, s := range bad {
		expectCode(t, "ReachOf", impl.ErrInvalid)(impl.ReachOf(p, s))
		expectCode(t, "FoodOf", impl.ErrInvalid)(impl.FoodOf(p, s))
		expectCode(t, "CommonOf", impl.ErrInvalid)(impl.CommonOf(p, s, good))
		expectCode(t, "CommonOf", impl.ErrInvalid)(impl.CommonOf(p, good, s))
		expectCode(t, "CommonOf", impl.ErrInvalid)(impl.CommonOf(p, s, s))
	}
	for _, reach := range []int{0, 200} {
		_, code := impl.ReachOf(p, stakeAt(2, 1, reach))
		expect(t, "the ends of the range", int64(impl.OK))(code)
	}
}

// Behind what is not valid come cells, reaches and all other numbers, and behind these what is told of a function alone.
func TestRangesOfTethers(t *testing.T) {
	p, here := examplePasture(t), spotAt(0, 0)
	for _, s := range badSpots {
		for _, n := range []int64{-1, 0, 5, 200, 201, 1 << 40} {
			expectCode(t, "LeastReach", impl.ErrRange)(impl.LeastReach(p, s, n))
			expectCode(t, "StepsReach", impl.ErrRange)(impl.StepsReach(p, s, n))
			for _, list := range [][]impl.Spot{{s}, {here, s}, {s, here}, {here, here, s}, {s, s}} {
				expectCode(t, "CheckApart", impl.ErrRange)(impl.CheckApart(p, n, list))
			}
		}
	}
	for _, n := range extremes {
		if n < 0 {
			expectCode(t, "LeastReach", impl.ErrRange)(impl.LeastReach(p, here, n))
		} else {
			expectCode(t, "LeastReach", impl.ErrNotFound)(impl.LeastReach(p, here, n))
		}
	}
	for _, reach := range append(extremes, 201) {
		expectCode(t, "GreedyStakes", impl.ErrRange)(impl.GreedyStakes(p, reach))
		for _, list := range [][]impl.Spot{nil, {here}, {here, here}} {
			expectCode(t, "CheckApart", impl.ErrRange)(impl.CheckApart(p, reach, list))
		}
	}
}

// P12: stakes that do not meet share no cell, and those that meet do.
func TestStakesThatDoNotMeetShareNoCell(t *testing.T) {
	for _, v := range someStakings() {
		pairs, _ := impl.MeetingPairs(v.p, v.list)
		for i, a := range v.list {
			for j, b := range v.list[i+1:] {
				meet := slices.Contains(pairs, [2]int64{int64(i), int64(i + 1 + j)})
				first, _ := impl.ReachOf(v.p, a)
				second, _ := impl.ReachOf(v.p, b)
				common, _ := impl.CommonOf(v.p, a, b)
				expect(t, "common cells", meet, meet)(shareCells(first, second), len(common) > 0)
			}
		}
		shared, _ := impl.SharedCells(v.p, v.list)
		expect(t, "shared cells", len(pairs) > 0)(len(shared) > 0)
	}
}

// wantApart wants stakes with one reach to share no cell.
func wantApart(t *testing.T, name string, p impl.Pasture, reach int64, cells []impl.Spot) {
	t.Helper()
	apart, code := impl.CheckApart(p, reach, cells)
	expect(t, name, true, int64(impl.OK))(apart, code)
	seen := map[impl.Spot]bool{}
	for _, at := range cells {
		reached, _ := impl.ReachOf(p, impl.Stake{At: at, Reach: int16(reach)})
		for _, s := range reached {
			expect(t, name, false)(seen[s])
			seen[s] = true
		}
	}
}

// P12: stakes that are put do not meet: no cell is reached from two of them.
func TestStakesThatArePutShareNoCell(t *testing.T) {
	for i, v := range someStakings() {
		reach := int64([]int{0, 1, 2, 4, 5, i % 201}[i%6])
		greedy, _ := impl.GreedyStakes(v.p, reach)
		wantApart(t, "GreedyStakes", v.p, reach, greedy)
		most, _, _ := impl.MostStakes(v.p, reach, 2000)
		wantApart(t, "MostStakes", v.p, reach, most)
	}
}

// P12: with the greatest reach a stake meets no other one, and with one more it does.
func TestGreatestReachMeetsNone(t *testing.T) {
	for _, v := range someStakings() {
		for i := range v.list {
			greatest, code := impl.GreatestReach(v.p, v.list, int64(i))
			list := slices.Clone(v.list)
			list[i].Reach = int16(greatest)
			expect(t, "greatest", code == impl.OK)(isAlone(v.p, list, i))
			if code == impl.OK && greatest < impl.MaxReach {
				list[i].Reach++
				expect(t, "one more", false)(isAlone(v.p, list, i))
			}
		}
	}
}

func isAlone(p impl.Pasture, list []impl.Stake, index int) bool {
	pairs, _ := impl.MeetingPairs(p, list)
	return !slices.ContainsFunc(pairs, func(pair [2]int64) bool { return slices.Contains(pair[:], int64(index)) })
}

// P13: no more stakes with one reach can stand than the most: of all sets of cells none that is apart has more.
func TestNoMoreStakesThanTheMost(t *testing.T) {
	r := rand.New(rand.NewSource(58))
	for i := range 40 {
		p := randomPasture(r, 1+r.Intn(4), 1+r.Intn(2), i%4)
		reach := int64([]int{0, 1, 2, 4, 9}[i%5])
		most, _, code := impl.MostStakes(p, reach, impl.MaxLooks)
		expect(t, "MostStakes", int64(impl.OK))(code)
		for _, some := range everySet(cellsOf(p)) {
			if apart, _ := impl.CheckApart(p, reach, some); apart && len(some) > len(most) {
				t.Errorf("reach %d: %v can stand, and %v are the most", reach, some, most)
			}
		}
	}
}

// P13: on greater pastures, stakes that are put in any order on the cells that are left are never more.
func TestNoMoreStakesInAnyOrder(t *testing.T) {
	r := rand.New(rand.NewSource(59))
	for _, v := range someStakings() {
		reach := int64([]int{1, 2, 4, 5, 9}[r.Intn(5)])
		most, _, code := impl.MostStakes(v.p, reach, 3000)
		if code == impl.ErrBudget {
			continue
		}
		greedy, _ := impl.GreedyStakes(v.p, reach)
		expect(t, "greedy", true)(len(greedy) <= len(most))
		cells := cellsOf(v.p)
		r.Shuffle(len(cells), func(i, j int) { cells[i], cells[j] = cells[j], cells[i] })
		var some []impl.Spot
		for _, s := range cells {
			if apart, _ := impl.CheckApart(v.p, reach, append(slices.Clone(some), s)); apart {
				some = append(some, s)
			}
		}
		expect(t, "any order", true)(len(some) <= len(most))
	}
}

// With a greater reach no fewer cells are reached: all that were reached before still are.
func TestGreaterReachesReachNoFewerCells(t *testing.T) {
	for i, v := range someStakings() {
		if i%10 > 0 {
			continue
		}
		at := cellsOf(v.p)[i*13%len(cellsOf(v.p))]
		var before []impl.Spot
		for reach := range impl.MaxReach + 1 {
			cells, _ := impl.ReachOf(v.p, impl.Stake{At: at, Reach: int16(reach)})
			kept := slices.DeleteFunc(slices.Clone(cells), func(s impl.Spot) bool { return !slices.Contains(before, s) })
			expect(t, "ReachOf", before)(kept)
			before = cells
		}
		expect(t, "the whole yard", yardByHand(v.p, at))(before)
	}
}

// P14: a walk and the same walk backward wind by opposite numbers, and leave as much of a rope.
func TestBackwardWalksWindByOppositeNumbers(t *testing.T) {
	wound := 0
	for _, v := range someTours() {
		back := backward(v.walk)
		winds, code := impl.WindsOf(v.p, v.at, v.walk)
		other, backCode := impl.WindsOf(v.p, v.at, back)
		expect(t, wordsOf(v.walk), -winds, int64(impl.OK), int64(impl.OK), true)(other, code, backCode, impl.ValidWalk(v.p, v.at, back))
		left, _ := impl.RopeLeft(v.p, v.at, v.walk, 50)
		expect(t, "RopeLeft", left, 0)(impl.RopeLeft(v.p, v.at, back, 50))
		if winds != 0 {
			wound++
		}
	}
	if wound < 50 {
		t.Errorf("%d walks wind", wound)
	}
}

// P14: a walk winds as its parts do in all.
func TestPartsOfWalksSumUp(t *testing.T) {
	for i, v := range someTours() {
		cut := i % len(v.walk)
		whole, _ := impl.WindsOf(v.p, v.at, v.walk)
		first, _ := impl.WindsOf(v.p, v.at, v.walk[:cut+1])
		second, _ := impl.WindsOf(v.p, v.at, v.walk[cut:])
		expect(t, "WindsOf", whole)(first + second)
	}
}
