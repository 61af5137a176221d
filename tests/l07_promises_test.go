package tests

import (
	"maps"
	"math/rand"
	"os"
	"slices"
	"strconv"
	"strings"
	"testing"

	"loop.example/g01345/impl"
)

// seasonArguments are those of all functions of chapter 7.
type seasonArguments struct {
	list, other  []impl.Meadow
	need, meadow int64
	plan         []int64
	days, budget int64
	p            impl.Pasture
	grows, steps int64
	sights       []impl.Sight
	text         string
}

// callSeasons calls each function of chapter 7.
func callSeasons(v seasonArguments) map[string][]any {
	return map[string][]any{
		"ValidMeadows":  results(impl.ValidMeadows(v.list)),
		"SameMeadows":   results(impl.SameMeadows(v.list, v.other)),
		"DayBehind":     results(impl.DayBehind(v.list, v.need, v.meadow)),
		"CheckPlan":     results(impl.CheckPlan(v.list, v.need, v.plan)),
		"FirstHungry":   results(impl.FirstHungry(v.list, v.need, v.plan)),
		"GrassBehind":   results(impl.GrassBehind(v.list, v.need, v.plan)),
		"FirstPlan":     results(impl.FirstPlan(v.list, v.need, v.days, v.budget)),
		"GreedyPlan":    results(impl.GreedyPlan(v.list, v.need, v.days)),
		"LongestGreedy": results(impl.LongestGreedy(v.list, v.need)),
		"EnoughFor":     results(impl.EnoughFor(v.list, v.need, v.days)),
		"GreatestNeed":  results(impl.GreatestNeed(v.list, v.days, v.budget)),
		"RestsOf":       results(impl.RestsOf(v.plan, v.meadow)),
		"MeadowsOf":     results(impl.MeadowsOf(v.p, v.grows)),
		"ValidSights":   results(impl.ValidSights(v.p, v.sights)),
		"FirstStrange":  results(impl.FirstStrange(v.p, v.sights, v.steps)),
		"ExplainedBy":   results(impl.ExplainedBy(v.p, v.sights, v.steps)),
		"SightsText":    results(impl.SightsText(v.sights)),
		"ReadSights":    results(impl.ReadSights(v.text)),
	}
}

func TestAllSeasonFunctionsAreCalled(t *testing.T) {
	wantAllCalled(t, "l07_seasons.go", callSeasons(seasonArguments{}))
}

// callDocument calls each function of the document, by the file that has it.
func callDocument() map[string]map[string][]any {
	return map[string]map[string][]any{
		"l01_pastures.go": callAll(arguments{}),
		"l02_goats.go":    callGoats(goatArguments{}),
		"l03_fences.go":   callFences(fenceArguments{}),
		"l04_growth.go":   callGrowth(growthArguments{}),
		"l05_tethers.go":  callTethers(tetherArguments{}),
		"l06_herds.go":    callHerds(herdArguments{}),
		"l07_seasons.go":  callSeasons(seasonArguments{}),
	}
}

// P1: the files of the program have no function that the tests of equal results and unchanged arguments leave out.
func TestAllFunctionsOfTheDocumentAreCalled(t *testing.T) {
	called := callDocument()
	for file, list := range called {
		wantAllCalled(t, file, list)
	}
	entries, err := os.ReadDir("../impl")
	if err != nil {
		t.Fatal(err)
	}
	var files []string
	for _, entry := range entries {
		files = append(files, entry.Name())
	}
	expect(t, "files", slices.Sorted(maps.Keys(called)))(files)
}

// wildMeadows are as many as come, with anything in them.
func wildMeadows(r *rand.Rand) []impl.Meadow {
	var list []impl.Meadow
	for range r.Intn(9) {
		list = append(list, meadowsOf(r.Intn(1<<16), r.Intn(1<<16), r.Intn(1<<16))...)
	}
	return list
}

// wildSights are as many as come, with anything in them.
func wildSights(r *rand.Rand) []impl.Sight {
	var list []impl.Sight
	for range r.Intn(45) {
		list = append(list, impl.Sight{Day: int16(r.Intn(1 << 16)), At: wildSpot(r)})
	}
	return list
}

// allMeadows returns valid and invalid ones.
func allMeadows(r *rand.Rand) [][]impl.Meadow {
	var lists [][]impl.Meadow
	for _, v := range someSeasons() {
		lists = append(lists, v.list)
	}
	for _, name := range slices.Sorted(maps.Keys(invalidMeadows())) {
		lists = append(lists, invalidMeadows()[name])
	}
	for range 50 {
		lists = append(lists, wildMeadows(r))
	}
	return lists
}

// allOutlooks returns valid and invalid ones.
func allOutlooks(r *rand.Rand) []outlook {
	list := someOutlooks()
	for _, name := range slices.Sorted(maps.Keys(invalidSights())) {
		list = append(list, outlook{grassy(3, 2, func(x, y int) int { return 5 }), invalidSights()[name], 2})
	}
	for _, name := range slices.Sorted(maps.Keys(invalidPastures())) {
		list = append(list, outlook{invalidPastures()[name], sightsOf(0, 0, 0, 1, 0, 0), 2})
	}
	for range 50 {
		list = append(list, outlook{wildPasture(r), wildSights(r), 2}, outlook{list[r.Intn(200)].p, wildSights(r), 2})
	}
	return list
}

// someSeasonArguments returns ordinary and invalid arguments, and the extremes of each.
func someSeasonArguments() []seasonArguments {
	r := rand.New(rand.NewSource(91))
	texts := []string{"", " ", "0:0,0 1:2,0", "1000:9,9", "1:0,0 0:0,0", "x", "0:0,0\n", "\xff", strings.Repeat("9", 5000), strings.Repeat("0:0,0 ", 5000)}
	lists, outlooks := allMeadows(r), allOutlooks(r)
	var list []seasonArguments
	for i := range max(len(lists), len(outlooks)) {
		o := outlooks[i%len(outlooks)]
		v := seasonArguments{list: lists[i%len(lists)], other: slices.Clone(lists[max(0, i-r.Intn(2))%len(lists)]), text: texts[i%len(texts)], p: o.p, sights: o.list}
		v.need, v.days, v.budget = pickUpTo(r, 20), pickUpTo(r, 6), pickUpTo(r, 300)
		v.meadow, v.grows, v.steps = pickUpTo(r, int64(max(0, len(v.list)-1))), pickUpTo(r, 1000), pickUpTo(r, 5)
		for range r.Intn(8) {
			v.plan = append(v.plan, r.Int63n(int64(max(1, len(v.list)))))
		}
		if i%7 == 0 {
			v.need, v.days, v.budget, v.steps = pickUpTo(r, impl.MaxGrass), pickUpTo(r, impl.MaxDays), pickUpTo(r, impl.MaxTries), pickUpTo(r, 100)
		}
		if i%9 == 0 {
			v.plan = wildNumbers(r, 5)
		}
		list = append(list, v)
	}
	return list
}

// P1: every function returns, and returns equal results for equal arguments, also behind changes of its first ones.
func TestEqualResultsOfSeasons(t *testing.T) {
	for i, v := range someSeasonArguments() {
		wantEqualResults(t, "arguments "+strconv.Itoa(i), func() map[string][]any { return callSeasons(v) })
	}
}

// P1: no argument is modified, its unused capacity included, and no result shares memory with one.
func TestUnchangedSeasons(t *testing.T) {
	for i, v := range someSeasonArguments() {
		list, checkList := roomFor(t, v.list, impl.Meadow{Grass: -5, Grows: 5, Most: -5})
		other, checkOther := roomFor(t, v.other, impl.Meadow{Grass: -5, Grows: 5, Most: -5})
		plan, checkPlan := roomFor(t, v.plan, -5)
		sights, checkSights := roomFor(t, v.sights, impl.Sight{Day: -5, At: spotAt(-5, 5)})
		v.list, v.other, v.plan, v.sights = list, other, plan, sights
		scribbleAll(callSeasons(v))
		for _, check := range []func(string){checkList, checkOther, checkPlan, checkSights} {
			check("arguments " + strconv.Itoa(i))
		}
	}
}

// P1: the meadows behind a plan of no day are new ones as well.
func TestMeadowsBehindNoDayAreNew(t *testing.T) {
	list := exampleMeadows()
	behind, _ := impl.GrassBehind(list, 4, nil)
	overwrite(behind, impl.Meadow{Grass: 77})
	expect(t, "the argument", exampleMeadows())(list)
}

// P1: nil and empty lists are equivalent.
func TestNilAndEmptySeasons(t *testing.T) {
	for _, v := range someSeasonArguments() {
		empty := v
		v.plan, v.sights, v.other = nil, nil, nil
		empty.plan, empty.sights, empty.other = []int64{}, []impl.Sight{}, []impl.Meadow{}
		for range 2 {
			first, second := callSeasons(v), callSeasons(empty)
			for name, list := range first {
				expect(t, name, list...)(second[name]...)
			}
			v.list, empty.list = nil, []impl.Meadow{}
		}
	}
}

func TestMillionsOfSeasons(t *testing.T) {
	million := 1000000
	many, plan, sights := make([]impl.Meadow, million), make([]int64, million), make([]impl.Sight, million)
	list, p := meadowsOf(1000, 1000, 1000), grassy(10, 10, func(x, y int) int { return 1 })
	expect(t, "ValidMeadows", false)(impl.ValidMeadows(many))
	expect(t, "SameMeadows", true)(impl.SameMeadows(many, slices.Clone(many)))
	expectCode(t, "FirstPlan", impl.ErrInvalid)(impl.FirstPlan(many, 1, 1, 1))
	expectCode(t, "GreatestNeed", impl.ErrInvalid)(impl.GreatestNeed(many, 1, 1))
	expectCode(t, "CheckPlan", impl.ErrRange)(impl.CheckPlan(list, 1, plan))
	expectCode(t, "FirstHungry", impl.ErrRange)(impl.FirstHungry(list, 1, plan))
	expectCode(t, "GrassBehind", impl.ErrRange)(impl.GrassBehind(list, 1, plan))
	expectCode(t, "RestsOf", impl.ErrRange)(impl.RestsOf(plan, 0))
	expect(t, "ValidSights", false)(impl.ValidSights(p, sights))
	expectCode(t, "FirstStrange", impl.ErrInvalid)(impl.FirstStrange(p, sights, 1))
	expectCode(t, "ExplainedBy", impl.ErrInvalid)(impl.ExplainedBy(p, sights, 1))
	expect(t, "SightsText", "")(impl.SightsText(sights))
	for _, part := range []string{"0", " ", ",", ":", "0:0,0 ", "0:0,0", "\n", "-", "0:"} {
		expectCode(t, part, impl.ErrSyntax)(impl.ReadSights(strings.Repeat(part, million/len(part))))
	}
}

// Errors are told in their order: meadows, a pasture and sights first, whatever else is wrong.
func TestInvalidSeasonsComeFirst(t *testing.T) {
	good := seasonArguments{list: exampleMeadows(), need: 4, plan: []int64{0, 1}, days: 2, budget: 9, p: examplePasture(t), grows: 1, steps: 1, sights: sightsOf(0, 0, 0)}
	bad := good
	bad.need, bad.meadow, bad.plan, bad.days, bad.budget, bad.grows, bad.steps = -1, -1, []int64{-1}, -1, -1, -1, -1
	none := good
	none.need, none.days, none.plan = 0, 0, make([]int64, 31)
	withMeadows := []string{"DayBehind", "CheckPlan", "FirstHungry", "GrassBehind", "FirstPlan", "GreedyPlan", "LongestGreedy", "EnoughFor", "GreatestNeed"}
	for _, v := range []seasonArguments{good, bad, none} {
		for name, list := range invalidMeadows() {
			u := v
			u.list = list
			called := callSeasons(u)
			for _, function := range withMeadows {
				expectCode(t, function+" of "+name, impl.ErrInvalid)(called[function]...)
			}
		}
		for name, p := range invalidPastures() {
			u := v
			u.p = p
			called := callSeasons(u)
			for _, function := range []string{"MeadowsOf", "FirstStrange", "ExplainedBy"} {
				expectCode(t, function+" of "+name, impl.ErrInvalid)(called[function]...)
			}
			expect(t, name, false)(called["ValidSights"]...)
		}
		for name, sights := range invalidSights() {
			u := v
			u.sights = sights
			called := callSeasons(u)
			for _, function := range []string{"FirstStrange", "ExplainedBy"} {
				expectCode(t, function+" of "+name, impl.ErrInvalid)(called[function]...)
			}
		}
	}
}

// A need that is out of its range is told ahead of all that comes of days.
func TestRangesOfNeeds(t *testing.T) {
	for _, need := range append(extremes, 0, impl.MaxGrass+1) {
		for _, list := range [][]impl.Meadow{exampleMeadows(), meadowsOf(0, 0, 0), meadowsOf(1000, 1000, 1000)} {
			for _, n := range []int64{0, 1, 7, -1, 31} {
				expectCode(t, "DayBehind", impl.ErrRange)(impl.DayBehind(list, need, n))
				expectCode(t, "FirstPlan", impl.ErrRange)(impl.FirstPlan(list, need, n, 0))
				expectCode(t, "FirstPlan", impl.ErrRange)(impl.FirstPlan(list, need, n, 100))
				expectCode(t, "GreedyPlan", impl.ErrRange)(impl.GreedyPlan(list, need, n))
				expectCode(t, "EnoughFor", impl.ErrRange)(impl.EnoughFor(list, need, n))
			}
			for _, plan := range [][]int64{nil, {0}, {0, 0, 0}, {9}} {
				expectCode(t, "CheckPlan", impl.ErrRange)(impl.CheckPlan(list, need, plan))
				expectCode(t, "FirstHungry", impl.ErrRange)(impl.FirstHungry(list, need, plan))
				expectCode(t, "GrassBehind", impl.ErrRange)(impl.GrassBehind(list, need, plan))
			}
			expectCode(t, "LongestGreedy", impl.ErrRange)(impl.LongestGreedy(list, need))
		}
	}
	expect(t, "the least need", true, 0)(impl.CheckPlan(meadowsOf(1, 0, 1), 1, []int64{0}))
	expect(t, "the greatest need", true, 0)(impl.CheckPlan(meadowsOf(1000, 0, 1000), impl.MaxGrass, []int64{0}))
}

// A number that is no meadow is told ahead of a day that cannot be made, wherever both are.
func TestRangesOfPlans(t *testing.T) {
	list := exampleMeadows()
	plans := [][]int64{make([]int64, 31), make([]int64, 32), make([]int64, 1000)}
	for _, bad := range append(extremes, 2, 5, 6) {
		plans = append(plans, []int64{bad}, []int64{bad, 0, 1}, []int64{0, bad, 1}, []int64{0, 1, bad}, []int64{0, 0, 0, 0, bad}, append(make([]int64, 29), bad))
		for _, need := range []int64{1, 4, 5, 6, 1000} {
			expectCode(t, "DayBehind", impl.ErrRange)(impl.DayBehind(list, need, bad))
		}
	}
	for _, plan := range plans {
		for _, need := range []int64{1, 4, 5, 6, 1000} {
			expectCode(t, "CheckPlan", impl.ErrRange)(impl.CheckPlan(list, need, plan))
			expectCode(t, "FirstHungry", impl.ErrRange)(impl.FirstHungry(list, need, plan))
			expectCode(t, "GrassBehind", impl.ErrRange)(impl.GrassBehind(list, need, plan))
		}
	}
	expect(t, "thirty days", true, 0)(impl.CheckPlan(meadowsOf(30, 0, 30), 1, make([]int64, 30)))
	expect(t, "the last meadow", true, 0)(impl.CheckPlan(slices.Repeat(list, 3), 4, []int64{5}))
	expectCode(t, "a day that cannot be made", impl.ErrState)(impl.DayBehind(list, 6, 1))
}

// Days and budgets are told ahead of tries.
func TestRangesOfDaysAndBudgets(t *testing.T) {
	for _, list := range [][]impl.Meadow{exampleMeadows(), meadowsOf(0, 0, 0), meadowsOf(1000, 1000, 1000)} {
		for _, days := range append(extremes, impl.MaxDays+1) {
			for _, budget := range []int64{-1, 0, 5, impl.MaxTries, impl.MaxTries + 1} {
				expectCode(t, "FirstPlan", impl.ErrRange)(impl.FirstPlan(list, 4, days, budget))
				expectCode(t, "GreatestNeed", impl.ErrRange)(impl.GreatestNeed(list, days, budget))
				expectCode(t, "GreatestNeed", impl.ErrRange)(impl.GreatestNeed(list, 0, budget))
			}
			for _, need := range []int64{1, 4, 1000} {
				expectCode(t, "GreedyPlan", impl.ErrRange)(impl.GreedyPlan(list, need, days))
				expectCode(t, "EnoughFor", impl.ErrRange)(impl.EnoughFor(list, need, days))
			}
		}
		for _, budget := range append(extremes, impl.MaxTries+1) {
			for _, days := range []int64{0, 1, 30} {
				expectCode(t, "FirstPlan", impl.ErrRange)(impl.FirstPlan(list, 4, days, budget))
				expectCode(t, "GreatestNeed", impl.ErrRange)(impl.GreatestNeed(list, days, budget))
			}
		}
	}
	rich := meadowsOf(1000, 1000, 1000)
	expect(t, "the most days", make([]int64, 30), 30, 0)(impl.FirstPlan(rich, 1000, impl.MaxDays, impl.MaxTries))
	expect(t, "the most days", make([]int64, 30), 0)(impl.GreedyPlan(rich, 1000, impl.MaxDays))
	expectCode(t, "no tries", impl.ErrBudget)(impl.FirstPlan(rich, 1000, 1, 0))
	expectCode(t, "no tries, and no meadow to try", impl.ErrNotFound)(impl.FirstPlan(meadowsOf(999, 1, 1000), 1000, 1, 0))
}

// wantMade wants each day of a plan to be made, by DayBehind and by all functions with a plan.
func wantMade(t *testing.T, list []impl.Meadow, need int64, plan []int64) {
	t.Helper()
	expect(t, "CheckPlan", true, 0)(impl.CheckPlan(list, need, plan))
	expectCode(t, "FirstHungry", impl.ErrNotFound)(impl.FirstHungry(list, need, plan))
	expect(t, "by hand", true)(isAccepted(list, int(need), plan))
	behind := list
	for _, meadow := range plan {
		var code int64
		behind, code = impl.DayBehind(behind, need, meadow)
		expect(t, "DayBehind", int64(impl.OK), true)(code, impl.ValidMeadows(behind))
	}
	expect(t, "GrassBehind", behind, 0)(impl.GrassBehind(list, need, plan))
}

// P17: a plan that is found is accepted, and has so many days; a greedy one is accepted as well.
func TestPlansThatAreFoundAreAccepted(t *testing.T) {
	found, greedy := 0, 0
	for _, v := range someSeasons() {
		need, days := int64(v.need), int64(v.days)
		if plan, tries, code := impl.FirstPlan(v.list, need, days, 2000); code == impl.OK {
			wantMade(t, v.list, need, plan)
			expect(t, "days", v.days, true)(int64(len(plan)), tries >= days)
			found++
		}
		if plan, code := impl.GreedyPlan(v.list, need, days); code == impl.OK {
			wantMade(t, v.list, need, plan)
			expect(t, "days", v.days)(int64(len(plan)))
			// Where a greedy plan is, another search finds one too.
			_, _, code := impl.FirstPlan(v.list, need, days, impl.MaxTries)
			expect(t, "FirstPlan", true)(code == impl.OK || code == impl.ErrBudget)
			greedy++
		}
		longest, _ := impl.LongestGreedy(v.list, need)
		plan, _ := impl.GreedyPlan(v.list, need, longest)
		wantMade(t, v.list, need, plan)
	}
	if found < 100 || greedy < 100 {
		t.Errorf("%d plans found, %d greedy ones", found, greedy)
	}
}

// P17: where there is not enough there is no plan, whichever it is.
func TestNoPlanWithoutEnough(t *testing.T) {
	missing := 0
	for _, v := range someSeasons() {
		need, days := int64(v.need), int64(v.days)
		enough, _ := impl.EnoughFor(v.list, need, days)
		if enough {
			continue
		}
		missing++
		_, _, code := impl.FirstPlan(v.list, need, days, impl.MaxTries)
		expect(t, "FirstPlan", true)(code == impl.ErrNotFound || code == impl.ErrBudget)
		expectCode(t, "GreedyPlan", impl.ErrNotFound)(impl.GreedyPlan(v.list, need, days))
		if v.days > 5 || len(v.list) > 3 {
			continue
		}
		expect(t, "FirstPlan", int64(impl.ErrNotFound))(code)
		for _, plan := range everyList(v.days, len(v.list)) {
			expect(t, "CheckPlan", false, 0)(impl.CheckPlan(v.list, need, plan))
		}
	}
	if missing < 20 {
		t.Errorf("%d seasons without enough", missing)
	}
}

// P17: for the greatest need there is a plan, and for one more there is none.
func TestGreatestNeedHasAPlan(t *testing.T) {
	for _, v := range someSeasons() {
		days := int64(max(1, v.days))
		need, code := impl.GreatestNeed(v.list, days, 500)
		if code != impl.OK {
			continue
		}
		plan, _, code := impl.FirstPlan(v.list, need, days, 500)
		expect(t, "the greatest need", int64(impl.OK))(code)
		wantMade(t, v.list, need, plan)
		if need < impl.MaxGrass {
			expectCode(t, "one more", impl.ErrNotFound)(impl.FirstPlan(v.list, need+1, days, 500))
		}
	}
}

// P17: the rests of all meadows and their days are all days of a plan, from the first one to the last one of each.
func TestRestsOfFoundPlans(t *testing.T) {
	for _, v := range someSeasons() {
		plan, _, _ := impl.FirstPlan(v.list, int64(v.need), int64(v.days), 500)
		for meadow := range int64(len(v.list)) {
			rests, _ := impl.RestsOf(plan, meadow)
			first, last := slices.Index(plan, meadow), -1
			for d, given := range plan {
				if given == meadow {
					last = d
				}
			}
			if first < 0 {
				expect(t, "RestsOf", []int64(nil))(rests)
			} else {
				expect(t, "RestsOf", last-first)(sumOf(rests) + int64(len(rests)))
			}
		}
	}
}

// P18: without a hurdle that explains them no sight is strange any more, and without each other one there still is one.
func TestSightsThatAreExplainedAreNotStrange(t *testing.T) {
	explained, left := 0, 0
	for _, v := range someOutlooks() {
		steps := int64(v.steps)
		by, code := impl.ExplainedBy(v.p, v.list, steps)
		if code != impl.OK {
			continue
		}
		standing, _ := impl.HurdlesOf(v.p)
		for _, h := range standing {
			rest, _ := impl.TakeHurdles(v.p, []impl.Hurdle{h})
			_, code := impl.FirstStrange(rest, v.list, steps)
			if slices.Contains(by, h) {
				expect(t, "explained", int64(impl.ErrNotFound))(code)
				explained++
			} else {
				expect(t, "not explained", int64(impl.OK))(code)
				left++
			}
		}
		kept := slices.DeleteFunc(slices.Clone(by), func(h impl.Hurdle) bool { return !slices.Contains(standing, h) })
		expect(t, "hurdles that stand, in their order", by, true)(kept, slices.IsSortedFunc(by, func(a, b impl.Hurdle) int {
			return slices.Index(standing, a) - slices.Index(standing, b)
		}))
	}
	if explained < 50 || left < 50 {
		t.Errorf("%d hurdles explain, %d do not", explained, left)
	}
}

// P18: sights are read from their texts, and are as strange as before.
func TestSightsAreReadFromTheirTexts(t *testing.T) {
	for _, v := range someOutlooks() {
		read, code := impl.ReadSights(impl.SightsText(v.list))
		expect(t, "ReadSights", v.list, int64(impl.OK))(read, code)
		expect(t, "FirstStrange", results(impl.FirstStrange(v.p, v.list, int64(v.steps)))...)(impl.FirstStrange(v.p, read, int64(v.steps)))
	}
}
