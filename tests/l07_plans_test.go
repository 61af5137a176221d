package tests

import (
	"math/rand"
	"slices"
	"strconv"
	"testing"

	"loop.example/g01345/impl"
)

func TestExampleOfSeasons(t *testing.T) {
	list := exampleMeadows()
	expect(t, "FirstPlan", []int64{0, 1, 1}, 3, 0)(impl.FirstPlan(list, 4, 3, 3))
	expect(t, "behind the first day", meadowsOf(2, 1, 9, 6, 2, 9), 0)(impl.GrassBehind(list, 4, []int64{0}))
	expect(t, "behind the second day", meadowsOf(3, 1, 9, 4, 2, 9), 0)(impl.GrassBehind(list, 4, []int64{0, 1}))
	expect(t, "behind the third day", meadowsOf(4, 1, 9, 2, 2, 9), 0)(impl.GrassBehind(list, 4, []int64{0, 1, 1}))
	expect(t, "a fourth day", true, 0)(impl.CheckPlan(list, 4, []int64{0, 1, 1, 0}))
	expect(t, "another fourth day", false, 0)(impl.CheckPlan(list, 4, []int64{0, 1, 1, 1}))
	expect(t, "DayBehind", meadowsOf(2, 1, 9, 6, 2, 9), 0)(impl.DayBehind(list, 4, 0))
	expect(t, "GreedyPlan", []int64{0, 1, 1}, 0)(impl.GreedyPlan(list, 4, 3))
	p, sights := pastureOf(t, "1| 1 1"), sightsOf(0, 0, 0, 1, 2, 0)
	for steps := range int64(101) {
		expect(t, "FirstStrange", 1, 0)(impl.FirstStrange(p, sights, steps))
	}
	expect(t, "ExplainedBy", []impl.Hurdle{eastOf(0, 0)}, 0)(impl.ExplainedBy(p, sights, 2))
	expect(t, "ExplainedBy", []impl.Hurdle(nil), 0)(impl.ExplainedBy(p, sights, 1))
}

func TestValidMeadows(t *testing.T) {
	for count := 1; count <= impl.MaxMeadows; count++ {
		expect(t, "as many as can be", true)(impl.ValidMeadows(slices.Repeat(meadowsOf(5, 1, 9), count)))
	}
	for name, list := range invalidMeadows() {
		expect(t, name, false)(impl.ValidMeadows(list))
	}
	for _, v := range someSeasons() {
		expect(t, "some meadows", true)(impl.ValidMeadows(v.list))
	}
}

func TestValidNumbersOfMeadows(t *testing.T) {
	ends := []int{-1, 0, 1, 8, 9, 10, 999, 1000, 1001}
	for _, most := range ends {
		for _, grass := range ends {
			for _, grows := range ends {
				valid := most >= 0 && most <= 1000 && grass >= 0 && grass <= most && grows >= 0 && grows <= most
				list := meadowsOf(grass, grows, most)
				expect(t, "one", valid)(impl.ValidMeadows(list))
				expect(t, "the last one", valid)(impl.ValidMeadows(append(exampleMeadows(), list...)))
			}
		}
	}
}

// Lists are compared as they are, valid or not.
func TestSameMeadows(t *testing.T) {
	lists := [][]impl.Meadow{nil, exampleMeadows(), meadowsOf(4, 2, 9, 5, 1, 9), meadowsOf(5, 1, 9), meadowsOf(4, 1, 9), meadowsOf(5, 2, 9), meadowsOf(5, 1, 8)}
	for _, list := range invalidMeadows() {
		if !slices.ContainsFunc(lists, func(other []impl.Meadow) bool { return slices.Equal(list, other) }) {
			lists = append(lists, list)
		}
	}
	for i, a := range lists {
		for j, b := range lists {
			expect(t, "SameMeadows", i == j)(impl.SameMeadows(a, slices.Clone(b)))
		}
	}
	expect(t, "nil and empty", true)(impl.SameMeadows(nil, []impl.Meadow{}))
}

func TestDayBehind(t *testing.T) {
	for _, v := range []struct {
		list         []impl.Meadow
		need, meadow int64
		want         []impl.Meadow
	}{
		{exampleMeadows(), 1, 1, meadowsOf(6, 1, 9, 5, 2, 9)},
		// Just the need is there; what is bare grows as well.
		{exampleMeadows(), 5, 0, meadowsOf(1, 1, 9, 6, 2, 9)},
		{meadowsOf(1000, 0, 1000), 1000, 0, meadowsOf(0, 0, 1000)},
		{meadowsOf(1000, 1000, 1000), 1000, 0, meadowsOf(1000, 1000, 1000)},
		{meadowsOf(1, 0, 1), 1, 0, meadowsOf(0, 0, 1)},
		// Growth ends at Most, in the meadow that is grazed as well: 9 - 1 + 5 is more than 9, 9 - 6 + 5 is not.
		{meadowsOf(9, 5, 9, 8, 1, 9, 8, 2, 9, 9, 0, 9, 7, 1, 9), 1, 0, meadowsOf(9, 5, 9, 9, 1, 9, 9, 2, 9, 9, 0, 9, 8, 1, 9)},
		{meadowsOf(9, 5, 9, 0, 9, 9), 6, 0, meadowsOf(8, 5, 9, 9, 9, 9)},
		{meadowsOf(999, 1000, 1000, 1000, 1000, 1000), 1, 1, meadowsOf(1000, 1000, 1000, 1000, 1000, 1000)},
		{slices.Repeat(meadowsOf(3, 1, 4), 6), 2, 5, append(slices.Repeat(meadowsOf(4, 1, 4), 5), meadowsOf(2, 1, 4)...)},
	} {
		expect(t, "DayBehind", v.want, 0)(impl.DayBehind(v.list, v.need, v.meadow))
		expect(t, "GrassBehind", v.want, 0)(impl.GrassBehind(v.list, v.need, []int64{v.meadow}))
	}
	for _, v := range []struct {
		list         []impl.Meadow
		need, meadow int64
	}{
		// One less than the need; what would grow on the day is not there yet.
		{exampleMeadows(), 6, 0}, {exampleMeadows(), 5, 1}, {exampleMeadows(), 1000, 0}, {meadowsOf(999, 1, 1000), 1000, 0}, {meadowsOf(0, 9, 9), 1, 0},
		{meadowsOf(9, 9, 9, 0, 0, 0), 1, 1},
	} {
		expectCode(t, "too little", impl.ErrState)(impl.DayBehind(v.list, v.need, v.meadow))
	}
}

func TestDaysOfSeasonsByHand(t *testing.T) {
	for _, v := range someSeasons() {
		for i, m := range v.list {
			for _, need := range []int{1, v.need, int(m.Grass), int(m.Grass) + 1, 1000} {
				if need < 1 || need > 1000 {
					continue
				}
				behind, made := dayByHand(v.list, need, i)
				if made {
					expect(t, "DayBehind", behind, 0)(impl.DayBehind(v.list, int64(need), int64(i)))
				} else {
					expectCode(t, "DayBehind", impl.ErrState)(impl.DayBehind(v.list, int64(need), int64(i)))
				}
			}
		}
	}
}

// wantFollowed wants what three functions tell of a plan.
func wantFollowed(t *testing.T, list []impl.Meadow, need int, plan []int64) {
	t.Helper()
	behind, made := daysByPlan(list, need, plan)
	expect(t, "CheckPlan", made == len(plan), 0)(impl.CheckPlan(list, int64(need), plan))
	if made == len(plan) {
		expectCode(t, "FirstHungry", impl.ErrNotFound)(impl.FirstHungry(list, int64(need), plan))
		expect(t, "GrassBehind", behind, 0)(impl.GrassBehind(list, int64(need), plan))
	} else {
		expect(t, "FirstHungry", made, 0)(impl.FirstHungry(list, int64(need), plan))
		expectCode(t, "GrassBehind", impl.ErrState)(impl.GrassBehind(list, int64(need), plan))
	}
}

func TestAllShortPlans(t *testing.T) {
	for _, list := range [][]impl.Meadow{exampleMeadows(), meadowsOf(5, 0, 9, 4, 2, 4), meadowsOf(3, 3, 3, 7, 1, 8, 0, 9, 9), meadowsOf(6, 2, 7)} {
		for days := range 6 {
			for _, plan := range everyList(days, len(list)) {
				for need := 1; need < 9; need++ {
					wantFollowed(t, list, need, plan)
				}
			}
		}
	}
}

func TestLongPlans(t *testing.T) {
	r := rand.New(rand.NewSource(83))
	for _, v := range someSeasons() {
		var plan []int64
		list := v.list
		need := max(1, v.need/4)
		for range r.Intn(impl.MaxDays + 1) {
			meadow := r.Intn(len(list))
			if behind, made := dayByHand(list, need, meadow); made || r.Intn(10) == 0 {
				plan = append(plan, int64(meadow))
				if made {
					list = behind
				}
			}
		}
		wantFollowed(t, v.list, need, plan)
		wantFollowed(t, v.list, v.need, plan)
	}
}

// A plan of no day changes nothing, and none of it cannot be made.
func TestPlansOfNoDay(t *testing.T) {
	for _, v := range someSeasons() {
		expect(t, "CheckPlan", true, 0)(impl.CheckPlan(v.list, int64(v.need), nil))
		expectCode(t, "FirstHungry", impl.ErrNotFound)(impl.FirstHungry(v.list, int64(v.need), nil))
		expect(t, "GrassBehind", v.list, 0)(impl.GrassBehind(v.list, int64(v.need), nil))
		expect(t, "FirstPlan", []int64(nil), 0, 0)(impl.FirstPlan(v.list, int64(v.need), 0, 0))
		expect(t, "GreedyPlan", []int64(nil), 0)(impl.GreedyPlan(v.list, int64(v.need), 0))
		expect(t, "EnoughFor", true, 0)(impl.EnoughFor(v.list, int64(v.need), 0))
	}
}

// The meadows grow behind the last day too, for it is a day as all others; but this grass comes too late to be eaten.
func TestGrowthBehindTheLastDay(t *testing.T) {
	list := meadowsOf(4, 4, 9)
	expect(t, "one day", meadowsOf(4, 4, 9), 0)(impl.GrassBehind(list, 4, []int64{0}))
	expect(t, "thirty days", meadowsOf(4, 4, 9), 0)(impl.GrassBehind(list, 4, make([]int64, 30)))
	expect(t, "up to Most", meadowsOf(9, 4, 9), 0)(impl.GrassBehind(meadowsOf(9, 4, 9), 3, []int64{0, 0}))
	expect(t, "just enough", true, 0)(impl.EnoughFor(list, 4, 1))
	expect(t, "what grows on the last day is not counted", false, 0)(impl.EnoughFor(list, 5, 1))
	expect(t, "what grows between two days is", true, 0)(impl.EnoughFor(meadowsOf(4, 4, 4), 4, 2))
	expect(t, "that of the second day is not", false, 0)(impl.EnoughFor(meadowsOf(4, 4, 4), 5, 2))
	expect(t, "a plan", true, 0)(impl.CheckPlan(list, 4, make([]int64, 30)))
	// Nothing grows ahead of the first day.
	expect(t, "the first day", 0, 0)(impl.FirstHungry(meadowsOf(3, 4, 9), 4, []int64{0}))
}

func TestFirstHungry(t *testing.T) {
	list := meadowsOf(8, 0, 9, 4, 0, 9)
	for _, v := range []struct {
		plan []int64
		want int64
	}{
		{[]int64{1, 1, 0}, 1}, {[]int64{1, 1}, 1}, {[]int64{0, 0, 0}, 2}, {[]int64{0, 1, 0, 1, 0}, 3}, {[]int64{0, 0, 0, 0, 0}, 2}, {[]int64{1, 0, 1}, 2},
	} {
		expect(t, "FirstHungry", v.want, 0)(impl.FirstHungry(list, 4, v.plan))
		expectCode(t, "GrassBehind", impl.ErrState)(impl.GrassBehind(list, 4, v.plan))
		expect(t, "CheckPlan", false, 0)(impl.CheckPlan(list, 4, v.plan))
	}
	expect(t, "on the first day", 0, 0)(impl.FirstHungry(list, 5, []int64{1, 0}))
	full := meadowsOf(29, 0, 29, 1, 0, 1)
	plan := append(make([]int64, 29), 1)
	expectCode(t, "none of thirty", impl.ErrNotFound)(impl.FirstHungry(full, 1, plan))
	expect(t, "the last of thirty", 29, 0)(impl.FirstHungry(full, 1, make([]int64, 30)))
	plan[14] = 1
	expect(t, "the last of thirty again", 29, 0)(impl.FirstHungry(full, 1, plan))
	plan[20] = 1
	expect(t, "one in the middle", 20, 0)(impl.FirstHungry(full, 1, plan))
}

// wantPlan wants a plan with so many tries, and as many to be the least budget; without a plan, so many tries are made all the same.
func wantPlan(t *testing.T, v season, plan []int64, tries int, code int64) {
	t.Helper()
	name := "need " + strconv.Itoa(v.need) + ", days " + strconv.Itoa(v.days)
	for _, budget := range []int{tries, tries + 1, impl.MaxTries} {
		if budget > impl.MaxTries {
			continue
		}
		got := results(impl.FirstPlan(v.list, int64(v.need), int64(v.days), int64(budget)))
		if code == impl.OK {
			expect(t, name, plan, tries, 0)(got...)
		} else {
			expectCode(t, name, code)(got...)
		}
	}
	for _, budget := range []int{tries - 1, tries / 2, 0} {
		if budget >= 0 && budget < tries {
			expectCode(t, name, impl.ErrBudget)(impl.FirstPlan(v.list, int64(v.need), int64(v.days), int64(budget)))
		}
	}
}

// The tries here are counted on paper: a meadow with too little grass is none.
func TestTries(t *testing.T) {
	wantPlan(t, season{exampleMeadows(), 4, 3}, []int64{0, 1, 1}, 3, impl.OK)
	wantPlan(t, season{exampleMeadows(), 5, 1}, []int64{0}, 1, impl.OK)
	wantPlan(t, season{exampleMeadows(), 6, 1}, nil, 0, impl.ErrNotFound)
	// From 0 one comes to 1 and no farther; from 1 to 0, and behind it 1 has grown.
	back := meadowsOf(5, 0, 9, 4, 2, 4)
	wantPlan(t, season{back, 4, 2}, []int64{0, 1}, 2, impl.OK)
	wantPlan(t, season{back, 4, 3}, []int64{1, 0, 1}, 5, impl.OK)
	wantPlan(t, season{back, 4, 4}, nil, 5, impl.ErrNotFound)
	wantPlan(t, season{back, 4, 30}, nil, 5, impl.ErrNotFound)
	// Each order of six meadows is tried: 6 + 6 * 5 + 6 * 5 * 4 and so on.
	once := slices.Repeat(meadowsOf(10, 0, 10), 6)
	wantPlan(t, season{once, 10, 6}, []int64{0, 1, 2, 3, 4, 5}, 6, impl.OK)
	wantPlan(t, season{once, 10, 7}, nil, 6+30+120+360+720+720, impl.ErrNotFound)
	wantPlan(t, season{once, 5, 12}, []int64{0, 0, 1, 1, 2, 2, 3, 3, 4, 4, 5, 5}, 12, impl.OK)
	wantPlan(t, season{meadowsOf(1000, 1000, 1000), 1000, 30}, make([]int64, 30), 30, impl.OK)
	expectCode(t, "the most tries are not enough", impl.ErrBudget)(impl.FirstPlan(endlessMeadows(), 1, 13, impl.MaxTries))
}

func TestFirstPlanOfAllPlans(t *testing.T) {
	r := rand.New(rand.NewSource(84))
	found, missing, back := 0, 0, 0
	for i := range 2000 {
		need, days := 2+r.Intn(4), r.Intn(7)
		v := season{need: need, days: days}
		for range 1 + i%3 {
			most := need + r.Intn(4)
			grass := most
			if r.Intn(3) == 0 {
				grass = r.Intn(most + 1)
			}
			v.list = append(v.list, meadowsOf(grass, r.Intn(3), most)...)
		}
		plan, tries, ok := firstOfAllPlans(v.list, v.need, v.days)
		if ok {
			wantPlan(t, v, plan, tries, impl.OK)
			found++
		} else {
			wantPlan(t, v, nil, tries, impl.ErrNotFound)
			missing++
		}
		if ok && tries > days {
			back++
		}
	}
	if found < 100 || missing < 100 || back < 20 {
		t.Errorf("%d plans found, %d not, %d by going back", found, missing, back)
	}
}

func TestFirstPlanByHand(t *testing.T) {
	codes := map[int64]int{}
	for _, v := range someSeasons() {
		for _, budget := range []int{0, 1, v.days, 50, 700} {
			plan, tries, code := firstByHand(v.list, v.need, v.days, budget)
			got := results(impl.FirstPlan(v.list, int64(v.need), int64(v.days), int64(budget)))
			if code == impl.OK {
				expect(t, "FirstPlan", plan, tries, 0)(got...)
				wantPlan(t, v, plan, tries, impl.OK)
			} else {
				expectCode(t, "FirstPlan", code)(got...)
			}
			codes[code]++
		}
	}
	if codes[impl.OK] < 100 || codes[impl.ErrNotFound] < 100 || codes[impl.ErrBudget] < 100 {
		t.Errorf("codes %v", codes)
	}
}

func TestGreedyPlan(t *testing.T) {
	expect(t, "the least one of several", []int64{0, 1, 2, 0}, 0)(impl.GreedyPlan(meadowsOf(5, 0, 9, 5, 0, 9, 5, 0, 9, 3, 0, 9), 2, 4))
	expect(t, "the least one of the last ones", []int64{1, 2, 1}, 0)(impl.GreedyPlan(meadowsOf(3, 0, 9, 5, 0, 9, 5, 0, 9), 1, 3))
	expect(t, "the last one", []int64{5, 5, 0}, 0)(impl.GreedyPlan(append(slices.Repeat(meadowsOf(3, 0, 9), 5), meadowsOf(9, 0, 9)...), 3, 3))
	expect(t, "by grass, and not by what grows", []int64{0, 1}, 0)(impl.GreedyPlan(meadowsOf(6, 0, 6, 5, 9, 9), 4, 2))
	// It ends where another plan goes on.
	back := meadowsOf(5, 0, 9, 4, 2, 4)
	expect(t, "two days", []int64{0, 1}, 0)(impl.GreedyPlan(back, 4, 2))
	expectCode(t, "three days", impl.ErrNotFound)(impl.GreedyPlan(back, 4, 3))
	expect(t, "three days of another one", true, 0)(impl.CheckPlan(back, 4, []int64{1, 0, 1}))
	expect(t, "LongestGreedy", 2, 0)(impl.LongestGreedy(back, 4))
	expectCode(t, "no day", impl.ErrNotFound)(impl.GreedyPlan(exampleMeadows(), 6, 1))
}

func TestLongestGreedy(t *testing.T) {
	for _, v := range []struct {
		list []impl.Meadow
		need int64
		want int64
	}{
		{exampleMeadows(), 4, 5}, {exampleMeadows(), 3, 30}, {exampleMeadows(), 6, 0}, {exampleMeadows(), 1000, 0}, {meadowsOf(0, 0, 0), 1, 0},
		{meadowsOf(29, 0, 29), 1, 29}, {meadowsOf(30, 0, 30), 1, 30}, {meadowsOf(31, 0, 31), 1, 30}, {meadowsOf(1000, 1000, 1000), 1000, 30},
		{meadowsOf(0, 9, 9), 1, 0}, {meadowsOf(1, 1, 1), 1, 30},
	} {
		expect(t, "LongestGreedy", v.want, 0)(impl.LongestGreedy(v.list, v.need))
	}
}

func TestGreedyPlansByHand(t *testing.T) {
	for _, v := range someSeasons() {
		all := greedyPlanByHand(v.list, v.need, impl.MaxDays)
		expect(t, "LongestGreedy", len(all), 0)(impl.LongestGreedy(v.list, int64(v.need)))
		for days := range impl.MaxDays + 1 {
			if days <= len(all) {
				expect(t, "GreedyPlan", all[:days], 0)(impl.GreedyPlan(v.list, int64(v.need), int64(days)))
			} else {
				expectCode(t, "GreedyPlan", impl.ErrNotFound)(impl.GreedyPlan(v.list, int64(v.need), int64(days)))
			}
		}
	}
}

func TestEnoughFor(t *testing.T) {
	for _, v := range []struct {
		list       []impl.Meadow
		need, days int64
		want       bool
	}{
		{exampleMeadows(), 1000, 0, true}, {exampleMeadows(), 9, 1, true}, {exampleMeadows(), 10, 1, false}, {exampleMeadows(), 6, 2, true}, {exampleMeadows(), 7, 2, false},
		// 9 and twice 3 are 15; one less is too little.
		{exampleMeadows(), 5, 3, true}, {meadowsOf(4, 1, 9, 4, 2, 9), 5, 3, false}, {exampleMeadows(), 5, 4, false}, {exampleMeadows(), 4, 4, true},
		// Most is no limit here.
		{meadowsOf(9, 9, 9), 9, 30, true}, {meadowsOf(9, 8, 9), 9, 2, false}, {meadowsOf(0, 5, 5), 5, 30, false}, {meadowsOf(0, 6, 6), 5, 6, true}, {meadowsOf(0, 6, 6), 5, 5, false},
		{meadowsOf(0, 0, 0), 1, 0, true}, {meadowsOf(0, 0, 0), 1, 1, false}, {meadowsOf(0, 1000, 1000), 1, 1, false},
		{slices.Repeat(meadowsOf(1000, 1000, 1000), 6), 1000, 30, true}, {meadowsOf(1000, 1000, 1000), 1000, 30, true}, {meadowsOf(999, 1000, 1000), 1000, 30, false},
	} {
		expect(t, "EnoughFor", v.want, 0)(impl.EnoughFor(v.list, v.need, v.days))
	}
	for _, v := range someSeasons() {
		for days := range impl.MaxDays + 1 {
			expect(t, "EnoughFor", enoughByHand(v.list, v.need, days), 0)(impl.EnoughFor(v.list, int64(v.need), int64(days)))
		}
	}
}

func TestGreatestNeed(t *testing.T) {
	back := meadowsOf(5, 0, 9, 4, 2, 4)
	once := slices.Repeat(meadowsOf(10, 0, 10), 6)
	for _, v := range []struct {
		list         []impl.Meadow
		days, budget int64
		want         int64
	}{
		{exampleMeadows(), 1, 1, 5}, {exampleMeadows(), 3, 100, 4}, {meadowsOf(1000, 0, 1000), 1, 1, 1000}, {meadowsOf(1000, 1000, 1000), 30, 30, 1000},
		{meadowsOf(999, 1000, 1000), 30, 30, 999}, {meadowsOf(1, 0, 1), 1, 1, 1}, {meadowsOf(30, 0, 30), 30, 30, 1}, {meadowsOf(0, 0, 0, 7, 0, 7), 1, 1, 7},
		// 4 needs five tries, and 5 a single one.
		{back, 3, 5, 4},
		// 6 has no plan of 7 days, which is known behind 1956 tries.
		{once, 7, 1956, 5}, {once, 7, impl.MaxTries, 5}, {once, 6, 6, 10},
	} {
		expect(t, "GreatestNeed", v.want, 0)(impl.GreatestNeed(v.list, v.days, v.budget))
	}
	for _, v := range []struct {
		list         []impl.Meadow
		days, budget int64
	}{
		// The budget ends at the first need, at the greatest one with a plan, and at the first one without.
		{exampleMeadows(), 1, 0}, {back, 3, 2}, {back, 3, 3}, {back, 3, 4}, {once, 7, 6}, {once, 7, 7}, {once, 7, 1955}, {endlessMeadows(), 13, impl.MaxTries},
		{meadowsOf(1000, 1000, 1000), 30, 29},
	} {
		expectCode(t, "the budget ends", impl.ErrBudget)(impl.GreatestNeed(v.list, v.days, v.budget))
	}
	for _, budget := range []int64{0, 1, impl.MaxTries} {
		expectCode(t, "no grass", impl.ErrNotFound)(impl.GreatestNeed(meadowsOf(0, 9, 9, 0, 0, 0), 1, budget))
	}
	expectCode(t, "too little for 1", impl.ErrNotFound)(impl.GreatestNeed(meadowsOf(29, 0, 30), 30, 30))
	expectCode(t, "unknown for 1", impl.ErrBudget)(impl.GreatestNeed(meadowsOf(29, 0, 30), 30, 28))
}

func TestGreatestNeedByHand(t *testing.T) {
	r := rand.New(rand.NewSource(85))
	for i := range 150 {
		list, days, budget := randomMeadows(r, 1+i%4, 12), 1+r.Intn(6), []int{1, 5, 20, 1000}[r.Intn(4)]
		need, code := 0, int64(impl.OK)
		for code == impl.OK {
			need++
			_, _, code = firstByHand(list, need, days, budget)
		}
		got := results(impl.GreatestNeed(list, int64(days), int64(budget)))
		if code == impl.ErrNotFound && need > 1 {
			expect(t, "GreatestNeed", need-1, 0)(got...)
		} else {
			expectCode(t, "GreatestNeed", code)(got...)
		}
	}
}

func TestRestsOf(t *testing.T) {
	for _, v := range []struct {
		plan   []int64
		meadow int64
		want   []int64
	}{
		{nil, 0, nil}, {[]int64{0}, 0, nil}, {[]int64{1}, 0, nil}, {[]int64{0, 1, 1, 0}, 0, []int64{2}}, {[]int64{0, 1, 1, 0}, 1, []int64{0}},
		{[]int64{0, 1, 1, 0}, 5, nil}, {[]int64{5, 5, 5}, 5, []int64{0, 0}}, {[]int64{1, 0, 2, 3, 0, 0, 4, 0, 1}, 0, []int64{2, 0, 1}}, {[]int64{1, 0, 2}, 0, nil},
		{[]int64{2, 2, 0, 1, 1, 1}, 0, nil}, {[]int64{5, 0, 0, 0, 5}, 5, []int64{3}}, {make([]int64, 30), 0, make([]int64, 29)}, {make([]int64, 30), 1, nil},
		{append(append([]int64{3}, make([]int64, 28)...), 3), 3, []int64{28}},
	} {
		expect(t, "RestsOf", v.want, 0)(impl.RestsOf(v.plan, v.meadow))
	}
	for length := range 6 {
		for _, plan := range everyList(length, 3) {
			for meadow := range int64(3) {
				expect(t, "RestsOf", restsByHand(plan, meadow), 0)(impl.RestsOf(plan, meadow))
			}
		}
	}
	r := rand.New(rand.NewSource(86))
	for range 300 {
		var plan []int64
		for range r.Intn(impl.MaxDays + 1) {
			plan = append(plan, r.Int63n(6))
		}
		meadow := r.Int63n(6)
		expect(t, "RestsOf", restsByHand(plan, meadow), 0)(impl.RestsOf(plan, meadow))
	}
}

func TestRangesOfRests(t *testing.T) {
	for _, bad := range append(extremes, impl.MaxMeadows) {
		for _, plan := range [][]int64{nil, {0}, {0, 5}, {bad}} {
			expectCode(t, "the meadow", impl.ErrRange)(impl.RestsOf(plan, bad))
		}
		for _, plan := range [][]int64{{bad}, {bad, 0, 0}, {0, bad, 0}, {0, 0, bad}, append(make([]int64, 29), bad)} {
			expectCode(t, "a number of the plan", impl.ErrRange)(impl.RestsOf(plan, 0))
		}
	}
	for _, days := range []int{31, 32, 60, 1000} {
		expectCode(t, "too many days", impl.ErrRange)(impl.RestsOf(make([]int64, days), 0))
	}
	expect(t, "the last meadow", []int64{0}, 0)(impl.RestsOf([]int64{impl.MaxMeadows - 1, impl.MaxMeadows - 1}, impl.MaxMeadows-1))
}

func TestMeadowsOf(t *testing.T) {
	p := pastureOf(t, "1| 1 1")
	expect(t, "the example", meadowsOf(1, 2, 1000, 2, 4, 1000), 0)(impl.MeadowsOf(p, 2))
	expect(t, "nothing grows", meadowsOf(1, 0, 1000, 2, 0, 1000), 0)(impl.MeadowsOf(p, 0))
	expect(t, "all that can be", meadowsOf(1, 1000, 1000, 2, 1000, 1000), 0)(impl.MeadowsOf(p, impl.MaxGrass))
	expect(t, "just as much", meadowsOf(1, 500, 1000, 2, 1000, 1000), 0)(impl.MeadowsOf(p, 500))
	expect(t, "more than can be", meadowsOf(1, 501, 1000, 2, 1000, 1000), 0)(impl.MeadowsOf(p, 501))
	expect(t, "one cell", meadowsOf(1000, 7, 1000), 0)(impl.MeadowsOf(pastureOf(t, "1000"), 7))
	expect(t, "much grass", meadowsOf(1000, 4, 1000, 1000, 2, 1000, 999, 2, 1000), 0)(impl.MeadowsOf(pastureOf(t, "999 2| 1000| 998", "0 0| 0| 1"), 1))
	full, _ := impl.PlainPasture(10, 10, 1000)
	expect(t, "all grass", meadowsOf(1000, 1000, 1000), 0)(impl.MeadowsOf(full, 1000))
	expect(t, "all grass", meadowsOf(1000, 900, 1000), 0)(impl.MeadowsOf(full, 9))
	expect(t, "no grass", meadowsOf(0, 0, 1000), 0)(impl.MeadowsOf(pastureOf(t, "0 0", "0 0"), 0))
}

func TestMostMeadowsOfPastures(t *testing.T) {
	six, seven := pastureOf(t, "1| 2| 3| 4| 5| 6"), pastureOf(t, "1| 2| 3| 4| 5| 6| 7")
	expect(t, "six yards", meadowsOf(1, 9, 1000, 2, 9, 1000, 3, 9, 1000, 4, 9, 1000, 5, 9, 1000, 6, 9, 1000), 0)(impl.MeadowsOf(six, 9))
	for _, grows := range []int64{0, 1, 1000} {
		expectCode(t, "seven yards", impl.ErrLimit)(impl.MeadowsOf(seven, grows))
	}
	for _, grows := range append(extremes, impl.MaxGrass+1) {
		expectCode(t, "grows, six yards", impl.ErrRange)(impl.MeadowsOf(six, grows))
		expectCode(t, "grows, seven yards", impl.ErrRange)(impl.MeadowsOf(seven, grows))
	}
}

func TestMeadowsOfAllPastures(t *testing.T) {
	r := rand.New(rand.NewSource(87))
	few := 0
	for _, p := range append(somePastures(), everyFence(2, 3)...) {
		grows := []int{0, 1, 9, 1000, r.Intn(1001)}[r.Intn(5)]
		for _, s := range cellsOf(p) {
			if r.Intn(3) > 0 {
				p.Grass[s.Y][s.X] = int16(r.Intn(60))
			}
		}
		want := meadowsByHand(p, grows)
		if len(want) > impl.MaxMeadows {
			expectCode(t, "MeadowsOf", impl.ErrLimit)(impl.MeadowsOf(p, int64(grows)))
			continue
		}
		list, code := impl.MeadowsOf(p, int64(grows))
		expect(t, "MeadowsOf", want, 0, true)(list, code, impl.ValidMeadows(list))
		few++
	}
	if few < 100 {
		t.Errorf("%d pastures with few yards", few)
	}
}
