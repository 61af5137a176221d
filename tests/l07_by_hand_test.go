package tests

import (
	"math/rand"
	"slices"
	"strconv"
	"strings"

	"loop.example/g01345/impl"
)

// The helpers here make each day, unit by unit, by the words of the document, so that the program is not tested against itself.

// meadowsOf returns the meadows that have Grass, Grows and Most as numbers tell, three for each.
func meadowsOf(numbers ...int) []impl.Meadow {
	var list []impl.Meadow
	for i := 0; i < len(numbers); i += 3 {
		list = append(list, impl.Meadow{Grass: int16(numbers[i]), Grows: int16(numbers[i+1]), Most: int16(numbers[i+2])})
	}
	return list
}

func exampleMeadows() []impl.Meadow { return meadowsOf(5, 1, 9, 4, 2, 9) }

// dayByHand returns the meadows behind a day; false if it cannot be made.
func dayByHand(list []impl.Meadow, need, meadow int) ([]impl.Meadow, bool) {
	behind := slices.Clone(list)
	for range need {
		if behind[meadow].Grass == 0 {
			return nil, false
		}
		behind[meadow].Grass--
	}
	for i, m := range behind {
		for more := m.Grows; more > 0 && behind[i].Grass < m.Most; more-- {
			behind[i].Grass++
		}
	}
	return behind, true
}

// daysByPlan makes the days of a plan until one cannot be, and returns the meadows behind them, and how many they are.
func daysByPlan(list []impl.Meadow, need int, plan []int64) ([]impl.Meadow, int) {
	for d, meadow := range plan {
		behind, made := dayByHand(list, need, int(meadow))
		if !made {
			return list, d
		}
		list = behind
	}
	return list, len(plan)
}

func isAccepted(list []impl.Meadow, need int, plan []int64) bool {
	_, made := daysByPlan(list, need, plan)
	return made == len(plan)
}

// firstOfAllPlans tries all plans of so many days: the first one that is accepted is found, and each beginning of a plan up to it that is accepted is a try.
func firstOfAllPlans(list []impl.Meadow, need, days int) (plan []int64, tries int, found bool) {
	for _, all := range everyList(days, len(list)) {
		if isAccepted(list, need, all) {
			plan, found = all, true
			break
		}
	}
	for length := 1; length <= days; length++ {
		for _, begun := range everyList(length, len(list)) {
			if isAccepted(list, need, begun) && (!found || slices.Compare(begun, plan) <= 0) {
				tries++
			}
		}
	}
	return plan, tries, found
}

// firstByHand goes on with the last number of a plan, or back if there is none, as an odometer does.
func firstByHand(list []impl.Meadow, need, days, budget int) (plan []int64, tries int, code int64) {
	next := int64(0)
	for len(plan) < days {
		if next == int64(len(list)) {
			last := len(plan) - 1
			if last < 0 {
				return nil, 0, impl.ErrNotFound
			}
			plan, next = plan[:last], plan[last]+1
			continue
		}
		longer := append(slices.Clone(plan), next)
		if !isAccepted(list, need, longer) {
			next++
			continue
		}
		if tries == budget {
			return nil, 0, impl.ErrBudget
		}
		tries++
		plan, next = longer, 0
	}
	return plan, tries, impl.OK
}

// greedyPlanByHand returns the greedy plan of at most so many days.
func greedyPlanByHand(list []impl.Meadow, need, days int) []int64 {
	var plan []int64
	for len(plan) < days {
		best := 0
		for i, m := range list {
			if m.Grass > list[best].Grass {
				best = i
			}
		}
		behind, made := dayByHand(list, need, best)
		if !made {
			break
		}
		list = behind
		plan = append(plan, int64(best))
	}
	return plan
}

// enoughByHand counts what there is on the first day, and what grows ahead of each other one.
func enoughByHand(list []impl.Meadow, need, days int) bool {
	rest := 0
	for d := range days {
		for _, m := range list {
			if d == 0 {
				rest += int(m.Grass)
			} else {
				rest += int(m.Grows)
			}
		}
	}
	return rest >= need*days
}

// restsByHand counts for each two days of a plan in a meadow, none between them, those between them.
func restsByHand(plan []int64, meadow int64) []int64 {
	var rests []int64
	for i := range plan {
		for j := i + 1; j < len(plan) && plan[i] == meadow; j++ {
			if plan[j] == meadow {
				rests = append(rests, int64(j-i-1))
				break
			}
		}
	}
	return rests
}

// capped returns a number, but at most 1000.
func capped(number int) int16 {
	if number > 1000 {
		return 1000
	}
	return int16(number)
}

func meadowsByHand(p impl.Pasture, grows int) []impl.Meadow {
	var list []impl.Meadow
	for _, yard := range yardsByHand(p) {
		grass, more := 0, 0
		for _, s := range yard {
			grass += grassAt(p, s)
			more += grows
		}
		list = append(list, impl.Meadow{Grass: capped(grass), Grows: capped(more), Most: 1000})
	}
	return list
}

// season is meadows, and a herd that needs so much on each of some days.
type season struct {
	list []impl.Meadow
	need int
	days int
}

// randomMeadows have at most so much grass.
func randomMeadows(r *rand.Rand, count, most int) []impl.Meadow {
	var list []impl.Meadow
	for range count {
		up := r.Intn(most + 1)
		grows := r.Intn(up + 1)
		if r.Intn(2) == 0 {
			grows = r.Intn(up/4 + 1)
		}
		list = append(list, meadowsOf([]int{r.Intn(up + 1), up, 0}[r.Intn(3)], grows, up)...)
	}
	return list
}

// someSeasons returns valid ones, with one meadow to MaxMeadows, and needs from 1 to more than there ever is.
func someSeasons() []season {
	r := rand.New(rand.NewSource(81))
	list := []season{
		{exampleMeadows(), 4, 3}, {exampleMeadows(), 4, 30}, {meadowsOf(0, 0, 0), 1, 1}, {meadowsOf(1000, 1000, 1000), 1000, 30},
		{slices.Repeat(meadowsOf(10, 0, 10), 6), 10, 6}, {slices.Repeat(meadowsOf(10, 0, 10), 6), 10, 7}, {endlessMeadows(), 1, 13},
	}
	for i := range 400 {
		count := 1 + i%impl.MaxMeadows
		most := []int{6, 9, 15, 40, 200, 1000}[r.Intn(6)]
		v := season{list: randomMeadows(r, count, most), days: r.Intn(9)}
		if i%5 == 0 {
			v.days = r.Intn(impl.MaxDays + 1)
		}
		grass := 0
		for _, m := range v.list {
			grass += int(m.Grass) + int(m.Grows)*max(0, v.days-1)
		}
		// About what there is enough of.
		v.need = max(1, min(1000, grass/max(1, v.days)*(2+r.Intn(9))/10))
		list = append(list, v)
	}
	return list
}

// endlessMeadows have 12 days for a need of 1, in so many orders that no budget is enough to try them all.
func endlessMeadows() []impl.Meadow { return slices.Repeat(meadowsOf(2, 0, 2), 6) }

// invalidMeadows returns meadows that are not valid, each for one reason.
func invalidMeadows() map[string][]impl.Meadow {
	list := map[string][]impl.Meadow{
		"none":         nil,
		"one too many": slices.Repeat(meadowsOf(5, 1, 9), 7),
		"many":         slices.Repeat(meadowsOf(5, 1, 9), 100),
	}
	for _, bad := range [][]int{
		{0, 0, -1}, {0, 0, 1001}, {5, 1, 1001}, {-1, -1, -1}, {0, 0, -32768}, {32767, 32767, 32767}, {-1, 0, 9}, {0, -1, 9}, {10, 1, 9}, {5, 10, 9}, {1, 0, 0},
		{0, 1, 0}, {1001, 0, 1000}, {0, 1001, 1000}, {-32768, 0, 1000}, {0, -32768, 1000}, {1001, 1001, 1001},
	} {
		name := strings.Join([]string{strconv.Itoa(bad[0]), strconv.Itoa(bad[1]), strconv.Itoa(bad[2])}, " ")
		list[name] = meadowsOf(bad...)
		list[name+", first"] = append(meadowsOf(bad...), exampleMeadows()...)
		list[name+", last"] = append(slices.Repeat(exampleMeadows(), 2), meadowsOf(bad...)...)
	}
	return list
}

// sightsOf returns the sights that have Day, X and Y as numbers tell, three for each.
func sightsOf(numbers ...int) []impl.Sight {
	var list []impl.Sight
	for i := 0; i < len(numbers); i += 3 {
		list = append(list, impl.Sight{Day: int16(numbers[i]), At: spotAt(numbers[i+1], numbers[i+2])})
	}
	return list
}

// strangeByHand returns the index of the first strange sight, -1 if there is none.
func strangeByHand(p impl.Pasture, list []impl.Sight, steps int) int {
	for i := 1; i < len(list); i++ {
		far, found := ringsFrom(p, list[i-1].At)[list[i].At]
		days := int(list[i].Day) - int(list[i-1].Day)
		if !found || far > steps*days {
			return i
		}
	}
	return -1
}

// explainedByHand returns the hurdles each one of which, taken away alone, leaves no sight strange.
func explainedByHand(p impl.Pasture, list []impl.Sight, steps int) []impl.Hurdle {
	var by []impl.Hurdle
	for _, h := range sidesThat(p, true) {
		if strangeByHand(unfence(p, linkOf(h)), list, steps) < 0 {
			by = append(by, h)
		}
	}
	return by
}

func sightsByHand(list []impl.Sight) string {
	var words []string
	for _, s := range list {
		words = append(words, strconv.Itoa(int(s.Day))+":"+wordOf(s.At))
	}
	return strings.Join(words, " ")
}

// outlook is sights on a pasture, and how many steps the goat goes a day.
type outlook struct {
	p     impl.Pasture
	list  []impl.Sight
	steps int
}

// walkedOn returns an outlook none of which is strange: the goat goes from cell to cell, and days go by.
func walkedOn(r *rand.Rand, p impl.Pasture, count int) outlook {
	v := outlook{p: p, steps: 1 + r.Intn(4)}
	cells := cellsOf(p)
	here, day := cells[r.Intn(len(cells))], r.Intn(50)
	for range count {
		v.list = append(v.list, impl.Sight{Day: int16(day), At: here})
		days := r.Intn(4)
		for range v.steps * days {
			if next := openTo(p, here); len(next) > 0 {
				here = next[r.Intn(len(next))]
			}
		}
		day += days
	}
	return v
}

// someOutlooks returns valid ones, with no sights to MaxSights: those that are walked, then hurdles are put, or sights are changed.
func someOutlooks() []outlook {
	r := rand.New(rand.NewSource(82))
	list := []outlook{
		{pastureOfRow(), sightsOf(0, 0, 0, 1, 2, 0), 2}, {pastureOfRow(), sightsOf(0, 0, 0, 1, 2, 0), 1}, {pastureOfRow(), nil, 0},
		{pastureOfRow(), sightsOf(7, 2, 0), 0},
	}
	for i, p := range somePastures() {
		v := walkedOn(r, p, i%(impl.MaxSights+1))
		switch i % 5 {
		case 1, 2: // Ways become longer, or end.
			for _, side := range sidesIn(p) {
				if r.Intn(20) == 0 {
					v.p = fence(v.p, side)
				}
			}
		case 3:
			v.steps = max(0, v.steps-1)
		case 4:
			if len(v.list) > 0 {
				cells := cellsOf(p)
				v.list[r.Intn(len(v.list))].At = cells[r.Intn(len(cells))]
			}
		}
		list = append(list, v)
	}
	for range 200 {
		p := randomPasture(r, 2+r.Intn(3), 2+r.Intn(3), 2)
		v := walkedOn(r, p, 2+r.Intn(4))
		sides := sidesIn(p)
		for range 1 + r.Intn(3) {
			v.p = fence(v.p, sides[r.Intn(len(sides))])
		}
		list = append(list, v)
	}
	return list
}

// pastureOfRow is that of the example, with the row "1| 1 1".
func pastureOfRow() impl.Pasture {
	return fence(grassy(3, 1, func(x, y int) int { return 1 }), link{spotAt(0, 0), spotAt(1, 0)})
}

// invalidSights returns sights that are not valid on a pasture of 3 by 2 cells, each for one reason.
func invalidSights() map[string][]impl.Sight {
	list := map[string][]impl.Sight{
		"one too many":         slices.Repeat(sightsOf(5, 1, 1), 41),
		"many":                 slices.Repeat(sightsOf(5, 1, 1), 1000),
		"days that go down":    sightsOf(5, 0, 0, 4, 0, 0),
		"days that go to 0":    sightsOf(0, 0, 0, 1, 0, 0, 0, 0, 0),
		"days that go down, 3": sightsOf(5, 0, 0, 5, 0, 0, 1000, 0, 0, 999, 0, 0),
	}
	for _, day := range []int{-1, 1001, -32768, 32767} {
		name := "day " + strconv.Itoa(day)
		list[name] = sightsOf(day, 0, 0)
		list[name+", first"] = sightsOf(day, 0, 0, 1000, 0, 0)
		list[name+", last"] = sightsOf(0, 0, 0, day, 0, 0)
	}
	for i, s := range badSpots {
		name := "spot " + strconv.Itoa(i)
		list[name] = []impl.Sight{{Day: 5, At: s}}
		list[name+", first"] = []impl.Sight{{At: s}, {At: spotAt(0, 0)}}
		list[name+", last"] = []impl.Sight{{At: spotAt(0, 0)}, {Day: 1000, At: s}}
	}
	return list
}
