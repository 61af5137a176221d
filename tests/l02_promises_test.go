package tests

import (
	"math"
	"math/rand"
	"slices"
	"strconv"
	"strings"
	"testing"

	"loop.example/g01345/impl"
)

// goatArguments are those of all functions of chapter 2.
type goatArguments struct {
	p           impl.Pasture
	g           impl.Goat
	list, other []impl.Goat
	at          impl.Spot
	number      int64
	likes       int64
	text        string
}

// callGoats calls each function of chapter 2.
func callGoats(v goatArguments) map[string][]any {
	return map[string][]any{
		"ValidGoats":  results(impl.ValidGoats(v.p, v.list)),
		"SameGoats":   results(impl.SameGoats(v.list, v.other)),
		"FreeGoat":    results(impl.FreeGoat(v.at, v.number, v.likes)),
		"CellsFor":    results(impl.CellsFor(v.p, v.g)),
		"ChoiceOf":    results(impl.ChoiceOf(v.p, v.g, v.number)),
		"BiteOnce":    results(impl.BiteOnce(v.p, v.g, v.number)),
		"FeedGoat":    results(impl.FeedGoat(v.p, v.g)),
		"FeedInTurn":  results(impl.FeedInTurn(v.p, v.list)),
		"FeedByBites": results(impl.FeedByBites(v.p, v.list)),
		"FeedDays":    results(impl.FeedDays(v.p, v.list, v.number)),
		"HungryGoats": results(impl.HungryGoats(v.p, v.list)),
		"NeedOf":      results(impl.NeedOf(v.p, v.list)),
		"WhoEatsAt":   results(impl.WhoEatsAt(v.p, v.list, v.at)),
		"CanMeet":     results(impl.CanMeet(v.p, v.list)),
		"BareCells":   results(impl.BareCells(v.p)),
		"TieGoat":     results(impl.TieGoat(v.p, v.g, v.number)),
		"GoatsText":   results(impl.GoatsText(v.list)),
		"ReadGoats":   results(impl.ReadGoats(v.text)),
	}
}

func TestAllGoatFunctionsAreCalled(t *testing.T) {
	wantAllCalled(t, "l02_goats.go", callGoats(goatArguments{}))
}

// someGoatArguments returns ordinary and invalid arguments, and the extremes of each.
func someGoatArguments() []goatArguments {
	r := rand.New(rand.NewSource(23))
	numbers := []int64{0, 1, 2, 5, 60, 100, 200, -1, 61, 101, 201, 1 << 32, math.MinInt64, math.MaxInt64}
	texts := []string{"", "\n", "2,0 free 12 rich\n", "2,0 2,0~1 12 near\n", "2,0 free 12", "\xff\n", strings.Repeat("9", 5000)}
	flocks := someFlocks()
	for _, p := range invalidPastures() {
		flocks = append(flocks, flock{p, someGoats(r, grassy(10, 10, func(x, y int) int { return 1 }), 3)})
	}
	for range 50 {
		flocks = append(flocks, flock{flocks[r.Intn(len(flocks))].p, wildGoats(r)}, flock{wildPasture(r), wildGoats(r)})
	}
	var list []goatArguments
	for i, f := range flocks {
		v := goatArguments{p: f.p, g: wildGoats(r)[0], list: f.list, other: flocks[r.Intn(len(flocks))].list}
		if len(f.list) > 0 && r.Intn(3) > 0 {
			v.g = f.list[r.Intn(len(f.list))]
		}
		v.at = spotAt(r.Intn(12)-1, r.Intn(12)-1)
		v.number, v.likes = numbers[i%len(numbers)], numbers[r.Intn(len(numbers))]
		v.text = texts[i%len(texts)]
		list = append(list, v)
	}
	return list
}

func wildGoats(r *rand.Rand) []impl.Goat {
	list := make([]impl.Goat, 1+r.Intn(30))
	for i := range list {
		list[i] = tiedGoat(spotAt(r.Intn(256), r.Intn(256)), spotAt(r.Intn(256), r.Intn(256)), r.Intn(1<<16), r.Intn(1<<16), int8(r.Intn(256)))
	}
	return list
}

// P1: every function returns, and returns equal results for equal arguments, also behind changes of its first ones.
func TestEqualResultsOfGoats(t *testing.T) {
	for i, v := range someGoatArguments() {
		wantEqualResults(t, "arguments "+strconv.Itoa(i), func() map[string][]any { return callGoats(v) })
	}
}

// P1: no argument is modified, its unused capacity included, and no result shares memory with one.
func TestUnchangedGoats(t *testing.T) {
	for i, v := range someGoatArguments() {
		room := make([]impl.Goat, len(v.list)+5)
		for j := range room {
			room[j] = freeGoat(spotAt(-j, j), j, impl.LiNear)
		}
		copy(room, v.list)
		before := slices.Clone(room)
		v.list = room[:len(v.list)]
		scribbleAll(callGoats(v))
		if !slices.Equal(room, before) {
			t.Fatalf("arguments %d: list changed from %v to %v", i, before, room)
		}
	}
}

// P1: nil and empty lists are equivalent.
func TestNilAndEmptyGoats(t *testing.T) {
	for _, v := range someGoatArguments() {
		empty := v
		v.list, empty.list = nil, []impl.Goat{}
		first, second := callGoats(v), callGoats(empty)
		for name, list := range first {
			expect(t, name, list...)(second[name]...)
		}
	}
}

func TestManyGoats(t *testing.T) {
	p := examplePasture(t)
	list := make([]impl.Goat, 1000000)
	other := make([]impl.Goat, len(list))
	expect(t, "SameGoats", true)(impl.SameGoats(list, other))
	other[len(other)-1].Likes++
	expect(t, "SameGoats", false)(impl.SameGoats(list, other))
	expect(t, "ValidGoats", false)(impl.ValidGoats(p, list))
	expect(t, "GoatsText", "")(impl.GoatsText(list))
	expectCode(t, "FeedDays", impl.ErrInvalid)(impl.FeedDays(p, list, 60))
	for _, part := range []string{"0", " ", "\n", ",", "~", "0,", "2,0 free 12 rich\n", "2,0 free 12 rich ", "-"} {
		text := strings.Repeat(part, 1000000/len(part))
		expectCode(t, part, impl.ErrSyntax)(impl.ReadGoats(text))
	}
}

// Errors are told in their order: a pasture and goats first, whatever else is wrong.
func TestInvalidGoatsComeFirst(t *testing.T) {
	bare := []string{"ValidGoats", "SameGoats", "FreeGoat", "GoatsText", "ReadGoats"}
	good := freeGoat(spotAt(0, 0), 5, impl.LiRich)
	for _, number := range []int64{0, 1, -1, 500, math.MinInt64} {
		for _, at := range append(badSpots, spotAt(0, 0)) {
			for name, p := range invalidPastures() {
				v := goatArguments{p: p, g: good, list: []impl.Goat{good}, at: at, number: number}
				for function, list := range callGoats(v) {
					if !slices.Contains(bare, function) {
						expectCode(t, function+" of "+name, impl.ErrInvalid)(list...)
					}
				}
			}
			for name, g := range invalidGoats() {
				v := goatArguments{p: examplePasture(t), g: g, list: []impl.Goat{good, g}, at: at, number: number}
				for function, list := range callGoats(v) {
					if !slices.Contains(bare, function) && function != "BareCells" {
						expectCode(t, function+" of "+name, impl.ErrInvalid)(list...)
					}
				}
			}
		}
	}
}

func TestTooManyGoats(t *testing.T) {
	lists := []string{"FeedInTurn", "FeedByBites", "FeedDays", "HungryGoats", "NeedOf", "WhoEatsAt", "CanMeet"}
	v := goatArguments{p: examplePasture(t), number: 61, at: spotAt(3, 0)}
	v.list = slices.Repeat([]impl.Goat{freeGoat(spotAt(0, 0), 5, impl.LiRich)}, 21)
	called := callGoats(v)
	for _, function := range lists {
		expectCode(t, function, impl.ErrInvalid)(called[function]...)
	}
	v.list, v.number, v.at = v.list[:20], 60, spotAt(2, 1)
	called = callGoats(v)
	for _, function := range lists {
		last := called[function][len(called[function])-1]
		expect(t, function, int64(impl.OK))(last)
	}
}

// ErrRange comes first, then ErrState, then ErrNotFound, also where there is no grass.
func TestOrderOfErrorsOfHungryGoats(t *testing.T) {
	full := examplePasture(t)
	bare, _ := impl.PlainPasture(3, 2, 0)
	for _, g := range []impl.Goat{freeGoat(spotAt(2, 0), 0, impl.LiRich), freeGoat(spotAt(2, 1), 100, impl.LiNear)} {
		for _, p := range []impl.Pasture{full, bare} {
			for _, hungry := range []int64{-1, 101, 256, 65536 + 5, 1 << 32, math.MinInt64, math.MaxInt64} {
				expectCode(t, "ChoiceOf", impl.ErrRange)(impl.ChoiceOf(p, g, hungry))
				expectCode(t, "BiteOnce", impl.ErrRange)(impl.BiteOnce(p, g, hungry))
			}
			expectCode(t, "ChoiceOf", impl.ErrState)(impl.ChoiceOf(p, g, 0))
			expectCode(t, "BiteOnce", impl.ErrState)(impl.BiteOnce(p, g, 0))
		}
		for _, hungry := range []int64{1, 5, 100} {
			expectCode(t, "ChoiceOf", impl.ErrNotFound)(impl.ChoiceOf(bare, g, hungry))
			expectCode(t, "BiteOnce", impl.ErrNotFound)(impl.BiteOnce(bare, g, hungry))
		}
	}
}

func TestRangesOfGoats(t *testing.T) {
	p := examplePasture(t)
	for _, list := range [][]impl.Goat{nil, {freeGoat(spotAt(2, 0), 12, impl.LiRich)}} {
		for _, days := range []int64{-1, 61, 256, 1 << 32, math.MinInt64, math.MaxInt64} {
			expectCode(t, "FeedDays", impl.ErrRange)(impl.FeedDays(p, list, days))
		}
		for _, at := range badSpots {
			expectCode(t, "WhoEatsAt", impl.ErrRange)(impl.WhoEatsAt(p, list, at))
		}
	}
}

func TestNoGoats(t *testing.T) {
	none := []impl.Goat{}
	for _, f := range someFlocks() {
		expect(t, "FeedInTurn", f.p, none, []int64(nil), 0)(impl.FeedInTurn(f.p, nil))
		expect(t, "FeedByBites", f.p, none, []int64(nil), 0)(impl.FeedByBites(f.p, nil))
		expect(t, "FeedDays", f.p, make([]int64, 60), 0)(impl.FeedDays(f.p, nil, 60))
		expect(t, "HungryGoats", []int64(nil), 0)(impl.HungryGoats(f.p, nil))
		expect(t, "NeedOf", 0, 0)(impl.NeedOf(f.p, nil))
		expect(t, "WhoEatsAt", []int64(nil), 0)(impl.WhoEatsAt(f.p, nil, spotAt(0, 0)))
	}
}

// P4: what a goat chooses has grass, is a cell for it, and no cell for it is better by what it likes.
func TestNoCellIsBetter(t *testing.T) {
	for _, f := range someFlocks() {
		for _, g := range f.list {
			chosen, code := impl.ChoiceOf(f.p, g, 1+int64(g.Eats)%100)
			steps := ringsFrom(f.p, g.At)
			var better []impl.Spot
			for _, s := range goatCells(f.p, g) {
				if grassAt(f.p, s) > 0 && (code != impl.OK || isBetter(f.p, g, steps, s, chosen)) {
					better = append(better, s)
				}
			}
			if len(better) > 0 {
				t.Errorf("%+v chooses %v (code %d), but likes %v better", g, chosen, code, better)
			}
			if code == impl.OK && (grassAt(f.p, chosen) == 0 || !slices.Contains(goatCells(f.p, g), chosen)) {
				t.Errorf("%+v chooses %v, which is no cell for it with grass", g, chosen)
			}
		}
	}
}

// isBetter reports whether a goat likes a cell better than another one.
func isBetter(p impl.Pasture, g impl.Goat, steps map[impl.Spot]int, a, b impl.Spot) bool {
	richer, nearer := grassAt(p, a)-grassAt(p, b), steps[b]-steps[a]
	first, second := richer, nearer
	if g.Likes == impl.LiNear {
		first, second = nearer, richer
	}
	if first != 0 {
		return first > 0
	}
	if second != 0 {
		return second > 0
	}
	return compareSpots(a, b) < 0
}

// P4: a goat that is tied stays within its rope, and every goat in its yard, bite by bite and meal by meal.
func TestGoatsStayWithinTheirRopes(t *testing.T) {
	for _, f := range someFlocks() {
		for _, g := range f.list {
			if _, moved, _, code := impl.BiteOnce(f.p, g, 100); code == impl.OK {
				wantStayed(t, f.p, g, moved)
			}
			_, moved, _, code := impl.FeedGoat(f.p, g)
			expect(t, "FeedGoat", int64(impl.OK))(code)
			wantStayed(t, f.p, g, moved)
		}
		_, turn, _, _ := impl.FeedInTurn(f.p, f.list)
		_, bites, _, _ := impl.FeedByBites(f.p, f.list)
		expect(t, "goats", len(f.list), len(f.list))(int64(len(turn)), int64(len(bites)))
		for i, g := range f.list {
			wantStayed(t, f.p, g, turn[i])
			wantStayed(t, f.p, g, bites[i])
		}
	}
}

// wantStayed wants a goat that may have moved to one of its cells, and is otherwise as it was.
func wantStayed(t *testing.T, p impl.Pasture, g, moved impl.Goat) {
	t.Helper()
	if !slices.Contains(goatCells(p, g), moved.At) {
		t.Errorf("%+v goes to %v, which is no cell for it", g, moved.At)
	}
	expect(t, "ValidGoats", true)(impl.ValidGoats(p, []impl.Goat{moved}))
	moved.At = g.At
	expect(t, "goat", g)(moved)
}

// P5: grass that is eaten is no longer there, and no goat eats more than Eats.
func TestGrassThatIsEaten(t *testing.T) {
	for _, f := range someFlocks() {
		for _, g := range f.list {
			alone := flock{f.p, []impl.Goat{g}}
			for hungry := range int64(8) {
				left, _, eaten, code := impl.BiteOnce(f.p, g, hungry)
				if code == impl.OK && (eaten < 1 || eaten > min(hungry, 5)) {
					t.Errorf("a bite of %d for %d", eaten, hungry)
				}
				if code == impl.OK {
					wantGone(t, alone, left, eaten)
				}
			}
			left, _, eaten, _ := impl.FeedGoat(f.p, g)
			wantGone(t, alone, left, eaten)
			wantAtMostEats(t, alone, []int64{eaten})
		}
		turn, _, sums, _ := impl.FeedInTurn(f.p, f.list)
		wantGone(t, f, turn, sumOf(sums))
		wantAtMostEats(t, f, sums)
		bites, _, each, _ := impl.FeedByBites(f.p, f.list)
		wantGone(t, f, bites, sumOf(each))
		wantAtMostEats(t, f, each)
		end, days, _ := impl.FeedDays(f.p, f.list, 4)
		wantGone(t, f, end, sumOf(days))
		need, _ := impl.NeedOf(f.p, f.list)
		if slices.Max(days) > need {
			t.Errorf("days %v, but need %d", days, need)
		}
	}
}

// wantGone wants as much grass less as has been eaten, only in cells for goats, and everything else as it was.
func wantGone(t *testing.T, f flock, left impl.Pasture, eaten int64) {
	t.Helper()
	expect(t, "grass", int64(grassIn(f.p)))(int64(grassIn(left)) + eaten)
	same := left
	for _, g := range f.list {
		for _, s := range goatCells(f.p, g) {
			if grassAt(left, s) < 0 || grassAt(left, s) > grassAt(f.p, s) {
				t.Errorf("grass at %v goes from %d to %d", s, grassAt(f.p, s), grassAt(left, s))
			}
			same.Grass[s.Y][s.X] = f.p.Grass[s.Y][s.X]
		}
	}
	expect(t, "all else", f.p)(same)
}

func wantAtMostEats(t *testing.T, f flock, eaten []int64) {
	t.Helper()
	expect(t, "numbers", len(f.list))(int64(len(eaten)))
	for i, grass := range eaten {
		if grass < 0 || grass > int64(f.list[i].Eats) || grass > 60 {
			t.Errorf("%+v eats %d", f.list[i], grass)
		}
	}
}
