package tests

import (
	"math/rand"
	"slices"
	"strconv"
	"strings"
	"testing"

	"loop.example/g01345/impl"
)

// herdArguments are those of all functions of chapter 6.
type herdArguments struct {
	h, other      impl.Herd
	goat, a, b    int64
	foes          bool
	name, text    string
	eats          int64
	goats, groups []int64
	order, yards  []int64
	p             impl.Pasture
	first, second int64
	water         []impl.Spot
}

// callHerds calls each function of chapter 6.
func callHerds(v herdArguments) map[string][]any {
	return map[string][]any{
		"ValidHerd":    results(impl.ValidHerd(v.h)),
		"SameHerd":     results(impl.SameHerd(v.h, v.other)),
		"FoesOf":       results(impl.FoesOf(v.h, v.goat)),
		"AreFoes":      results(impl.AreFoes(v.h, v.a, v.b)),
		"WithFoes":     results(impl.WithFoes(v.h, v.a, v.b, v.foes)),
		"AddToHerd":    results(impl.AddToHerd(v.h, v.name, v.eats)),
		"PickHerd":     results(impl.PickHerd(v.h, v.goats)),
		"JoinHerds":    results(impl.JoinHerds(v.h, v.other)),
		"PeaceGroups":  results(impl.PeaceGroups(v.h)),
		"CheckGroups":  results(impl.CheckGroups(v.h, v.groups)),
		"FirstQuarrel": results(impl.FirstQuarrel(v.h, v.groups)),
		"GreedyGroups": results(impl.GreedyGroups(v.h, v.order)),
		"FewestGroups": results(impl.FewestGroups(v.h)),
		"AllFoes":      results(impl.AllFoes(v.h)),
		"MostPeaceful": results(impl.MostPeaceful(v.h)),
		"NeedsOf":      results(impl.NeedsOf(v.h, v.groups)),
		"FitGroups":    results(impl.FitGroups(v.h, v.groups, v.yards)),
		"CutColumn":    results(impl.CutColumn(v.p, v.first, v.second)),
		"WateredYards": results(impl.WateredYards(v.p, v.water)),
		"HerdText":     results(impl.HerdText(v.h)),
		"ReadHerd":     results(impl.ReadHerd(v.text)),
	}
}

func TestAllHerdFunctionsAreCalled(t *testing.T) {
	wantAllCalled(t, "l06_herds.go", callHerds(herdArguments{}))
}

// wildHerd has lists of any length, with anything in them.
func wildHerd(r *rand.Rand) impl.Herd {
	var h impl.Herd
	for range r.Intn(17) {
		h.Names = append(h.Names, []string{"ada", "", "B", "zz", "\xff"}[r.Intn(5)])
	}
	for range r.Intn(17) {
		h.Eats = append(h.Eats, int16(r.Intn(1<<16)))
	}
	for range r.Intn(17) {
		h.Foes = append(h.Foes, uint16(r.Intn(1<<16)))
	}
	return h
}

func wildNumbers(r *rand.Rand, most int64) []int64 {
	var list []int64
	for range r.Intn(17) {
		list = append(list, pickUpTo(r, most))
	}
	return list
}

// someHerdArguments returns ordinary and invalid arguments, and the extremes of each.
func someHerdArguments() []herdArguments {
	r := rand.New(rand.NewSource(72))
	texts := []string{"", " ", "ada 5 bel\nbel 7 ada\n", "ada 5\n", "ada", "ada 5 bel\n", "\xff", strings.Repeat("9", 5000), strings.Repeat("ada 5\n", 5000)}
	names := []string{"zoe", "", "ada", "abcdefghi", "Zoe", strings.Repeat("z", 5000)}
	pastures := somePastures()
	for _, p := range invalidPastures() {
		pastures = append(pastures, p)
	}
	herds := someHerds()
	for _, h := range invalidHerds() {
		herds = append(herds, h)
	}
	for range 50 {
		herds = append(herds, wildHerd(r))
	}
	var list []herdArguments
	for i, h := range herds {
		v := herdArguments{h: h, other: copyOf(herds[max(0, i-r.Intn(2))]), text: texts[i%len(texts)], name: names[i%len(names)], foes: i%2 == 0}
		count := len(h.Names)
		v.goat, v.a, v.b, v.eats = pickUpTo(r, 13), pickUpTo(r, 2), pickUpTo(r, int64(count)), pickUpTo(r, 100)
		v.order = shuffled(r, count)
		v.goats = shuffled(r, count)[:r.Intn(count+1)]
		for range count {
			v.groups = append(v.groups, r.Int63n(int64(1+i%14)))
			v.yards = append(v.yards, r.Int63n(300))
		}
		if i%5 == 0 {
			v.other = renamed(v.other, "q")
		}
		if i%9 == 0 {
			v.goats, v.groups, v.order, v.yards = wildNumbers(r, 13), wildNumbers(r, 13), wildNumbers(r, 13), wildNumbers(r, 1000000)
		}
		v.p = pastures[r.Intn(len(pastures))]
		v.first, v.second = pickUpTo(r, 1000000), pickUpTo(r, 1000000)
		for range r.Intn(4) {
			v.water = append(v.water, spotAt(r.Intn(3), r.Intn(3)))
		}
		list = append(list, v)
	}
	return list
}

// P1: every function returns, and returns equal results for equal arguments, also behind changes of its first ones.
func TestEqualResultsOfHerds(t *testing.T) {
	for i, v := range someHerdArguments() {
		wantEqualResults(t, "arguments "+strconv.Itoa(i), func() map[string][]any { return callHerds(v) })
	}
}

// roomForHerd returns a copy of a herd whose lists have unused capacity, and a check that nothing of it has changed.
func roomForHerd(t *testing.T, h impl.Herd) (impl.Herd, func(name string)) {
	names, checkNames := roomFor(t, h.Names, "unused")
	eats, checkEats := roomFor(t, h.Eats, -5)
	foes, checkFoes := roomFor(t, h.Foes, 5)
	return impl.Herd{Names: names, Eats: eats, Foes: foes}, func(name string) {
		t.Helper()
		checkNames(name)
		checkEats(name)
		checkFoes(name)
	}
}

// P1: no argument is modified, its unused capacity included, and no result shares memory with one.
func TestUnchangedHerds(t *testing.T) {
	for i, v := range someHerdArguments() {
		var checks []func(string)
		keep := func(list []int64) []int64 {
			copied, check := roomFor(t, list, -5)
			checks = append(checks, check)
			return copied
		}
		keepHerd := func(h impl.Herd) impl.Herd {
			copied, check := roomForHerd(t, h)
			checks = append(checks, check)
			return copied
		}
		water, checkWater := roomFor(t, v.water, spotAt(-5, 5))
		checks = append(checks, checkWater)
		v.h, v.other, v.water = keepHerd(v.h), keepHerd(v.other), water
		v.goats, v.groups, v.order, v.yards = keep(v.goats), keep(v.groups), keep(v.order), keep(v.yards)
		scribbleAll(callHerds(v))
		for _, check := range checks {
			check("arguments " + strconv.Itoa(i))
		}
	}
}

// P1: no two results, and no two lists of one result, share memory.
func TestListsOfResultsAreApart(t *testing.T) {
	for _, h := range someHerds() {
		groups, _ := impl.PeaceGroups(h)
		want := peaceByHand(h)
		for i := range groups {
			overwrite(groups[i], 77)
			for j := i + 1; j < len(groups); j++ {
				expect(t, "another group", want[j])(groups[j])
			}
		}
	}
}

// P1: nil and empty lists are equivalent.
func TestNilAndEmptyHerds(t *testing.T) {
	empty := impl.Herd{Names: []string{}, Eats: []int16{}, Foes: []uint16{}}
	for _, v := range someHerdArguments() {
		u := v
		v.goats, v.groups, v.order, v.yards, v.water = nil, nil, nil, nil, nil
		u.goats, u.groups, u.order, u.yards, u.water = []int64{}, []int64{}, []int64{}, []int64{}, []impl.Spot{}
		for range 2 {
			first, second := callHerds(v), callHerds(u)
			for name, list := range first {
				expect(t, name, list...)(second[name]...)
			}
			v.h, u.h = impl.Herd{}, empty
		}
	}
}

func TestMillionsOfHerds(t *testing.T) {
	million := 1000000
	h, numbers := exampleHerd(), make([]int64, million)
	many := impl.Herd{Names: make([]string, million), Eats: make([]int16, million), Foes: make([]uint16, million)}
	expect(t, "ValidHerd", false)(impl.ValidHerd(many))
	expect(t, "SameHerd", true)(impl.SameHerd(many, copyOf(many)))
	expectCode(t, "FewestGroups", impl.ErrInvalid)(impl.FewestGroups(many))
	expectCode(t, "JoinHerds", impl.ErrInvalid)(impl.JoinHerds(h, many))
	expectCode(t, "PickHerd", impl.ErrState)(impl.PickHerd(h, numbers))
	expectCode(t, "GreedyGroups", impl.ErrState)(impl.GreedyGroups(h, numbers))
	expectCode(t, "FirstQuarrel", impl.ErrState)(impl.FirstQuarrel(h, numbers))
	expect(t, "CheckGroups", false, 0)(impl.CheckGroups(h, numbers))
	expectCode(t, "NeedsOf", impl.ErrState)(impl.NeedsOf(h, numbers))
	expectCode(t, "AddToHerd", impl.ErrState)(impl.AddToHerd(h, strings.Repeat("a", million), 5))
	p, _ := impl.PlainPasture(10, 10, 1)
	water := make([]impl.Spot, million)
	expect(t, "WateredYards", []int64{0}, 0)(impl.WateredYards(p, water))
	water[million-1] = spotAt(10, 0)
	expectCode(t, "WateredYards", impl.ErrRange)(impl.WateredYards(p, water))
	numbers[million-1] = 3
	expectCode(t, "PickHerd", impl.ErrRange)(impl.PickHerd(h, numbers))
	for _, part := range []string{"a", " ", "\n", "a 5\n", "a 5 ", "ada 5 ada ", "5"} {
		expectCode(t, part, impl.ErrSyntax)(impl.ReadHerd(strings.Repeat(part, million/len(part))))
	}
	expectCode(t, "a long line", impl.ErrSyntax)(impl.ReadHerd("a 5" + strings.Repeat(" a", million/2-2) + "\n"))
}

// Errors are told in their order: a herd or a pasture first, whatever else is wrong.
func TestInvalidHerdsComeFirst(t *testing.T) {
	good := herdArguments{h: exampleHerd(), other: herdOf("zoe 1"), b: 1, name: "dot", first: 1, groups: []int64{0, 1, 0}, order: []int64{0, 1, 2}, yards: []int64{9, 9}}
	bad := good
	bad.other, bad.name, bad.eats, bad.first = good.h, "ada", -1, -1
	bad.goat, bad.a, bad.b = -1, -1, -1
	bad.goats, bad.groups, bad.order, bad.yards = []int64{-1, -1}, []int64{-1}, []int64{-1}, []int64{-1}
	bad.water = wayOf(-1, 0)
	ofHerd := []string{
		"FoesOf", "AreFoes", "WithFoes", "AddToHerd", "PickHerd", "JoinHerds", "PeaceGroups", "CheckGroups", "FirstQuarrel", "GreedyGroups",
		"FewestGroups", "AllFoes", "MostPeaceful", "NeedsOf", "FitGroups",
	}
	for _, v := range []herdArguments{good, bad} {
		for name, h := range invalidHerds() {
			u := v
			u.h = h
			called := callHerds(u)
			for _, function := range ofHerd {
				expectCode(t, function+" of "+name, impl.ErrInvalid)(called[function]...)
			}
			expect(t, name, "")(called["HerdText"]...)
			expectCode(t, "JoinHerds with "+name, impl.ErrInvalid)(impl.JoinHerds(v.h, h))
			expectCode(t, "JoinHerds of twice "+name, impl.ErrInvalid)(impl.JoinHerds(h, h))
		}
		for name, p := range invalidPastures() {
			u := v
			u.p = p
			called := callHerds(u)
			expectCode(t, "CutColumn of "+name, impl.ErrInvalid)(called["CutColumn"]...)
			expectCode(t, "WateredYards of "+name, impl.ErrInvalid)(called["WateredYards"]...)
			expectCode(t, "CutColumn of "+name, impl.ErrInvalid)(impl.CutColumn(p, 0, 0))
		}
	}
}

// wantPeaceful wants groups of the right number, and no two foes in one.
func wantPeaceful(t *testing.T, h impl.Herd, groups []int64) {
	t.Helper()
	expect(t, "by hand", true)(isPeace(h, groups))
	expect(t, "CheckGroups", true, 0)(impl.CheckGroups(h, groups))
	expectCode(t, "FirstQuarrel", impl.ErrNotFound)(impl.FirstQuarrel(h, groups))
}

// P15: groups that are made are peaceful, and no greedy ones are fewer than the fewest.
func TestGroupsThatAreMadeArePeaceful(t *testing.T) {
	r := rand.New(rand.NewSource(73))
	for _, h := range someHerds() {
		fewest, count, _ := impl.FewestGroups(h)
		wantPeaceful(t, h, fewest)
		numbers := slices.Compact(slices.Sorted(slices.Values(fewest)))
		expect(t, "numbers from 0 on", indicesBelow(int(count)))(numbers)
		for range 20 {
			greedy, _ := impl.GreedyGroups(h, shuffled(r, len(h.Names)))
			wantPeaceful(t, h, greedy)
			expect(t, "no fewer", true)(int64(differentOf(greedy)) >= count)
		}
	}
}

// P15: of all lists of groups none that is peaceful has fewer than the fewest.
func TestNoPeacefulGroupsAreFewer(t *testing.T) {
	r := rand.New(rand.NewSource(74))
	herds := slices.Concat(everyHerd(3), everyHerd(4))
	for range 50 {
		herds = append(herds, randomHerd(r, 5, 1+r.Intn(9)))
	}
	for _, h := range herds {
		_, count, _ := impl.FewestGroups(h)
		for _, groups := range everyList(len(h.Names), len(h.Names)) {
			if peaceful, _ := impl.CheckGroups(h, groups); peaceful && int64(differentOf(groups)) < count {
				t.Errorf("%s: %v are peaceful, and fewer than %d", herdByHand(h), groups, count)
			}
		}
	}
}

// P15: goats that all are foes are no more than the fewest groups, and no group has more than the most peaceful goats.
func TestFoesNeedAGroupEach(t *testing.T) {
	for _, h := range someHerds() {
		groups, count, _ := impl.FewestGroups(h)
		all, _ := impl.AllFoes(h)
		calm, _ := impl.MostPeaceful(h)
		expect(t, "all foes", true)(int64(len(all)) <= count)
		for number := range count {
			size := 0
			for _, group := range groups {
				if group == number {
					size++
				}
			}
			expect(t, "a group", true)(size <= len(calm))
		}
		for i, a := range all {
			for _, b := range all[i+1:] {
				expect(t, "foes", true, 0)(impl.AreFoes(h, a, b))
			}
		}
		for i, a := range calm {
			for _, b := range calm[i+1:] {
				expect(t, "no foes", false, 0)(impl.AreFoes(h, a, b))
			}
		}
	}
}

// P16: no goat has a foe in another peace group, and each goat is in one.
func TestNoFoeIsInAnotherPeaceGroup(t *testing.T) {
	for _, h := range someHerds() {
		groups, _ := impl.PeaceGroups(h)
		in := map[int64]int{}
		for i, group := range groups {
			expect(t, "ascending", true)(slices.IsSorted(group))
			for _, goat := range group {
				in[goat] = i
			}
		}
		all := slices.Sorted(slices.Values(slices.Concat(groups...)))
		expect(t, "each goat once", indicesBelow(len(h.Names)))(all)
		for goat := range int64(len(h.Names)) {
			foes, _ := impl.FoesOf(h, goat)
			for _, foe := range foes {
				expect(t, "the group of a foe", in[goat])(int64(in[foe]))
			}
		}
	}
}

// P16: parts of a herd that are joined have its goats; its peace groups have all their foes as well.
func TestPartsThatAreJoinedHaveAllGoats(t *testing.T) {
	for _, h := range someHerds() {
		groups, _ := impl.PeaceGroups(h)
		var joined impl.Herd
		for _, group := range groups {
			part, _ := impl.PickHerd(h, group)
			joined, _ = impl.JoinHerds(joined, part)
		}
		expect(t, "peace groups", pickByHand(h, slices.Concat(groups...)))(joined)
		order := make([]int64, len(h.Names))
		for i, goat := range slices.Concat(groups...) {
			order[goat] = int64(i)
		}
		expect(t, "back in their order", h, 0)(impl.PickHerd(joined, order))
	}
}

func TestAnyPartsThatAreJoined(t *testing.T) {
	r := rand.New(rand.NewSource(75))
	for _, h := range someHerds() {
		order := shuffled(r, len(h.Names))
		cut := r.Intn(len(order) + 1)
		first, _ := impl.PickHerd(h, order[:cut])
		second, _ := impl.PickHerd(h, order[cut:])
		joined, code := impl.JoinHerds(first, second)
		want := pickByHand(h, order)
		expect(t, "joined", want.Names, want.Eats, int64(impl.OK), true)(joined.Names, joined.Eats, code, impl.ValidHerd(joined))
		for i, a := range order {
			for j, b := range order {
				stay := isFoe(h, int(a), int(b)) && (i < cut) == (j < cut)
				expect(t, "foes", stay, 0)(impl.AreFoes(joined, int64(i), int64(j)))
			}
		}
	}
}

// Groups fit into their yards: each one has a yard of its own, with at least what it needs.
func TestGroupsFitIntoTheirYards(t *testing.T) {
	r := rand.New(rand.NewSource(76))
	for _, h := range someHerds() {
		groups, _, _ := impl.FewestGroups(h)
		needs, _ := impl.NeedsOf(h, groups)
		var yards []int64
		for _, i := range shuffled(r, len(needs)) {
			yards = append(yards, needs[i]+r.Int63n(3))
		}
		taken, code := impl.FitGroups(h, groups, yards)
		expect(t, "FitGroups", int64(impl.OK), len(needs), len(needs))(code, int64(len(taken)), int64(differentOf(taken)))
		for i, yard := range taken {
			expect(t, "enough", true)(yards[yard] >= needs[i])
		}
	}
}

// No column parts the grass better than the one that is told, and none of those ahead of it as well.
func TestNoColumnIsBetter(t *testing.T) {
	r := rand.New(rand.NewSource(77))
	for _, p := range somePastures() {
		a, b := r.Int63n(1000001), 1+r.Int63n(1000000)
		cut, _ := impl.CutColumn(p, a, b)
		for column := range int(p.Wide) + 1 {
			tilt, best := tiltByHand(p, column, a, b), tiltByHand(p, int(cut), a, b)
			expect(t, "no better one", true)(tilt > best || tilt == best && int64(column) >= cut)
		}
	}
}
