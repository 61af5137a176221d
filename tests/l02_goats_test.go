package tests

import (
	"math"
	"slices"
	"strconv"
	"testing"

	"loop.example/g01345/impl"
)

func TestExampleOfGoats(t *testing.T) {
	p := examplePasture(t)
	rich, near := freeGoat(spotAt(2, 0), 12, impl.LiRich), freeGoat(spotAt(2, 0), 12, impl.LiNear)
	expect(t, "FreeGoat", rich, 0)(impl.FreeGoat(spotAt(2, 0), 12, impl.LiRich))
	wantBites(t, p, rich, []eatenAt{{spotAt(0, 0), 5}, {spotAt(1, 1), 4}, {spotAt(0, 1), 3}})
	wantBites(t, p, near, []eatenAt{{spotAt(2, 0), 1}, {spotAt(1, 1), 4}, {spotAt(0, 1), 3}, {spotAt(0, 0), 4}})
	richly, nearly := rich, near
	richly.At, nearly.At = spotAt(0, 1), spotAt(0, 0)
	expect(t, "rich", pastureOf(t, "0 2|_ 1", "0 0 0"), richly, 12, 0)(impl.FeedGoat(p, rich))
	expect(t, "near", pastureOf(t, "1 2|_ 0", "0 0 0"), nearly, 12, 0)(impl.FeedGoat(p, near))
	tied := tiedGoat(spotAt(2, 0), spotAt(2, 0), 1, 12, impl.LiRich)
	expect(t, "TieGoat", tied, 0)(impl.TieGoat(p, rich, 1))
	expect(t, "CellsFor", []impl.Spot{spotAt(1, 0), spotAt(2, 0), spotAt(2, 1)}, 0)(impl.CellsFor(p, tied))
}

type eatenAt struct {
	at    impl.Spot
	grass int
}

// wantBites lets a goat make bites until it has eaten Eats.
func wantBites(t *testing.T, p impl.Pasture, g impl.Goat, bites []eatenAt) {
	t.Helper()
	hungry := int64(g.Eats)
	for _, b := range bites {
		expect(t, "ChoiceOf", b.at, 0)(impl.ChoiceOf(p, g, hungry))
		left, moved := p, g
		left.Grass[b.at.Y][b.at.X] -= int16(b.grass)
		moved.At = b.at
		expect(t, "BiteOnce", left, moved, b.grass, 0)(impl.BiteOnce(p, g, hungry))
		p, g, hungry = left, moved, hungry-int64(b.grass)
	}
	expect(t, "hungry", 0)(hungry)
}

func TestValidGoats(t *testing.T) {
	for _, f := range someFlocks() {
		expect(t, "valid", true)(impl.ValidGoats(f.p, f.list))
	}
	p := examplePasture(t)
	one := freeGoat(spotAt(2, 1), 100, impl.LiNear)
	expect(t, "no goats", true)(impl.ValidGoats(p, nil))
	expect(t, "in one cell", true)(impl.ValidGoats(p, []impl.Goat{one, one}))
	expect(t, "most goats", true)(impl.ValidGoats(p, slices.Repeat([]impl.Goat{one}, 20)))
	expect(t, "too many", false)(impl.ValidGoats(p, slices.Repeat([]impl.Goat{one}, 21)))
	for name, g := range invalidGoats() {
		for _, list := range [][]impl.Goat{{g}, {one, g}, {g, one}, {one, g, one}} {
			expect(t, name, false)(impl.ValidGoats(p, list))
		}
	}
	for name, p := range invalidPastures() {
		expect(t, name, false)(impl.ValidGoats(p, nil))
		expect(t, name, false)(impl.ValidGoats(p, []impl.Goat{freeGoat(spotAt(0, 0), 1, impl.LiRich)}))
	}
}

// A goat may stand at the end of its rope, and no square farther.
func TestValidRopes(t *testing.T) {
	p, _ := impl.PlainPasture(10, 10, 1)
	for _, at := range cellsOf(p) {
		for _, stake := range []impl.Spot{spotAt(0, 0), spotAt(9, 9), spotAt(9, 0), spotAt(4, 5)} {
			for _, rope := range []int{-1, 0, 1, 2, 4, 5, 25, 81, 161, 162, 200, 201} {
				g := tiedGoat(at, stake, rope, 0, impl.LiRich)
				free := rope == -1 && stake == spotAt(0, 0)
				tied := rope >= 0 && rope <= 200 && squareOf(at, stake) <= rope
				expect(t, "ValidGoats", free || tied)(impl.ValidGoats(p, []impl.Goat{g}))
			}
		}
	}
}

func TestSameGoats(t *testing.T) {
	g := tiedGoat(spotAt(2, 0), spotAt(1, 1), 2, 12, impl.LiNear)
	expect(t, "nil and empty", true)(impl.SameGoats(nil, []impl.Goat{}))
	expect(t, "itself", true)(impl.SameGoats([]impl.Goat{g}, []impl.Goat{g}))
	expect(t, "no goats", false)(impl.SameGoats(nil, []impl.Goat{{}}))
	expect(t, "a goat more", false)(impl.SameGoats([]impl.Goat{g, g}, []impl.Goat{g}))
	changes := []func(*impl.Goat){
		func(g *impl.Goat) { g.At.X = -128 },
		func(g *impl.Goat) { g.At.Y++ },
		func(g *impl.Goat) { g.Stake.X++ },
		func(g *impl.Goat) { g.Stake.Y = 127 },
		func(g *impl.Goat) { g.Rope = 258 },
		func(g *impl.Goat) { g.Eats = -1 },
		func(g *impl.Goat) { g.Likes = 3 },
	}
	for i, change := range changes {
		h := g
		change(&h)
		name := "change " + strconv.Itoa(i)
		expect(t, name, false)(impl.SameGoats([]impl.Goat{g, g}, []impl.Goat{g, h}))
		expect(t, name, false)(impl.SameGoats([]impl.Goat{h, g}, []impl.Goat{g, g}))
		expect(t, name, false)(impl.SameGoats([]impl.Goat{h, g}, []impl.Goat{g, h}))
		expect(t, name, true)(impl.SameGoats([]impl.Goat{h, g}, []impl.Goat{h, g}))
	}
}

func TestFreeGoat(t *testing.T) {
	for _, at := range append(badSpots, spotAt(0, 0), spotAt(2, 1)) {
		for _, eats := range []int{0, 1, 99, 100} {
			for _, likes := range []int8{impl.LiRich, impl.LiNear} {
				expect(t, "FreeGoat", freeGoat(at, eats, likes), 0)(impl.FreeGoat(at, int64(eats), int64(likes)))
			}
		}
		for _, wrong := range []int64{-1, 101, 256, 65536, 1 << 32, math.MinInt64, math.MaxInt64} {
			expectCode(t, "eats", impl.ErrRange)(impl.FreeGoat(at, wrong, impl.LiRich))
			expectCode(t, "likes", impl.ErrRange)(impl.FreeGoat(at, 5, wrong))
		}
		expectCode(t, "likes", impl.ErrRange)(impl.FreeGoat(at, 5, 2))
	}
}

func TestCellsFor(t *testing.T) {
	p := pastureOf(t, "1 1| 1", "1 1 1_", "1 1 1")
	ends := tiedGoat(spotAt(1, 1), spotAt(0, 0), 4, 1, impl.LiRich)
	want := []impl.Spot{spotAt(0, 0), spotAt(1, 0), spotAt(2, 0), spotAt(0, 1), spotAt(1, 1), spotAt(0, 2)}
	expect(t, "rope 4", want, 0)(impl.CellsFor(p, ends))
	stake := tiedGoat(spotAt(1, 1), spotAt(1, 1), 0, 1, impl.LiRich)
	expect(t, "rope 0", []impl.Spot{spotAt(1, 1)}, 0)(impl.CellsFor(p, stake))
	expect(t, "free", cellsOf(p), 0)(impl.CellsFor(p, freeGoat(spotAt(2, 2), 0, impl.LiNear)))
	for _, f := range someFlocks() {
		for _, g := range f.list {
			expect(t, "CellsFor", goatCells(f.p, g), 0)(impl.CellsFor(f.p, g))
		}
	}
}

// The yard is that in which the goat stands, not that of its stake.
func TestStakeInAnotherYard(t *testing.T) {
	p := pastureOf(t, "9| 1 9")
	g := tiedGoat(spotAt(1, 0), spotAt(0, 0), 1, 9, impl.LiRich)
	expect(t, "CellsFor", []impl.Spot{spotAt(1, 0)}, 0)(impl.CellsFor(p, g))
	expect(t, "ChoiceOf", spotAt(1, 0), 0)(impl.ChoiceOf(p, g, 9))
	expect(t, "FeedGoat", pastureOf(t, "9| 0 9"), g, 1, 0)(impl.FeedGoat(p, g))
	expect(t, "WhoEatsAt", []int64(nil), 0)(impl.WhoEatsAt(p, []impl.Goat{g}, spotAt(0, 0)))
	expect(t, "WhoEatsAt", []int64{0}, 0)(impl.WhoEatsAt(p, []impl.Goat{g}, spotAt(1, 0)))
}

// Of several cells each tie is broken by the next thing that is told, down to Y and then X.
func TestChoices(t *testing.T) {
	cases := []struct {
		rows       []string
		rich, near impl.Spot
	}{
		{[]string{"0 0 9", "0 1 0", "0 0 0"}, spotAt(2, 0), spotAt(1, 1)},
		{[]string{"9 0 0", "0 0 8", "0 0 0"}, spotAt(0, 0), spotAt(2, 1)},
		{[]string{"9 0 0", "9 1 0", "0 0 9"}, spotAt(0, 1), spotAt(1, 1)},
		{[]string{"9 0 9", "0 1 0", "9 0 9"}, spotAt(0, 0), spotAt(1, 1)},
		{[]string{"0 0 9", "0 1 0", "9 0 9"}, spotAt(2, 0), spotAt(1, 1)},
		{[]string{"0 0 0", "0 1 0", "9 0 9"}, spotAt(0, 2), spotAt(1, 1)},
		{[]string{"0 2 0", "3 0 3", "0 2 0"}, spotAt(0, 1), spotAt(0, 1)},
		{[]string{"0 2 0", "2 0 2", "0 3 0"}, spotAt(1, 2), spotAt(1, 2)},
		{[]string{"0 3 0", "3 0 3", "0 3 0"}, spotAt(1, 0), spotAt(1, 0)},
		{[]string{"0 0 0", "3 0 3", "0 3 0"}, spotAt(0, 1), spotAt(0, 1)},
		{[]string{"0 0 0", "0 0 3", "0 3 0"}, spotAt(2, 1), spotAt(2, 1)},
		{[]string{"9 0 9", "0 0 2", "0 1 0"}, spotAt(0, 0), spotAt(2, 1)},
		{[]string{"1000 0 0", "0 0 0", "0 0 1"}, spotAt(0, 0), spotAt(0, 0)},
		{[]string{"7 7 7", "7 7 7", "7 7 7"}, spotAt(1, 1), spotAt(1, 1)},
		{[]string{"0 4_ 0", "4 0 0", "0 0 0"}, spotAt(0, 1), spotAt(0, 1)},
		{[]string{"0 4_ 0", "0 0 0", "0 0 3"}, spotAt(1, 0), spotAt(2, 2)},
		{[]string{"9|_ 0 0", "0 0 0", "0 0 1"}, spotAt(2, 2), spotAt(2, 2)},
	}
	for _, c := range cases {
		p := pastureOf(t, c.rows...)
		for _, hungry := range []int64{1, 5, 100} {
			rich, near := freeGoat(spotAt(1, 1), 0, impl.LiRich), freeGoat(spotAt(1, 1), 100, impl.LiNear)
			expect(t, "rich", c.rich, 0)(impl.ChoiceOf(p, rich, hungry))
			expect(t, "near", c.near, 0)(impl.ChoiceOf(p, near, hungry))
		}
	}
}

// The way to 2, 0 leaves the rope at 2, 1, and has no more steps than that to 0, 2, which stays within it.
func TestWayThatLeavesTheRope(t *testing.T) {
	p := pastureOf(t, "0 0| 5", "0 0 0", "5 0 0")
	for _, likes := range []int8{impl.LiRich, impl.LiNear} {
		g := tiedGoat(spotAt(1, 1), spotAt(0, 0), 4, 5, likes)
		expect(t, "ChoiceOf", spotAt(2, 0), 0)(impl.ChoiceOf(p, g, 5))
		moved := g
		moved.At = spotAt(2, 0)
		expect(t, "FeedGoat", pastureOf(t, "0 0| 0", "0 0 0", "5 0 0"), moved, 5, 0)(impl.FeedGoat(p, g))
	}
	around := pastureOf(t, "0| 6", "0 0")
	g := tiedGoat(spotAt(0, 0), spotAt(0, 0), 1, 5, impl.LiNear)
	expect(t, "ChoiceOf", spotAt(1, 0), 0)(impl.ChoiceOf(around, g, 5))
}

// A bite is the least of what the goat is hungry for, Bite, and what is there; Eats does not count.
func TestBiteOnce(t *testing.T) {
	for grass := 1; grass <= 8; grass++ {
		for hungry := 1; hungry <= 100; hungry++ {
			for _, eats := range []int{0, 3, 100} {
				g := freeGoat(spotAt(0, 0), eats, impl.LiRich)
				moved := g
				moved.At = spotAt(1, 0)
				p := grassy(2, 1, func(x, y int) int { return x * grass })
				eaten := min(grass, hungry, 5)
				left := grassy(2, 1, func(x, y int) int { return x * (grass - eaten) })
				expect(t, "BiteOnce", left, moved, eaten, 0)(impl.BiteOnce(p, g, int64(hungry)))
			}
		}
	}
}

func TestGoatThatEatsNothing(t *testing.T) {
	p := examplePasture(t)
	for _, likes := range []int8{impl.LiRich, impl.LiNear} {
		g := freeGoat(spotAt(2, 0), 0, likes)
		list := []impl.Goat{g, g}
		expect(t, "FeedGoat", p, g, 0, 0)(impl.FeedGoat(p, g))
		expect(t, "FeedInTurn", p, list, []int64{0, 0}, 0)(impl.FeedInTurn(p, list))
		expect(t, "FeedByBites", p, list, []int64{0, 0}, 0)(impl.FeedByBites(p, list))
		expect(t, "FeedDays", p, []int64{0, 0, 0}, 0)(impl.FeedDays(p, list, 3))
		expect(t, "HungryGoats", []int64(nil), 0)(impl.HungryGoats(p, list))
		expect(t, "NeedOf", 0, 0)(impl.NeedOf(p, list))
	}
}

func TestNoChoice(t *testing.T) {
	p, _ := impl.PlainPasture(2, 2, 0)
	g := freeGoat(spotAt(1, 1), 5, impl.LiNear)
	list := []impl.Goat{g}
	expectCode(t, "ChoiceOf", impl.ErrNotFound)(impl.ChoiceOf(p, g, 5))
	expectCode(t, "BiteOnce", impl.ErrNotFound)(impl.BiteOnce(p, g, 5))
	expect(t, "FeedGoat", p, g, 0, 0)(impl.FeedGoat(p, g))
	expect(t, "FeedInTurn", p, list, []int64{0}, 0)(impl.FeedInTurn(p, list))
	expect(t, "FeedByBites", p, list, []int64{0}, 0)(impl.FeedByBites(p, list))
	expect(t, "HungryGoats", []int64{0}, 0)(impl.HungryGoats(p, list))
	shut := pastureOf(t, "9| 0 9")
	tied := tiedGoat(spotAt(1, 0), spotAt(1, 0), 0, 5, impl.LiRich)
	expectCode(t, "ChoiceOf", impl.ErrNotFound)(impl.ChoiceOf(shut, tied, 5))
	expect(t, "FeedGoat", shut, tied, 0, 0)(impl.FeedGoat(shut, tied))
}

// MaxBites bites make 60 grass at the most, and 12 where each cell has 1.
func TestMostBites(t *testing.T) {
	rich, _ := impl.PlainPasture(1, 1, 1000)
	poor, _ := impl.PlainPasture(10, 10, 1)
	for _, eats := range []int{11, 12, 13, 59, 60, 61, 100} {
		g := freeGoat(spotAt(0, 0), eats, impl.LiNear)
		for p, most := range map[impl.Pasture]int{rich: 60, poor: 12} {
			eaten := int64(min(eats, most))
			_, _, fed, code := impl.FeedGoat(p, g)
			expect(t, "FeedGoat", eaten, 0)(fed, code)
			_, _, turn, code := impl.FeedInTurn(p, []impl.Goat{g, g})
			expect(t, "FeedInTurn", []int64{eaten, eaten}, 0)(turn, code)
			_, _, bites, code := impl.FeedByBites(p, []impl.Goat{g, g})
			expect(t, "FeedByBites", []int64{eaten, eaten}, 0)(bites, code)
			_, days, code := impl.FeedDays(p, []impl.Goat{g, g}, 1)
			expect(t, "FeedDays", []int64{2 * eaten}, 0)(days, code)
			var hungry []int64
			if eats > most {
				hungry = []int64{0, 1}
			}
			expect(t, "HungryGoats", hungry, 0)(impl.HungryGoats(p, []impl.Goat{g, g}))
		}
	}
}

// Two goats in one cell share its grass: the first one eats first, or they bite in turns.
func TestTwoGoatsInOneCell(t *testing.T) {
	g := freeGoat(spotAt(0, 0), 12, impl.LiRich)
	list := []impl.Goat{g, g}
	seven, twenty, thirty := pastureOf(t, "7"), pastureOf(t, "20"), pastureOf(t, "30")
	expect(t, "turn 7", pastureOf(t, "0"), list, []int64{7, 0}, 0)(impl.FeedInTurn(seven, list))
	expect(t, "bites 7", pastureOf(t, "0"), list, []int64{5, 2}, 0)(impl.FeedByBites(seven, list))
	expect(t, "turn 20", pastureOf(t, "0"), list, []int64{12, 8}, 0)(impl.FeedInTurn(twenty, list))
	expect(t, "bites 20", pastureOf(t, "0"), list, []int64{10, 10}, 0)(impl.FeedByBites(twenty, list))
	expect(t, "turn 30", pastureOf(t, "6"), list, []int64{12, 12}, 0)(impl.FeedInTurn(thirty, list))
	expect(t, "bites 30", pastureOf(t, "6"), list, []int64{12, 12}, 0)(impl.FeedByBites(thirty, list))
	expect(t, "HungryGoats", []int64{0, 1}, 0)(impl.HungryGoats(twenty, list))
	expect(t, "HungryGoats", []int64(nil), 0)(impl.HungryGoats(thirty, list))
}

// Each goat goes on where it stands on the day behind: from 1, 0 the cell 0, 0 is nearer than 3, 0.
func TestFeedDays(t *testing.T) {
	p := pastureOf(t, "3 3 0 3 0")
	list := []impl.Goat{freeGoat(spotAt(2, 0), 3, impl.LiNear)}
	expect(t, "no days", p, []int64(nil), 0)(impl.FeedDays(p, list, 0))
	expect(t, "a day", pastureOf(t, "3 0 0 3 0"), []int64{3}, 0)(impl.FeedDays(p, list, 1))
	expect(t, "two days", pastureOf(t, "0 0 0 3 0"), []int64{3, 3}, 0)(impl.FeedDays(p, list, 2))
	expect(t, "four days", pastureOf(t, "0 0 0 0 0"), []int64{3, 3, 3, 0}, 0)(impl.FeedDays(p, list, 4))
	expect(t, "no goats", p, []int64{0, 0}, 0)(impl.FeedDays(p, nil, 2))
	sixty := append([]int64{3, 3, 3}, make([]int64, 57)...)
	expect(t, "sixty days", pastureOf(t, "0 0 0 0 0"), sixty, 0)(impl.FeedDays(p, list, 60))
	expectCode(t, "too many days", impl.ErrRange)(impl.FeedDays(p, list, 61))
}

func TestMostGoatsOnMostDays(t *testing.T) {
	p, _ := impl.PlainPasture(10, 10, 1000)
	list := slices.Repeat([]impl.Goat{freeGoat(spotAt(9, 9), 100, impl.LiRich)}, 20)
	left, days, code := impl.FeedDays(p, list, 60)
	expect(t, "FeedDays", 28000, slices.Repeat([]int64{1200}, 60), 0)(int64(grassIn(left)), days, code)
}

func TestFeedingByHand(t *testing.T) {
	for _, f := range someFlocks() {
		turn, sums := f.inTurn()
		expect(t, "FeedInTurn", turn.p, turn.list, sums, 0)(impl.FeedInTurn(f.p, f.list))
		bites, each := f.byBites()
		expect(t, "FeedByBites", bites.p, bites.list, each, 0)(impl.FeedByBites(f.p, f.list))
		var hungry []int64
		need := 0
		for i, g := range f.list {
			one, eaten := flock{f.p, []impl.Goat{g}}.inTurn()
			expect(t, "FeedGoat", one.p, one.list[0], eaten[0], 0)(impl.FeedGoat(f.p, g))
			if each[i] < int64(g.Eats) {
				hungry = append(hungry, int64(i))
			}
			need += int(g.Eats)
		}
		expect(t, "HungryGoats", hungry, 0)(impl.HungryGoats(f.p, f.list))
		expect(t, "NeedOf", need, 0)(impl.NeedOf(f.p, f.list))
	}
}

func TestDaysByHand(t *testing.T) {
	for i, f := range someFlocks() {
		var days []int64
		now := f.copied()
		for range i % 7 {
			var eaten []int64
			now, eaten = now.byBites()
			days = append(days, sumOf(eaten))
		}
		expect(t, "FeedDays", now.p, days, 0)(impl.FeedDays(f.p, f.list, int64(i%7)))
	}
}

func TestWhoEatsAtAndCanMeet(t *testing.T) {
	for _, f := range someFlocks() {
		who := map[impl.Spot][]int64{}
		meet := map[[2]int64]bool{}
		for i, g := range f.list {
			for _, s := range goatCells(f.p, g) {
				for _, other := range who[s] {
					meet[[2]int64{other, int64(i)}] = true
				}
				who[s] = append(who[s], int64(i))
			}
		}
		for _, s := range cellsOf(f.p) {
			expect(t, "WhoEatsAt", who[s], 0)(impl.WhoEatsAt(f.p, f.list, s))
		}
		var pairs [][2]int64
		for i := range int64(len(f.list)) {
			for j := i + 1; j < int64(len(f.list)); j++ {
				if meet[[2]int64{i, j}] {
					pairs = append(pairs, [2]int64{i, j})
				}
			}
		}
		expect(t, "CanMeet", pairs, 0)(impl.CanMeet(f.p, f.list))
	}
}

// Goats meet where there is no grass, too, but not over ropes that end beside each other, nor over hurdles.
func TestCanMeet(t *testing.T) {
	p := pastureOf(t, "0 0 0 0| 0")
	first, second := tiedGoat(spotAt(0, 0), spotAt(0, 0), 1, 0, 0), tiedGoat(spotAt(3, 0), spotAt(3, 0), 1, 0, 0)
	free, shut := freeGoat(spotAt(2, 0), 0, 0), freeGoat(spotAt(4, 0), 0, 0)
	list := []impl.Goat{first, second, shut, free, first}
	expect(t, "CanMeet", [][2]int64{{0, 3}, {0, 4}, {1, 3}, {3, 4}}, 0)(impl.CanMeet(p, list))
	expect(t, "one goat", [][2]int64(nil), 0)(impl.CanMeet(p, list[:1]))
	expect(t, "no goats", [][2]int64(nil), 0)(impl.CanMeet(p, nil))
	expect(t, "WhoEatsAt", []int64{0, 3, 4}, 0)(impl.WhoEatsAt(p, list, spotAt(1, 0)))
	expect(t, "WhoEatsAt", []int64{2}, 0)(impl.WhoEatsAt(p, list, spotAt(4, 0)))
}

func TestBareCells(t *testing.T) {
	expect(t, "example", []impl.Spot{spotAt(2, 1)}, 0)(impl.BareCells(examplePasture(t)))
	for _, f := range someFlocks() {
		var bare []impl.Spot
		for _, s := range cellsOf(f.p) {
			if grassAt(f.p, s) == 0 {
				bare = append(bare, s)
			}
		}
		expect(t, "BareCells", bare, 0)(impl.BareCells(f.p))
	}
}

// A goat that is tied already is tied anew, where it stands.
func TestTieGoat(t *testing.T) {
	for _, f := range someFlocks() {
		for _, g := range f.list {
			for _, rope := range []int{0, 1, 162, 199, 200} {
				tied := tiedGoat(g.At, g.At, rope, int(g.Eats), g.Likes)
				expect(t, "TieGoat", tied, 0)(impl.TieGoat(f.p, g, int64(rope)))
				expect(t, "valid", true)(impl.ValidGoats(f.p, []impl.Goat{tied}))
			}
			for _, rope := range []int64{-1, 201, 256, 65536, 1 << 32, math.MinInt64, math.MaxInt64} {
				expectCode(t, "TieGoat", impl.ErrRange)(impl.TieGoat(f.p, g, rope))
			}
		}
	}
}
