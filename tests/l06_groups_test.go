package tests

import (
	"math/rand"
	"slices"
	"strconv"
	"testing"

	"loop.example/g01345/impl"
)

// badNumbers are no numbers of groups of three goats.
func badNumbers() [][]int64 {
	list := [][]int64{nil, {0}, {0, 1}, {0, 1, 0, 1}, {0, 0, 0, 0}, slices.Repeat([]int64{0}, 14)}
	for _, number := range append([]int64{14, 15, 64, 256}, extremes...) {
		list = append(list, []int64{number, 1, 0}, []int64{0, number, 0}, []int64{0, 1, number}, []int64{0, 0, number}, []int64{number, number, number})
	}
	return list
}

func TestCheckGroups(t *testing.T) {
	h := exampleHerd()
	for _, groups := range [][]int64{{0, 1, 0}, {0, 1, 2}, {13, 0, 13}, {0, 13, 0}, {5, 6, 7}, {1, 0, 1}} {
		expect(t, "peaceful", true, 0)(impl.CheckGroups(h, groups))
		expectCode(t, "peaceful", impl.ErrNotFound)(impl.FirstQuarrel(h, groups))
	}
	for _, groups := range [][]int64{{0, 0, 0}, {0, 0, 1}, {1, 0, 0}, {13, 13, 0}, {0, 13, 13}} {
		expect(t, "not peaceful", false, 0)(impl.CheckGroups(h, groups))
	}
	for _, groups := range badNumbers() {
		expect(t, "not as told", false, 0)(impl.CheckGroups(h, groups))
	}
	expect(t, "no goats", true, 0)(impl.CheckGroups(impl.Herd{}, nil))
	expect(t, "a number for no goats", false, 0)(impl.CheckGroups(impl.Herd{}, []int64{0}))
}

func TestFirstQuarrel(t *testing.T) {
	h := exampleHerd()
	expect(t, "both pairs", 0, 1, 0)(impl.FirstQuarrel(h, []int64{0, 0, 0}))
	expect(t, "the first pair", 0, 1, 0)(impl.FirstQuarrel(h, []int64{13, 13, 0}))
	expect(t, "the second pair", 1, 2, 0)(impl.FirstQuarrel(h, []int64{1, 0, 0}))
	expectCode(t, "no foes in it", impl.ErrNotFound)(impl.FirstQuarrel(h, []int64{1, 0, 1}))
	expectCode(t, "no goats", impl.ErrNotFound)(impl.FirstQuarrel(impl.Herd{}, nil))
	expectCode(t, "a number for no goats", impl.ErrState)(impl.FirstQuarrel(impl.Herd{}, []int64{0}))
	for _, groups := range badNumbers() {
		expectCode(t, "not as told", impl.ErrState)(impl.FirstQuarrel(h, groups))
	}
	// Pairs are ordered by the lesser index first: 0, 13 comes ahead of 1, 2.
	far := herdWith(14, [2]int{0, 13}, [2]int{1, 2}, [2]int{12, 13})
	expect(t, "the lesser one first", 0, 13, 0)(impl.FirstQuarrel(far, make([]int64, 14)))
	groups := make([]int64, 14)
	groups[0] = 1
	expect(t, "then the next one", 1, 2, 0)(impl.FirstQuarrel(far, groups))
	groups[2] = 2
	expect(t, "then the last one", 12, 13, 0)(impl.FirstQuarrel(far, groups))
}

// All lists of groups of small herds, and some of great ones.
func TestGroupsOfAllLists(t *testing.T) {
	r := rand.New(rand.NewSource(63))
	for _, h := range someHerds() {
		count := len(h.Names)
		lists := [][]int64{make([]int64, count)}
		if count <= 4 {
			lists = everyList(count, 3)
		}
		for range 10 {
			var groups []int64
			for range count {
				groups = append(groups, r.Int63n(1+r.Int63n(14)))
			}
			lists = append(lists, groups)
		}
		for _, groups := range lists {
			a, b, found := quarrelByHand(h, groups)
			expect(t, "CheckGroups", !found, 0)(impl.CheckGroups(h, groups))
			if found {
				expect(t, "FirstQuarrel", a, b, 0)(impl.FirstQuarrel(h, groups))
			} else {
				expectCode(t, "FirstQuarrel", impl.ErrNotFound)(impl.FirstQuarrel(h, groups))
			}
			expect(t, "NeedsOf", needsByHand(h, groups), 0)(impl.NeedsOf(h, groups))
		}
	}
}

func TestGreedyGroups(t *testing.T) {
	h := exampleHerd()
	for _, v := range []struct{ order, want []int64 }{
		{[]int64{0, 1, 2}, []int64{0, 1, 0}},
		{[]int64{1, 2, 0}, []int64{1, 0, 1}},
		{[]int64{2, 0, 1}, []int64{0, 1, 0}},
	} {
		expect(t, "GreedyGroups", v.want, 0)(impl.GreedyGroups(h, v.order))
	}
	// On a way of four foes, the ends first, the goats between them need two more groups.
	way := herdWith(4, [2]int{0, 1}, [2]int{1, 2}, [2]int{2, 3})
	expect(t, "the ends first", []int64{0, 1, 2, 0}, 0)(impl.GreedyGroups(way, []int64{0, 3, 1, 2}))
	expect(t, "along the way", []int64{0, 1, 0, 1}, 0)(impl.GreedyGroups(way, []int64{0, 1, 2, 3}))
	expect(t, "no goats", []int64(nil), 0)(impl.GreedyGroups(impl.Herd{}, nil))
	expect(t, "all foes", []int64{13, 12, 11, 10, 9, 8, 7, 6, 5, 4, 3, 2, 1, 0}, 0)(impl.GreedyGroups(herdWith(14, pairsBelow(14)...), []int64{13, 12, 11, 10, 9, 8, 7, 6, 5, 4, 3, 2, 1, 0}))
	bad := [][]int64{nil, {}, {0}, {0, 1}, {0, 0, 1}, {0, 1, 1}, {2, 1, 2}, {0, 1, 2, 0}, {0, 1, 2, 2}, {0, 1, 2, 3}, {0, 1, 3}, {-1, 0, 1}, {1, 2, 3}, {0, 1, 2, -1}, {0, 1, 1 << 40}}
	for _, order := range bad {
		expectCode(t, "no order", impl.ErrState)(impl.GreedyGroups(h, order))
	}
	for _, order := range [][]int64{{0}, {-1}, {14}} {
		expectCode(t, "an order of no goats", impl.ErrState)(impl.GreedyGroups(impl.Herd{}, order))
	}
}

func TestGreedyGroupsInAnyOrder(t *testing.T) {
	r := rand.New(rand.NewSource(64))
	for _, h := range someHerds() {
		for range 10 {
			order := shuffled(r, len(h.Names))
			expect(t, "GreedyGroups", greedyGroupsByHand(h, order), 0)(impl.GreedyGroups(h, order))
			if len(order) > 1 {
				order[0] = order[1]
				expectCode(t, "one twice", impl.ErrState)(impl.GreedyGroups(h, order))
			}
		}
	}
}

// Of several ways the list counts that comes first, which need not be that of greedy groups.
func TestFewestGroups(t *testing.T) {
	for _, v := range []struct {
		h    impl.Herd
		want []int64
	}{
		{impl.Herd{}, nil},
		{herdWith(1), []int64{0}},
		{herdWith(2), []int64{0, 0}},
		{herdWith(2, [2]int{0, 1}), []int64{0, 1}},
		{herdWith(14), make([]int64, 14)},
		{herdWith(14, pairsBelow(14)...), indicesBelow(14)},
		// 1 could be with 0 if there were three groups.
		{herdWith(4, [2]int{0, 2}, [2]int{2, 3}, [2]int{1, 3}), []int64{0, 1, 1, 0}},
		// 2 can be in either group: the least one comes first.
		{herdWith(4, [2]int{0, 1}, [2]int{1, 3}), []int64{0, 1, 0, 0}},
		{herdWith(5, ringFrom(0, 5)...), []int64{0, 1, 0, 1, 2}},
		// The goats that are no foes of others take the least number, also when foes behind them need three groups.
		{herdWith(8, ringFrom(3, 5)...), []int64{0, 0, 0, 0, 1, 0, 1, 2}},
		// Greedy groups put 0 and 1 together, then 2, 3 into one each, and need three.
		{herdWith(6, [2]int{0, 3}, [2]int{0, 5}, [2]int{1, 2}, [2]int{2, 3}, [2]int{2, 5}, [2]int{1, 4}, [2]int{3, 4}, [2]int{4, 5}), []int64{0, 1, 0, 1, 0, 1}},
	} {
		expect(t, herdByHand(v.h), v.want, differentOf(v.want), 0)(impl.FewestGroups(v.h))
	}
}

// All lists of groups of small herds are tried: none with fewer groups is peaceful, and none with as many comes ahead.
func TestFewestGroupsOfAllLists(t *testing.T) {
	herds := slices.Concat(everyHerd(0), everyHerd(1), everyHerd(2), everyHerd(3), everyHerd(4))
	r := rand.New(rand.NewSource(65))
	for range 100 {
		herds = append(herds, randomHerd(r, 5, 1+r.Intn(9)))
	}
	for _, h := range herds {
		groups, count := fewestByHand(h)
		expect(t, herdByHand(h), groups, count, 0)(impl.FewestGroups(h))
	}
}

func TestFewestGroupsOfGreatHerds(t *testing.T) {
	r := rand.New(rand.NewSource(66))
	herds := hardHerds()
	for foes := range 11 {
		herds = append(herds, randomHerd(r, 14, foes), randomHerd(r, 13, foes), randomHerd(r, 11, foes), randomHerd(r, 8, foes))
	}
	for _, h := range herds {
		count := fewestCount(h)
		expect(t, herdByHand(h), firstGroups(h, nil, count), count, 0)(impl.FewestGroups(h))
	}
}

func TestAllFoesAndMostPeaceful(t *testing.T) {
	for _, v := range []struct {
		h         impl.Herd
		all, calm []int64
	}{
		{impl.Herd{}, nil, nil},
		{herdWith(1), []int64{0}, []int64{0}},
		{herdWith(3), []int64{0}, []int64{0, 1, 2}},
		{herdWith(3, pairsBelow(3)...), []int64{0, 1, 2}, []int64{0}},
		// 0, 3 comes ahead of 1, 2, and 0, 1 ahead of 2, 3, whatever their bits are worth.
		{herdWith(4, [2]int{0, 3}, [2]int{1, 2}), []int64{0, 3}, []int64{0, 1}},
		{herdWith(4, [2]int{0, 1}, [2]int{2, 3}), []int64{0, 1}, []int64{0, 2}},
		{herdWith(4, [2]int{0, 1}, [2]int{0, 2}, [2]int{1, 3}, [2]int{2, 3}), []int64{0, 1}, []int64{0, 3}},
		// More goats count more than those that come first.
		{herdWith(5, [2]int{0, 1}, [2]int{2, 3}, [2]int{3, 4}, [2]int{2, 4}), []int64{2, 3, 4}, []int64{0, 2}},
		{herdWith(5, [2]int{0, 1}, [2]int{0, 2}, [2]int{0, 3}, [2]int{0, 4}), []int64{0, 1}, []int64{1, 2, 3, 4}},
		{herdWith(14), []int64{0}, indicesBelow(14)},
		{herdWith(14, pairsBelow(14)...), indicesBelow(14), []int64{0}},
	} {
		expect(t, herdByHand(v.h), v.all, 0)(impl.AllFoes(v.h))
		expect(t, herdByHand(v.h), v.calm, 0)(impl.MostPeaceful(v.h))
	}
}

func TestAllFoesAndMostPeacefulOfAllSets(t *testing.T) {
	r := rand.New(rand.NewSource(67))
	herds := someHerds()
	for range 200 {
		herds = append(herds, randomHerd(r, 5+r.Intn(4), 1+r.Intn(9)))
	}
	for _, h := range herds {
		expect(t, herdByHand(h), mostGoats(h, true), 0)(impl.AllFoes(h))
		expect(t, herdByHand(h), mostGoats(h, false), 0)(impl.MostPeaceful(h))
	}
}

func TestNeedsOf(t *testing.T) {
	h := exampleHerd()
	for _, v := range []struct{ groups, want []int64 }{
		{[]int64{0, 1, 0}, []int64{8, 7}},
		{[]int64{0, 0, 0}, []int64{15}},
		{[]int64{2, 1, 0}, []int64{3, 7, 5}},
		{[]int64{1, 3, 1}, []int64{0, 8, 0, 7}},
		{[]int64{13, 0, 13}, []int64{7, 0, 0, 0, 0, 0, 0, 0, 0, 0, 0, 0, 0, 8}},
	} {
		expect(t, "NeedsOf", v.want, 0)(impl.NeedsOf(h, v.groups))
	}
	expect(t, "no goats", []int64(nil), 0)(impl.NeedsOf(impl.Herd{}, nil))
	expectCode(t, "a number for no goats", impl.ErrState)(impl.NeedsOf(impl.Herd{}, []int64{0}))
	expect(t, "goats that eat nothing", []int64{0, 100}, 0)(impl.NeedsOf(herdOf("eva 0 fay", "fay 100 eva"), []int64{0, 1}))
	most := herdWith(14)
	for i := range most.Eats {
		most.Eats[i] = 100
	}
	expect(t, "all that can be", []int64{1400}, 0)(impl.NeedsOf(most, make([]int64, 14)))
	for _, groups := range badNumbers() {
		expectCode(t, "not as told", impl.ErrState)(impl.NeedsOf(h, groups))
		for _, yards := range [][]int64{nil, {7, 9, 20}, {-1}, make([]int64, 15)} {
			expectCode(t, "not as told", impl.ErrState)(impl.FitGroups(h, groups, yards))
		}
	}
}

func TestFitGroups(t *testing.T) {
	h := exampleHerd()
	groups := []int64{0, 1, 0} // which need 8 and 7
	for _, v := range []struct{ yards, want []int64 }{
		{[]int64{8, 7}, []int64{0, 1}},
		{[]int64{7, 8}, []int64{1, 0}},
		{[]int64{8, 8}, []int64{0, 1}},
		{[]int64{20, 9, 7}, []int64{0, 1}},
		{[]int64{9, 20}, []int64{0, 1}},
		{[]int64{7, 7, 9}, []int64{2, 0}},
		{[]int64{6, 6, 8, 6, 7}, []int64{2, 4}},
		{[]int64{0, 1000000, 1000000}, []int64{1, 2}},
		{[]int64{0, 0, 0, 0, 0, 0, 0, 0, 0, 0, 0, 0, 7, 8}, []int64{13, 12}},
	} {
		expect(t, "FitGroups", v.want, 0)(impl.FitGroups(h, groups, v.yards))
	}
	for _, yards := range [][]int64{nil, {8}, {1000000}, {7, 7}, {8, 6}, {6, 8}, {0, 0, 0}, {20, 0}, {1000000, 6, 6, 6, 6, 6, 6, 6, 6, 6, 6, 6, 6, 6}} {
		expectCode(t, "no way", impl.ErrNotFound)(impl.FitGroups(h, groups, yards))
	}
	// A group that comes ahead must leave the only yard that is great enough for a later one.
	expect(t, "left for the later one", []int64{1, 0}, 0)(impl.FitGroups(h, []int64{0, 1, 1}, []int64{10, 5, 5}))
	// A group in a gap needs nothing, but a yard of its own.
	expect(t, "a gap", []int64{0, 2, 1}, 0)(impl.FitGroups(h, []int64{1, 2, 1}, []int64{0, 7, 8}))
	expect(t, "a gap takes the first one", []int64{0, 1, 2}, 0)(impl.FitGroups(h, []int64{1, 2, 1}, []int64{9, 9, 9, 0}))
	expectCode(t, "no yard for a gap", impl.ErrNotFound)(impl.FitGroups(h, []int64{1, 2, 1}, []int64{7, 8}))
	// Groups of foes have needs as well.
	expect(t, "not peaceful", []int64{1}, 0)(impl.FitGroups(h, []int64{0, 0, 0}, []int64{14, 15}))
	expect(t, "no goats", []int64(nil), 0)(impl.FitGroups(impl.Herd{}, nil, nil))
	expect(t, "no goats", []int64(nil), 0)(impl.FitGroups(impl.Herd{}, nil, []int64{5}))
}

func TestYardsOfGroups(t *testing.T) {
	h, groups := exampleHerd(), []int64{0, 1, 0}
	many := slices.Repeat([]int64{9}, 14)
	expect(t, "most yards", []int64{0, 1}, 0)(impl.FitGroups(h, groups, many))
	for _, count := range []int{15, 16, 100, 1000000} {
		for _, grass := range []int64{9, 0, -1, 1000001} {
			expectCode(t, "too many yards", impl.ErrLimit)(impl.FitGroups(h, groups, slices.Repeat([]int64{grass}, count)))
		}
		expectCode(t, "no goats", impl.ErrLimit)(impl.FitGroups(impl.Herd{}, nil, make([]int64, count)))
	}
	for _, grass := range append([]int64{1000001}, extremes...) {
		for _, yards := range [][]int64{{grass}, {grass, 9, 9}, {9, 9, grass}, {0, grass}, {grass, grass}, append(slices.Clone(many[1:]), grass)} {
			expectCode(t, "no such yard", impl.ErrRange)(impl.FitGroups(h, groups, yards))
			expectCode(t, "no goats", impl.ErrRange)(impl.FitGroups(impl.Herd{}, nil, yards))
		}
	}
}

func TestFitGroupsOfAllWays(t *testing.T) {
	r := rand.New(rand.NewSource(68))
	found := 0
	for _, h := range someHerds() {
		for i := range 20 {
			var groups, yards []int64
			for range h.Names {
				groups = append(groups, r.Int63n(int64(1+i%5)))
			}
			for range r.Intn(7) {
				yards = append(yards, r.Int63n([]int64{30, 100, 300, 1000}[r.Intn(4)]))
			}
			way, can := fitByHand(needsByHand(h, groups), yards, nil)
			if can {
				found++
				expect(t, "FitGroups", way, 0)(impl.FitGroups(h, groups, yards))
			} else {
				expectCode(t, "FitGroups", impl.ErrNotFound)(impl.FitGroups(h, groups, yards))
			}
		}
	}
	if found < 300 {
		t.Errorf("%d ways", found)
	}
}

// Of 14 groups and 14 yards there are more ways than can be tried one after the other.
func TestFitMostGroups(t *testing.T) {
	h := herdWith(14)
	for i := range h.Eats {
		h.Eats[i] = int16(i)
	}
	same, down := indicesBelow(14), indicesBelow(14)
	slices.Reverse(down)
	expect(t, "one way", same, 0)(impl.FitGroups(h, same, same))
	expect(t, "one way", down, 0)(impl.FitGroups(h, same, down))
	expect(t, "all fit", same, 0)(impl.FitGroups(h, same, slices.Repeat([]int64{13}, 14)))
	lacks := slices.Repeat([]int64{12}, 14)
	expectCode(t, "the last one has none", impl.ErrNotFound)(impl.FitGroups(h, same, lacks))
	lacks[0] = 13
	want := append([]int64{}, 1, 2, 3, 4, 5, 6, 7, 8, 9, 10, 11, 12, 13, 0)
	expect(t, "the first yard is for the last one", want, 0)(impl.FitGroups(h, same, lacks))
	lacks[1] = 0
	want[0], want[1] = 1, 2
	expect(t, "one without grass", want, 0)(impl.FitGroups(h, same, lacks))
	lacks[2] = 0
	expectCode(t, "two without grass", impl.ErrNotFound)(impl.FitGroups(h, same, lacks))
}

func TestCutColumn(t *testing.T) {
	row, lone := pastureOf(t, "5 0 0 5"), pastureOf(t, "4", "6")
	for _, v := range []struct {
		p    impl.Pasture
		a, b int64
		want int64
	}{
		{row, 1, 1, 1},  // at 1, 2 and 3 both sides have 5
		{row, 3, 3, 1},  // as above
		{row, 1, 0, 4},  // all for the first herd
		{row, 0, 1, 0},  // all for the second one
		{row, 3, 1, 1},  // at 1 to 3 it is 5 - 15, and at 4 it is 10
		{row, 1, 3, 0},  // at 0 it is -10, as it is 10 at 1 to 3
		{row, 7, 2, 4},  // at 1 it is 10 - 35, and at 4 it is 20
		{lone, 1, 1, 0}, // at 0 and at 1 all is on one side
		{lone, 2, 1, 1},
		{lone, 1, 2, 0},
		{lone, 1000000, 999999, 1},
		{lone, 999999, 1000000, 0},
		{pastureOf(t, "0 0 0"), 5, 7, 0},
		{pastureOf(t, "0"), 1, 0, 0},
		{pastureOf(t, "0 0 7"), 1, 0, 3},
		{pastureOf(t, "0 7 0"), 0, 1, 0},
		{pastureOf(t, "7| 7| 7| 7"), 1, 3, 1},
		{pastureOf(t, "1 2 3", "3 2 1"), 1, 2, 1},
	} {
		expect(t, impl.PastureText(v.p)+strconv.Itoa(int(v.a))+" and "+strconv.Itoa(int(v.b)), v.want, 0)(impl.CutColumn(v.p, v.a, v.b))
	}
}

func TestRangesOfCutColumn(t *testing.T) {
	p := examplePasture(t)
	expectCode(t, "no needs", impl.ErrState)(impl.CutColumn(p, 0, 0))
	for _, bad := range append([]int64{1000001}, extremes...) {
		for _, other := range []int64{0, 1, 1000000, bad} {
			expectCode(t, "CutColumn", impl.ErrRange)(impl.CutColumn(p, bad, other))
			expectCode(t, "CutColumn", impl.ErrRange)(impl.CutColumn(p, other, bad))
		}
	}
	full, _ := impl.PlainPasture(10, 10, 1000)
	for _, v := range [][3]int64{{1000000, 1000000, 5}, {1000000, 0, 10}, {0, 1000000, 0}, {1000000, 1, 10}, {1, 1000000, 0}, {300000, 700000, 3}} {
		expect(t, "all that can be", v[2], 0)(impl.CutColumn(full, v[0], v[1]))
	}
}

func TestCutColumnOfAllColumns(t *testing.T) {
	r := rand.New(rand.NewSource(69))
	for _, p := range somePastures() {
		for range 10 {
			most := []int64{3, 20, 1000, 1000001}[r.Intn(4)]
			a, b := r.Int63n(most), r.Int63n(most)
			if a == 0 && b == 0 {
				expectCode(t, "CutColumn", impl.ErrState)(impl.CutColumn(p, a, b))
			} else {
				expect(t, "CutColumn", cutByHand(p, a, b), 0)(impl.CutColumn(p, a, b))
			}
		}
	}
}

func TestWateredYards(t *testing.T) {
	p := partedPasture(t)
	yards := yardsByHand(p)
	expect(t, "no water", []int64(nil), 0)(impl.WateredYards(p, nil))
	expect(t, "all cells", indicesBelow(len(yards)), 0)(impl.WateredYards(p, cellsOf(p)))
	two := pastureOf(t, "1| 2", "1| 2")
	for _, v := range []struct {
		water []impl.Spot
		want  []int64
	}{
		{wayOf(0, 0), []int64{0}}, {wayOf(1, 1), []int64{1}}, {wayOf(1, 0, 1, 0), []int64{1}}, {wayOf(1, 0, 1, 1, 1, 0), []int64{1}},
		{wayOf(1, 1, 0, 0), []int64{0, 1}}, {wayOf(0, 1, 1, 0), []int64{0, 1}}, {wayOf(1, 0, 0, 0, 1, 0), []int64{0, 1}},
	} {
		expect(t, "WateredYards", v.want, 0)(impl.WateredYards(two, v.water))
	}
	for _, bad := range badSpots {
		for _, water := range [][]impl.Spot{{bad}, {spotAt(0, 0), bad}, {bad, spotAt(0, 0)}, {bad, bad}} {
			expectCode(t, "no cell", impl.ErrRange)(impl.WateredYards(two, water))
		}
	}
	r := rand.New(rand.NewSource(70))
	for _, p := range somePastures() {
		cells := cellsOf(p)
		for count := range 5 {
			var water []impl.Spot
			for range count {
				water = append(water, cells[r.Intn(len(cells))])
			}
			expect(t, "WateredYards", wateredByHand(p, water), 0)(impl.WateredYards(p, water))
		}
	}
}
