package tests

import (
	"math"
	"slices"
	"strconv"
	"testing"

	"loop.example/g01345/impl"
)

func TestExampleOfTethers(t *testing.T) {
	p, _ := impl.PlainPasture(3, 3, 5)
	middle, corner := stakeAt(1, 1, 1), stakeAt(0, 0, 1)
	both := []impl.Stake{middle, corner}
	expect(t, "ReachOf", wayOf(1, 0, 0, 1, 1, 1, 2, 1, 1, 2), 0)(impl.ReachOf(p, middle))
	expect(t, "FoodOf", 25, 0)(impl.FoodOf(p, middle))
	expect(t, "CommonOf", wayOf(1, 0, 0, 1), 0)(impl.CommonOf(p, middle, corner))
	expect(t, "MeetingPairs", [][2]int64{{0, 1}}, 0)(impl.MeetingPairs(p, both))
	expect(t, "GreatestReach", 0, 0)(impl.GreatestReach(p, both, 1))
	expect(t, "GreedyStakes", wayOf(0, 0, 2, 1), 0)(impl.GreedyStakes(p, 1))
	most, _, code := impl.MostStakes(p, 1, impl.MaxLooks)
	expect(t, "MostStakes", wayOf(0, 0, 2, 1), int64(impl.OK))(most, code)
	expect(t, "WindsOf", 1, 0)(impl.WindsOf(p, spotAt(1, 1), aroundMiddle()))
}

func TestValidStakes(t *testing.T) {
	p := examplePasture(t)
	for _, v := range someStakings() {
		expect(t, stakesByHand(v.list), true)(impl.ValidStakes(v.p, v.list))
	}
	for name, list := range invalidStakes() {
		expect(t, name, false)(impl.ValidStakes(p, list))
	}
	for name, q := range invalidPastures() {
		expect(t, name, false)(impl.ValidStakes(q, nil))
		expect(t, name, false)(impl.ValidStakes(q, []impl.Stake{{}}))
	}
	for reach := -32768; reach < 32768; reach++ {
		expect(t, "reach", reach >= 0 && reach <= 200)(impl.ValidStakes(p, []impl.Stake{stakeAt(1, 1, reach)}))
	}
	for x := -128; x < 128; x++ {
		for y := -128; y < 128; y++ {
			expect(t, "cell", isCell(p, spotAt(x, y)))(impl.ValidStakes(p, []impl.Stake{stakeAt(x, y, 3)}))
		}
	}
}

func TestMostAndMoreStakes(t *testing.T) {
	p, _ := impl.PlainPasture(10, 10, 1)
	for count := range 101 {
		list := stakesAt(cellsOf(p)[:count], 0)
		expect(t, strconv.Itoa(count), count <= 12)(impl.ValidStakes(p, list))
		_, code := impl.MeetingPairs(p, list)
		expect(t, "MeetingPairs", count <= 12)(code == impl.OK)
	}
}

func TestSameStakes(t *testing.T) {
	a := []impl.Stake{stakeAt(1, 1, 1), stakeAt(0, 0, 1)}
	expect(t, "equal", true)(impl.SameStakes(a, slices.Clone(a)))
	expect(t, "none", true)(impl.SameStakes(nil, []impl.Stake{}))
	expect(t, "none and some", false)(impl.SameStakes(nil, a))
	expect(t, "shorter", false)(impl.SameStakes(a, a[:1]))
	expect(t, "other order", false)(impl.SameStakes(a, []impl.Stake{a[1], a[0]}))
	for _, other := range []impl.Stake{stakeAt(1, 0, 1), stakeAt(0, 1, 1), stakeAt(0, 0, 0), stakeAt(0, 0, 257)} {
		expect(t, "another one", false)(impl.SameStakes(a, []impl.Stake{a[0], other}))
	}
	bad := []impl.Stake{stakeAt(-9, 99, -1), stakeAt(-9, 99, -1)}
	expect(t, "not valid", true)(impl.SameStakes(bad, slices.Clone(bad)))
	expect(t, "many", true)(impl.SameStakes(slices.Repeat(a, 500000), slices.Repeat(a, 500000)))
}

// Also spots far outside have a square.
func TestSquareOf(t *testing.T) {
	numbers := []int{-128, -127, -100, -1, 0, 1, 2, 3, 9, 10, 64, 126, 127}
	for _, x := range numbers {
		for _, y := range numbers {
			for _, u := range numbers {
				for _, v := range numbers {
					expect(t, "SquareOf", (x-u)*(x-u)+(y-v)*(y-v))(impl.SquareOf(spotAt(x, y), spotAt(u, v)))
				}
			}
		}
	}
	expect(t, "farthest", 130050)(impl.SquareOf(spotAt(-128, -128), spotAt(127, 127)))
}

func TestReachOf(t *testing.T) {
	for _, v := range someStakings() {
		for _, stake := range v.list {
			expect(t, "ReachOf", reachByHand(v.p, stake), 0)(impl.ReachOf(v.p, stake))
			expect(t, "FoodOf", foodByHand(v.p, stake), 0)(impl.FoodOf(v.p, stake))
		}
	}
}

// A cell is reached if its square is just the reach, and not if it is one more.
func TestSquaresAtTheReach(t *testing.T) {
	p, _ := impl.PlainPasture(10, 10, 7)
	for _, at := range wayOf(0, 0, 9, 9, 4, 5) {
		for reach := range impl.MaxReach + 1 {
			var want []impl.Spot
			for _, s := range cellsOf(p) {
				if squareOf(s, at) <= reach {
					want = append(want, s)
				}
			}
			stake := impl.Stake{At: at, Reach: int16(reach)}
			expect(t, "ReachOf", want, 0)(impl.ReachOf(p, stake))
			expect(t, "FoodOf", 7*len(want), 0)(impl.FoodOf(p, stake))
		}
	}
	row := pastureOf(t, "1 2 4 8")
	expect(t, "just above", wayOf(0, 0, 1, 0), 0)(impl.ReachOf(row, stakeAt(0, 0, 3)))
	expect(t, "just at", wayOf(0, 0, 1, 0, 2, 0), 0)(impl.ReachOf(row, stakeAt(0, 0, 4)))
	expect(t, "no reach", 4, 0)(impl.FoodOf(row, stakeAt(2, 0, 0)))
}

// A near cell in another yard is not reached; one behind a hurdle is, if it is in the same yard.
func TestReachesOfYards(t *testing.T) {
	cut := pastureOf(t, "1| 2 4", "8| 16 32")
	expect(t, "west", wayOf(0, 0, 0, 1), 0)(impl.ReachOf(cut, stakeAt(0, 0, 200)))
	expect(t, "west", 9, 0)(impl.FoodOf(cut, stakeAt(0, 1, 200)))
	expect(t, "east", wayOf(1, 0, 1, 1, 2, 1), 0)(impl.ReachOf(cut, stakeAt(1, 1, 1)))
	expect(t, "across", []impl.Spot(nil), 0)(impl.CommonOf(cut, stakeAt(0, 0, 200), stakeAt(1, 0, 200)))
	expect(t, "across", [][2]int64(nil), 0)(impl.MeetingPairs(cut, []impl.Stake{stakeAt(0, 0, 200), stakeAt(1, 0, 200)}))
	expect(t, "across", 200, 0)(impl.GreatestReach(cut, []impl.Stake{stakeAt(0, 0, 200), stakeAt(1, 0, 200)}, 0))
	expect(t, "one in each yard", wayOf(0, 0, 1, 0), 0)(impl.GreedyStakes(cut, 200))
	expect(t, "around", wayOf(0, 0, 1, 0, 2, 0, 1, 1), 0)(impl.ReachOf(examplePasture(t), stakeAt(1, 0, 1)))
}

func TestCommonOf(t *testing.T) {
	p := examplePasture(t)
	for _, v := range someStakings() {
		for _, a := range v.list {
			for _, b := range v.list {
				want := cellsReached(v.p, []impl.Stake{a, b}, 2, 2)
				expect(t, "CommonOf", want, 0)(impl.CommonOf(v.p, a, b))
			}
		}
	}
	near, far := stakeAt(1, 0, 0), stakeAt(1, 0, 1)
	expect(t, "in one cell", wayOf(1, 0), 0)(impl.CommonOf(p, near, far))
	expect(t, "in one cell", wayOf(1, 0), 0)(impl.CommonOf(p, far, near))
	expect(t, "the same", wayOf(0, 0, 1, 0, 2, 0, 1, 1), 0)(impl.CommonOf(p, far, far))
	expectCode(t, "in one list", impl.ErrInvalid)(impl.MeetingPairs(p, []impl.Stake{near, far}))
}

func TestMeetingPairs(t *testing.T) {
	for _, v := range someStakings() {
		var want [][2]int64
		for i := range v.list {
			for j := i + 1; j < len(v.list); j++ {
				if doMeet(v.p, v.list[i], v.list[j]) {
					want = append(want, [2]int64{int64(i), int64(j)})
				}
			}
		}
		expect(t, "MeetingPairs", want, 0)(impl.MeetingPairs(v.p, v.list))
	}
	row := pastureOf(t, "1 1 1 1 1 1 1")
	list := []impl.Stake{stakeAt(6, 0, 1), stakeAt(0, 0, 1), stakeAt(4, 0, 1), stakeAt(2, 0, 1)}
	expect(t, "least index first", [][2]int64{{0, 2}, {1, 3}, {2, 3}}, 0)(impl.MeetingPairs(row, list))
	expect(t, "no stakes", [][2]int64(nil), 0)(impl.MeetingPairs(row, nil))
	expect(t, "one stake", [][2]int64(nil), 0)(impl.MeetingPairs(row, list[:1]))
}

func wantGreatest(t *testing.T, p impl.Pasture, list []impl.Stake, index int) {
	t.Helper()
	if want := greatestByHand(p, list, index); want >= 0 {
		expect(t, "GreatestReach", want, 0)(impl.GreatestReach(p, list, int64(index)))
	} else {
		expectCode(t, "GreatestReach", impl.ErrNotFound)(impl.GreatestReach(p, list, int64(index)))
	}
}

func TestGreatestReach(t *testing.T) {
	for i, v := range someStakings() {
		if len(v.list) > 0 && (len(cellsOf(v.p)) < 10 || i%3 == 0) {
			wantGreatest(t, v.p, v.list, i%len(v.list))
		}
	}
}

func TestGreatestReaches(t *testing.T) {
	row := pastureOf(t, "1 1 1 1 1 1 1 1")
	alone := []impl.Stake{stakeAt(3, 0, 0)}
	expect(t, "alone", 200, 0)(impl.GreatestReach(row, alone, 0))
	list := []impl.Stake{stakeAt(0, 0, 1), stakeAt(5, 0, 0), stakeAt(7, 0, 4)}
	expect(t, "beside what is reached", 15, 0)(impl.GreatestReach(row, []impl.Stake{list[0], stakeAt(5, 0, 200)}, 1))
	expect(t, "whatever it has", 15, 0)(impl.GreatestReach(row, []impl.Stake{list[0], stakeAt(5, 0, 0)}, 1))
	expect(t, "the nearer one", 24, 0)(impl.GreatestReach(row, list, 0))
	expectCode(t, "its own cell is reached", impl.ErrNotFound)(impl.GreatestReach(row, list, 1))
	expect(t, "though it reaches that one", 3, 0)(impl.GreatestReach(row, list, 2))
	expect(t, "just beside", 0, 0)(impl.GreatestReach(row, []impl.Stake{list[0], stakeAt(2, 0, 9)}, 1))
	corners := []impl.Stake{stakeAt(0, 0, 0), stakeAt(9, 9, 0)}
	p, _ := impl.PlainPasture(10, 10, 0)
	expect(t, "from corner to corner", 161, 0)(impl.GreatestReach(p, corners, 0))
	expect(t, "from corner to corner", 161, 0)(impl.GreatestReach(p, corners, 1))
}

func TestIndicesOfNoStake(t *testing.T) {
	row := pastureOf(t, "1 1 1 1 1 1 1 1")
	list := []impl.Stake{stakeAt(0, 0, 200), stakeAt(5, 0, 0)}
	for _, index := range append(extremes, 2, 3, 256, 1<<32) {
		expectCode(t, "two stakes", impl.ErrRange)(impl.GreatestReach(row, list, index))
	}
	for _, index := range append(extremes, 0, 1) {
		expectCode(t, "no stakes", impl.ErrRange)(impl.GreatestReach(row, nil, index))
	}
}

// leastByHand returns the least reach with so much grass, or -1; it tries all of them.
func leastByHand(p impl.Pasture, at impl.Spot, grass int) int {
	for reach := range impl.MaxReach + 1 {
		if foodByHand(p, impl.Stake{At: at, Reach: int16(reach)}) >= grass {
			return reach
		}
	}
	return -1
}

func TestLeastReach(t *testing.T) {
	for i, v := range someStakings() {
		at := cellsOf(v.p)[i*7%len(cellsOf(v.p))]
		whole := foodByHand(v.p, impl.Stake{At: at, Reach: 200})
		for _, grass := range []int{0, min(1, whole), whole / 3, max(0, whole-1), whole} {
			expect(t, "LeastReach", leastByHand(v.p, at, grass), 0)(impl.LeastReach(v.p, at, int64(grass)))
		}
		for _, grass := range []int64{int64(whole) + 1, 1 << 40, math.MaxInt64} {
			expectCode(t, "more than the yard has", impl.ErrNotFound)(impl.LeastReach(v.p, at, grass))
		}
	}
}

// As much grass as is reached with a reach needs just this, and one more the next one; cells with equal squares come together.
func TestLeastReaches(t *testing.T) {
	p := pastureOf(t, "0 5 0", "7 3 9", "0 0 2")
	for _, want := range [][2]int64{{0, 0}, {1, 0}, {3, 0}, {4, 1}, {24, 1}, {25, 2}, {26, 2}} {
		expect(t, strconv.Itoa(int(want[0])), want[1], 0)(impl.LeastReach(p, spotAt(1, 1), want[0]))
	}
	expectCode(t, "one more", impl.ErrNotFound)(impl.LeastReach(p, spotAt(1, 1), 27))
	expect(t, "a bare cell", 0, 0)(impl.LeastReach(pastureOf(t, "0 0"), spotAt(0, 0), 0))
	expectCode(t, "a bare yard", impl.ErrNotFound)(impl.LeastReach(pastureOf(t, "0| 9"), spotAt(0, 0), 1))
	q, _ := impl.PlainPasture(10, 10, 1000)
	expect(t, "all there is", 162, 0)(impl.LeastReach(q, spotAt(0, 0), 100000))
	expectCode(t, "one more", impl.ErrNotFound)(impl.LeastReach(q, spotAt(0, 0), 100001))
}

func TestUncoveredAndSharedCells(t *testing.T) {
	for _, v := range someStakings() {
		expect(t, "UncoveredBy", cellsReached(v.p, v.list, 0, 0), 0)(impl.UncoveredBy(v.p, v.list))
		expect(t, "SharedCells", cellsReached(v.p, v.list, 2, 12), 0)(impl.SharedCells(v.p, v.list))
	}
	p := examplePasture(t)
	expect(t, "no stakes", cellsOf(p), 0)(impl.UncoveredBy(p, nil))
	expect(t, "no stakes", []impl.Spot(nil), 0)(impl.SharedCells(p, nil))
	row := pastureOf(t, "1 1 1 1 1")
	three := []impl.Stake{stakeAt(1, 0, 1), stakeAt(3, 0, 1), stakeAt(2, 0, 0)}
	expect(t, "reached from three", wayOf(2, 0), 0)(impl.SharedCells(row, three))
	expect(t, "all reached", []impl.Spot(nil), 0)(impl.UncoveredBy(row, three))
	wide := []impl.Stake{stakeAt(1, 0, 1), stakeAt(3, 0, 200), stakeAt(2, 0, 4)}
	expect(t, "all shared", cellsOf(row), 0)(impl.SharedCells(row, wide))
}

func TestGreedyStakes(t *testing.T) {
	for i, v := range someStakings() {
		for _, reach := range []int{i % 3, i % 10, i % 201} {
			expect(t, "GreedyStakes", greedyByHand(v.p, reach), 0)(impl.GreedyStakes(v.p, int64(reach)))
		}
	}
	p, _ := impl.PlainPasture(10, 10, 0)
	expect(t, "more than MaxStakes", cellsOf(p), 0)(impl.GreedyStakes(p, 0))
	expect(t, "a single one", wayOf(0, 0), 0)(impl.GreedyStakes(p, 200))
}

func TestCheckApart(t *testing.T) {
	for i, v := range someStakings() {
		var cells []impl.Spot
		for _, stake := range v.list {
			cells = append(cells, stake.At)
		}
		for _, reach := range []int{i % 3, i % 201} {
			for count := range len(cells) + 1 {
				want := areApart(v.p, reach, cells[:count])
				expect(t, "CheckApart", want, 0)(impl.CheckApart(v.p, int64(reach), cells[:count]))
			}
		}
	}
	p, _ := impl.PlainPasture(10, 10, 0)
	expect(t, "no stakes", true, 0)(impl.CheckApart(p, 200, nil))
	expect(t, "one stake", true, 0)(impl.CheckApart(p, 200, wayOf(9, 9)))
	expect(t, "one cell twice", false, 0)(impl.CheckApart(p, 0, wayOf(9, 9, 9, 9)))
	expect(t, "one cell twice", false, 0)(impl.CheckApart(p, 0, wayOf(1, 1, 9, 9, 1, 1)))
	expect(t, "all cells", true, 0)(impl.CheckApart(p, 0, cellsOf(p)))
	expect(t, "all cells backward", true, 0)(impl.CheckApart(p, 0, backward(cellsOf(p))))
	expect(t, "all cells", false, 0)(impl.CheckApart(p, 1, cellsOf(p)))
	row := pastureOf(t, "1 1 1 1")
	expect(t, "beside each other", true, 0)(impl.CheckApart(row, 1, wayOf(3, 0, 0, 0)))
	expect(t, "with a common cell", false, 0)(impl.CheckApart(row, 1, wayOf(2, 0, 0, 0)))
}

func TestStepsReach(t *testing.T) {
	for i, v := range someStakings() {
		from := cellsOf(v.p)[i*11%len(cellsOf(v.p))]
		rings := ringsFrom(v.p, from)
		for _, steps := range []int{0, 1, 2, 3, i % 30, 99, 200} {
			var want []impl.Spot
			for _, s := range cellsOf(v.p) {
				if far, found := rings[s]; found && far <= steps {
					want = append(want, s)
				}
			}
			expect(t, "StepsReach", want, 0)(impl.StepsReach(v.p, from, int64(steps)))
		}
	}
	p := examplePasture(t)
	expect(t, "no steps", wayOf(1, 0), 0)(impl.StepsReach(p, spotAt(1, 0), 0))
	expect(t, "past hurdles", wayOf(0, 0, 1, 0, 0, 1), 0)(impl.StepsReach(p, spotAt(1, 0), 2))
	expect(t, "past hurdles", wayOf(0, 0, 1, 0, 0, 1, 1, 1, 2, 1), 0)(impl.StepsReach(p, spotAt(1, 0), 4))
	expect(t, "most steps", cellsOf(p), 0)(impl.StepsReach(p, spotAt(1, 0), impl.MaxWalk))
	for _, steps := range append(extremes, 201) {
		expectCode(t, "StepsReach", impl.ErrRange)(impl.StepsReach(p, spotAt(1, 0), steps))
	}
}
