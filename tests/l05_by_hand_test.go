package tests

import (
	"math/rand"
	"slices"
	"strconv"
	"strings"

	"loop.example/g01345/impl"
)

// The helpers here put stakes and go on walks by the words of the document, so that the program is not tested against itself.

func stakeAt(x, y, reach int) impl.Stake {
	return impl.Stake{At: spotAt(x, y), Reach: int16(reach)}
}

func stakesAt(cells []impl.Spot, reach int) []impl.Stake {
	var list []impl.Stake
	for _, s := range cells {
		list = append(list, stakeAt(int(s.X), int(s.Y), reach))
	}
	return list
}

func reachByHand(p impl.Pasture, stake impl.Stake) []impl.Spot {
	var list []impl.Spot
	for _, s := range yardByHand(p, stake.At) {
		if squareOf(s, stake.At) <= int(stake.Reach) {
			list = append(list, s)
		}
	}
	return list
}

// timesReached returns from how many stakes each cell is reached.
func timesReached(p impl.Pasture, list []impl.Stake) map[impl.Spot]int {
	times := map[impl.Spot]int{}
	for _, stake := range list {
		for _, s := range reachByHand(p, stake) {
			times[s]++
		}
	}
	return times
}

// cellsReached returns the cells that are reached from so many stakes, ordered.
func cellsReached(p impl.Pasture, list []impl.Stake, from, to int) []impl.Spot {
	var cells []impl.Spot
	times := timesReached(p, list)
	for _, s := range cellsOf(p) {
		if times[s] >= from && times[s] <= to {
			cells = append(cells, s)
		}
	}
	return cells
}

func doMeet(p impl.Pasture, a, b impl.Stake) bool {
	return shareCells(reachByHand(p, a), reachByHand(p, b))
}

func foodByHand(p impl.Pasture, stake impl.Stake) int {
	food := 0
	for _, s := range reachByHand(p, stake) {
		food += grassAt(p, s)
	}
	return food
}

// greatestByHand returns the greatest reach of the stake with an index, or -1; it tries all of them, from 0 on.
func greatestByHand(p impl.Pasture, list []impl.Stake, index int) int {
	stake, greatest := list[index], -1
	times := timesReached(p, slices.Concat(list[:index], list[index+1:]))
	for reach := range impl.MaxReach + 1 {
		stake.Reach = int16(reach)
		if slices.ContainsFunc(reachByHand(p, stake), func(s impl.Spot) bool { return times[s] > 0 }) {
			return greatest
		}
		greatest = reach
	}
	return greatest
}

func greedyByHand(p impl.Pasture, reach int) []impl.Spot {
	var stakes []impl.Spot
	taken := map[impl.Spot]bool{}
	for _, stake := range stakesAt(cellsOf(p), reach) {
		cells := reachByHand(p, stake)
		if slices.ContainsFunc(cells, func(s impl.Spot) bool { return taken[s] }) {
			continue
		}
		stakes = append(stakes, stake.At)
		for _, s := range cells {
			taken[s] = true
		}
	}
	return stakes
}

func areApart(p impl.Pasture, reach int, cells []impl.Spot) bool {
	stakes := stakesAt(cells, reach)
	for i, a := range stakes {
		for _, b := range stakes[i+1:] {
			if a == b || doMeet(p, a, b) {
				return false
			}
		}
	}
	return true
}

// seeker looks for the most stakes, going on by calling itself.
type seeker struct {
	cells []impl.Spot
	meets map[link]bool
	most  []impl.Spot
	looks int
}

func seek(p impl.Pasture, reach int) *seeker {
	s := &seeker{cells: cellsOf(p), meets: map[link]bool{}}
	reached := map[impl.Spot][]impl.Spot{}
	for _, stake := range stakesAt(s.cells, reach) {
		reached[stake.At] = reachByHand(p, stake)
	}
	for _, a := range s.cells {
		for _, b := range s.cells {
			s.meets[link{a, b}] = shareCells(reached[a], reached[b])
		}
	}
	s.goOn(nil, s.cells)
	return s
}

// goOn goes through the cells that are left, with some stakes that stand.
func (s *seeker) goOn(stand, left []impl.Spot) {
	if len(stand)+len(left) <= len(s.most) {
		return
	}
	if len(left) == 0 {
		s.most = stand
		return
	}
	here := left[0]
	if !slices.ContainsFunc(stand, func(other impl.Spot) bool { return s.meets[link{other, here}] }) {
		s.looks++
		s.goOn(append(slices.Clone(stand), here), left[1:])
	}
	s.goOn(stand, left[1:])
}

// everySet returns all sets of some cells.
func everySet(cells []impl.Spot) [][]impl.Spot {
	var sets [][]impl.Spot
	for set := range 1 << len(cells) {
		var some []impl.Spot
		for i, s := range cells {
			if set>>i&1 == 1 {
				some = append(some, s)
			}
		}
		sets = append(sets, some)
	}
	return sets
}

// mostByHand tries all sets of cells; it returns the greatest one that is apart, of several ones that which comes first as a list.
func mostByHand(p impl.Pasture, reach int) []impl.Spot {
	var most []impl.Spot
	for _, some := range everySet(cellsOf(p)) {
		if len(some) < len(most) || len(some) == len(most) && slices.CompareFunc(some, most, compareSpots) >= 0 {
			continue
		}
		if areApart(p, reach, some) {
			most = some
		}
	}
	return most
}

func isWalk(p impl.Pasture, at impl.Spot, walk []impl.Spot) bool {
	if !isCell(p, at) || len(walk) == 0 || len(walk) > 200 {
		return false
	}
	for i, s := range walk {
		if !isCell(p, s) || s == at {
			return false
		}
		if i > 0 && s != walk[i-1] && !slices.Contains(openTo(p, walk[i-1]), s) {
			return false
		}
	}
	return true
}

// windsByHand counts how often a walk goes over the line that begins between a stake and the cell south of it, and runs east.
func windsByHand(at impl.Spot, walk []impl.Spot) int {
	winds := 0
	isSouth := func(s impl.Spot) bool { return int(s.Y) > int(at.Y) }
	for i := 1; i < len(walk); i++ {
		from, to := walk[i-1], walk[i]
		if int(from.X) <= int(at.X) || isSouth(from) == isSouth(to) {
			continue
		}
		if isSouth(to) {
			winds++
		} else {
			winds--
		}
	}
	return winds
}

func backward(walk []impl.Spot) []impl.Spot {
	back := slices.Clone(walk)
	slices.Reverse(back)
	return back
}

// aroundMiddle goes once around 1, 1, from 2, 1 to the south.
func aroundMiddle() []impl.Spot {
	return wayOf(2, 1, 2, 2, 1, 2, 0, 2, 0, 1, 0, 0, 1, 0, 2, 0, 2, 1)
}

func stakesByHand(list []impl.Stake) string {
	var words []string
	for _, s := range list {
		words = append(words, wordOf(s.At)+"/"+strconv.Itoa(int(s.Reach)))
	}
	return strings.Join(words, " ")
}

// staking is stakes on a pasture.
type staking struct {
	p    impl.Pasture
	list []impl.Stake
}

// someStakesOn returns valid stakes in about so many cells, with reaches that are mostly small.
func someStakesOn(r *rand.Rand, p impl.Pasture, count int) []impl.Stake {
	var list []impl.Stake
	cells := cellsOf(p)
	for _, i := range r.Perm(len(cells))[:min(count, len(cells))] {
		reach := []int{0, 1, 2, 4, r.Intn(9), r.Intn(30), r.Intn(201), 200}[r.Intn(8)]
		list = append(list, stakeAt(int(cells[i].X), int(cells[i].Y), reach))
	}
	return list
}

// someStakings returns valid ones: none to the most stakes, on pastures of all sizes.
func someStakings() []staking {
	r := rand.New(rand.NewSource(51))
	var list []staking
	for i, p := range somePastures() {
		list = append(list, staking{p, someStakesOn(r, p, i%13)})
	}
	for i := range 100 {
		p := randomPasture(r, 3+r.Intn(8), 3+r.Intn(8), i%5)
		list = append(list, staking{p, someStakesOn(r, p, r.Intn(13))})
	}
	for range 40 {
		p := randomPasture(r, 10, 10, r.Intn(3))
		stakes := someStakesOn(r, p, 12)
		for i := range stakes {
			stakes[i].Reach = int16(r.Intn(3))
		}
		list = append(list, staking{p, stakes})
	}
	return list
}

// invalidStakes returns stakes that are not valid on a pasture of 3 by 2 cells, each for one reason.
func invalidStakes() map[string][]impl.Stake {
	good := stakeAt(0, 0, 1)
	list := map[string][]impl.Stake{
		"two in one cell":           {stakeAt(1, 1, 0), stakeAt(1, 1, 0)},
		"two in one cell, reaching": {stakeAt(1, 1, 0), good, stakeAt(1, 1, 5)},
		"too many":                  stakesAt(slices.Repeat(wayOf(0, 0, 1, 0, 2, 0, 0, 1, 1, 1, 2, 1), 3), 0)[:13],
	}
	for i, s := range badSpots {
		name := "spot " + strconv.Itoa(i)
		list[name] = []impl.Stake{{At: s, Reach: 1}}
		list[name+", last"] = []impl.Stake{good, {At: s, Reach: 1}}
		list[name+", first"] = []impl.Stake{{At: s}, good}
	}
	for _, reach := range []int{-1, 201, -32768, 32767} {
		name := "reach " + strconv.Itoa(reach)
		list[name] = []impl.Stake{stakeAt(2, 1, reach)}
		list[name+", last"] = []impl.Stake{good, stakeAt(2, 1, reach)}
	}
	return list
}

// tour is a walk around a stake.
type tour struct {
	p    impl.Pasture
	at   impl.Spot
	walk []impl.Spot
}

// tourAround goes on, or stays, so many times; it is valid, unless a pasture of a single cell leaves no place for a goat.
func tourAround(r *rand.Rand, p impl.Pasture, at impl.Spot, length int) tour {
	v := tour{p: p, at: at}
	cells := cellsOf(p)
	here := cells[r.Intn(len(cells))]
	if here == at {
		here = cells[(slices.Index(cells, here)+1)%len(cells)]
	}
	for range length {
		v.walk = append(v.walk, here)
		if next := openTo(p, here); r.Intn(5) > 0 && len(next) > 0 {
			if to := next[r.Intn(len(next))]; to != at {
				here = to
			}
		}
	}
	return v
}

func randomTour(r *rand.Rand, p impl.Pasture, length int) tour {
	cells := cellsOf(p)
	return tourAround(r, p, cells[r.Intn(len(cells))], length)
}

// someTours returns valid walks, of one cell and of as many as can be, on pastures of all sizes.
func someTours() []tour {
	r := rand.New(rand.NewSource(52))
	var list []tour
	for i, p := range somePastures() {
		if len(cellsOf(p)) > 1 {
			list = append(list, randomTour(r, p, 1+r.Intn(30)), randomTour(r, p, []int{1, 2, 199, 200}[i%4]))
		}
	}
	for range 300 {
		p := randomPasture(r, 2+r.Intn(3), 2+r.Intn(3), r.Intn(3))
		list = append(list, randomTour(r, p, 200))
	}
	return list
}
