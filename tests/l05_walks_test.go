package tests

import (
	"math"
	"math/rand"
	"slices"
	"strconv"
	"testing"

	"loop.example/g01345/impl"
)

func TestToursAreWalks(t *testing.T) {
	for _, v := range someTours() {
		expect(t, wordsOf(v.walk), isWalk(v.p, v.at, v.walk))(impl.ValidWalk(v.p, v.at, v.walk))
		expect(t, wordsOf(v.walk), true)(impl.ValidWalk(v.p, v.at, v.walk))
		expect(t, wordsOf(v.walk), windsByHand(v.at, v.walk), 0)(impl.WindsOf(v.p, v.at, v.walk))
	}
}

func TestWalks(t *testing.T) {
	p := examplePasture(t)
	at := spotAt(2, 0)
	good := [][]impl.Spot{wayOf(0, 0), wayOf(1, 0), wayOf(0, 0, 0, 0, 0, 0), wayOf(1, 0, 0, 0, 0, 1, 1, 1, 2, 1), wayOf(1, 1, 2, 1, 1, 1), wayOf(2, 1, 2, 1)}
	for _, walk := range good {
		expect(t, wordsOf(walk), true)(impl.ValidWalk(p, at, walk))
		expect(t, wordsOf(walk), 0, 0)(impl.WindsOf(p, at, walk))
		expect(t, wordsOf(walk), 17, 0)(impl.RopeLeft(p, at, walk, 17))
	}
	bad := [][]impl.Spot{
		nil, {}, wayOf(2, 0), wayOf(2, 1, 2, 0), wayOf(2, 1, 2, 0, 2, 1), wayOf(2, 0, 2, 0), // no cell, and over the stake
		wayOf(1, 0, 1, 1), wayOf(1, 1, 1, 0), // over a hurdle
		wayOf(1, 1, 1, 2), wayOf(0, 0, -1, 0), wayOf(0, 0, 0, -1), wayOf(2, 1, 3, 1), wayOf(3, 1, 2, 1), wayOf(-1, 0, 0, 0), wayOf(0, 2, 0, 1), // over a wall
		wayOf(0, 0, 1, 1), wayOf(0, 0, 0, 1, 2, 1), wayOf(0, 1, 2, 1), wayOf(1, 0, 1, 0, 2, 1), // too far for a step
		wayOf(-1, 0), wayOf(3, 0), wayOf(0, 2), wayOf(127, 127), wayOf(-128, -128), wayOf(9, 9), // outside
		wayOf(-1, 0, -1, 0), wayOf(0, 0, 127, 0, 0, 0), wayOf(-128, 0, 127, 0), // outside all the time, or for a while
	}
	for _, walk := range bad {
		expect(t, wordsOf(walk), false)(impl.ValidWalk(p, at, walk))
		expectCode(t, wordsOf(walk), impl.ErrState)(impl.WindsOf(p, at, walk))
		expectCode(t, wordsOf(walk), impl.ErrState)(impl.RopeLeft(p, at, walk, 17))
	}
	fenced := pastureOf(t, "1 1| 1")
	expectCode(t, "over a hurdle", impl.ErrState)(impl.WindsOf(fenced, spotAt(0, 0), wayOf(1, 0, 2, 0)))
	expectCode(t, "over a hurdle", impl.ErrState)(impl.WindsOf(fenced, spotAt(0, 0), wayOf(2, 0, 1, 0)))
}

// All walks of up to three cells, of a few spots outside as well.
func TestShortWalks(t *testing.T) {
	var spots []impl.Spot
	for x := -1; x <= 3; x++ {
		for y := -1; y <= 2; y++ {
			spots = append(spots, spotAt(x, y))
		}
	}
	for _, p := range []impl.Pasture{examplePasture(t), pastureOf(t, "1 1 1", "1 1 1"), pastureOf(t, "1|_ 1|_ 1_", "1| 1| 1"), pastureOf(t, "1 1", "1 1")} {
		for _, at := range spots {
			for _, a := range spots {
				wantWalk(t, p, at, []impl.Spot{a})
				for _, b := range spots {
					wantWalk(t, p, at, []impl.Spot{a, b})
					wantWalk(t, p, at, []impl.Spot{a, b, a})
				}
			}
		}
	}
}

func wantWalk(t *testing.T, p impl.Pasture, at impl.Spot, walk []impl.Spot) {
	t.Helper()
	valid := isWalk(p, at, walk)
	expect(t, wordsOf(walk), valid)(impl.ValidWalk(p, at, walk))
	switch {
	case valid:
		expect(t, wordsOf(walk), windsByHand(at, walk), 0)(impl.WindsOf(p, at, walk))
	case isCell(p, at):
		expectCode(t, wordsOf(walk), impl.ErrState)(impl.WindsOf(p, at, walk))
	default:
		expectCode(t, wordsOf(walk), impl.ErrRange)(impl.WindsOf(p, at, walk))
	}
}

func TestLongestWalks(t *testing.T) {
	p := pastureOf(t, "1 1", "1 1")
	for _, count := range []int{1, 2, 199, 200, 201, 202, 400, 1000000} {
		stay := slices.Repeat(wayOf(1, 0), count)
		crossing := slices.Repeat(wayOf(1, 0, 1, 1), (count+1)/2)[:count]
		expect(t, "stay", count <= 200)(impl.ValidWalk(p, spotAt(0, 0), stay))
		expect(t, "go on", count <= 200)(impl.ValidWalk(p, spotAt(0, 0), crossing))
		if count <= 200 {
			expect(t, "stay", 0, 0)(impl.WindsOf(p, spotAt(0, 0), stay))
			// Each step back takes away what the one ahead of it has counted.
			expect(t, "go on", (count+1)%2, 0)(impl.WindsOf(p, spotAt(0, 0), crossing))
		} else {
			expectCode(t, "stay", impl.ErrState)(impl.WindsOf(p, spotAt(0, 0), stay))
			expectCode(t, "go on", impl.ErrState)(impl.RopeLeft(p, spotAt(0, 0), crossing, 1000))
		}
	}
}

// Only steps between the row of the stake and the one south of it count, and only east of it.
func TestWindsOf(t *testing.T) {
	p, _ := impl.PlainPasture(5, 5, 1)
	at := spotAt(2, 2)
	winds := map[int][][]impl.Spot{
		1:  {wayOf(3, 2, 3, 3), wayOf(4, 2, 4, 3), wayOf(3, 1, 3, 2, 3, 3, 3, 4), wayOf(4, 2, 4, 3, 3, 3, 3, 3), wayOf(3, 2, 3, 3, 3, 2, 3, 3)},
		-1: {wayOf(3, 3, 3, 2), wayOf(4, 3, 4, 2), wayOf(3, 4, 3, 3, 3, 2, 3, 1), wayOf(4, 3, 4, 3, 4, 2)},
		0: {
			wayOf(2, 3, 3, 3), wayOf(1, 2, 1, 3), wayOf(1, 3, 1, 2), wayOf(0, 2, 0, 3), wayOf(2, 1, 2, 0), wayOf(2, 3, 2, 4), // not east of it
			wayOf(3, 1, 3, 2), wayOf(3, 2, 3, 1), wayOf(3, 3, 3, 4), wayOf(4, 4, 4, 3), wayOf(3, 0, 3, 1), // other rows
			wayOf(3, 2, 4, 2), wayOf(4, 3, 3, 3), wayOf(3, 2, 3, 2), wayOf(3, 2), // along a row
			wayOf(3, 2, 3, 3, 3, 2), wayOf(4, 3, 4, 2, 4, 3), // there and back
			wayOf(3, 2, 3, 3, 4, 3, 4, 2), // there, and back in another column
		},
	}
	for count, walks := range winds {
		for _, walk := range walks {
			expect(t, wordsOf(walk), count, 0)(impl.WindsOf(p, at, walk))
		}
	}
	expect(t, "there and back again and again", 0, 0)(impl.WindsOf(p, at, slices.Repeat(wayOf(3, 2, 3, 3, 3, 3, 3, 2), 50)))
}

// Around and around: the rope gets shorter by 4 each time, until it is used up.
func TestRopeLeft(t *testing.T) {
	p, _ := impl.PlainPasture(3, 3, 5)
	at := spotAt(1, 1)
	for times := range 25 {
		walk := slices.Concat(slices.Repeat(aroundMiddle()[:8], times), wayOf(2, 1))
		for _, length := range []int{0, 1, 3, 4, 5, 4*times - 1, 4 * times, 4*times + 1, 999, 1000} {
			length = max(0, length)
			left := max(0, length-4*times)
			expect(t, "around", times, 0)(impl.WindsOf(p, at, walk))
			expect(t, "around", left, 0)(impl.RopeLeft(p, at, walk, int64(length)))
			expect(t, "backward", -times, 0)(impl.WindsOf(p, at, backward(walk)))
			expect(t, "backward", left, 0)(impl.RopeLeft(p, at, backward(walk), int64(length)))
		}
	}
	for _, v := range someTours() {
		left := max(0, 10-4*max(windsByHand(v.at, v.walk), -windsByHand(v.at, v.walk)))
		expect(t, "RopeLeft", left, 0)(impl.RopeLeft(v.p, v.at, v.walk, 10))
	}
}

// A stake at the edge has no row or no column on some side, so that nothing winds.
func TestStakesAtTheEdge(t *testing.T) {
	r := rand.New(rand.NewSource(55))
	for _, size := range []int{2, 3, 10} {
		p := grassy(size, size, func(x, y int) int { return 1 })
		for _, at := range []impl.Spot{spotAt(size-1, 0), spotAt(size-1, size-1), spotAt(size-1, 1), spotAt(0, size-1), spotAt(size/2, size-1)} {
			for range 20 {
				v := tourAround(r, p, at, 200)
				expect(t, wordsOf(v.walk), 0, 0)(impl.WindsOf(p, at, v.walk))
			}
		}
	}
	p, _ := impl.PlainPasture(10, 10, 1)
	expect(t, "in the corner", 1, 0)(impl.WindsOf(p, spotAt(0, 0), wayOf(1, 0, 1, 1)))
	expect(t, "in the corner", 1, 0)(impl.WindsOf(p, spotAt(0, 0), wayOf(9, 0, 9, 1, 8, 1)))
	expect(t, "in the west", -1, 0)(impl.WindsOf(p, spotAt(0, 8), wayOf(1, 9, 1, 8)))
	expect(t, "in the north", 1, 0)(impl.WindsOf(p, spotAt(8, 0), wayOf(9, 0, 9, 1)))
}

// A walk that ends where it began turns around the stake as often as it winds, by the angles of its steps.
func TestWindsByAngles(t *testing.T) {
	closed := 0
	for _, v := range someTours() {
		angle := 0.0
		for i, s := range v.walk[1:] {
			x, y := float64(v.walk[i].X)-float64(v.at.X), float64(v.walk[i].Y)-float64(v.at.Y)
			u, w := float64(s.X)-float64(v.at.X), float64(s.Y)-float64(v.at.Y)
			angle += math.Atan2(x*w-y*u, x*u+y*w)
			if s == v.walk[0] {
				closed++
				turns := int(math.Round(angle / (2 * math.Pi)))
				expect(t, wordsOf(v.walk[:i+2]), turns, 0)(impl.WindsOf(v.p, v.at, v.walk[:i+2]))
			}
		}
	}
	if closed < 1000 {
		t.Errorf("%d walks end where they began", closed)
	}
}

// A stake in no cell is told ahead of the walk, and so is a length.
func TestOrderOfErrorsOfWalks(t *testing.T) {
	p := examplePasture(t)
	for _, walk := range [][]impl.Spot{nil, wayOf(0, 0), wayOf(0, 0, 1, 0), wayOf(-1, 0), make([]impl.Spot, 201)} {
		for _, at := range badSpots {
			name := wordOf(at) + " and " + strconv.Itoa(len(walk))
			expect(t, name, false)(impl.ValidWalk(p, at, walk))
			expectCode(t, name, impl.ErrRange)(impl.WindsOf(p, at, walk))
			for _, length := range append(extremes, 0, 10, 1000, 1001) {
				expectCode(t, name, impl.ErrRange)(impl.RopeLeft(p, at, walk, length))
			}
		}
		for _, length := range append(extremes, 1001) {
			expectCode(t, "length", impl.ErrRange)(impl.RopeLeft(p, spotAt(2, 0), walk, length))
			expectCode(t, "length", impl.ErrRange)(impl.RopeLeft(p, spotAt(0, 0), walk, length))
		}
		for name, q := range invalidPastures() {
			for _, at := range append(badSpots, spotAt(0, 0)) {
				expect(t, name, false)(impl.ValidWalk(q, at, walk))
				expectCode(t, name, impl.ErrInvalid)(impl.WindsOf(q, at, walk))
				expectCode(t, name, impl.ErrInvalid)(impl.RopeLeft(q, at, walk, -1))
				expectCode(t, name, impl.ErrInvalid)(impl.RopeLeft(q, at, walk, 1000))
			}
		}
	}
}
