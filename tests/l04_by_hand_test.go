package tests

import (
	"math/rand"
	"slices"
	"strconv"

	"loop.example/g01345/impl"
)

// The helpers here let grass grow, and take it, one unit after the other, so that the program is not tested against itself.

// growthOf returns a growth with the first numbers of its table.
func growthOf(limit int, table ...int) impl.Growth {
	g := impl.Growth{Limit: int16(limit)}
	for i, more := range table {
		g.Table[i] = int8(more)
	}
	return g
}

func exampleGrowth() impl.Growth { return growthOf(250, 5, 8, 3) }

func cellLater(g impl.Growth, grass int) int {
	for more := int(g.Table[grass/100]); more > 0 && grass < int(g.Limit); more-- {
		grass++
	}
	return grass
}

// grownByHand lets all cells grow for a day, but those of a list.
func grownByHand(p impl.Pasture, g impl.Growth, rest []impl.Spot) impl.Pasture {
	for _, s := range cellsOf(p) {
		if !slices.Contains(rest, s) {
			p.Grass[s.Y][s.X] = int16(cellLater(g, grassAt(p, s)))
		}
	}
	return p
}

func laterByHand(p impl.Pasture, g impl.Growth, days int) impl.Pasture {
	for range days {
		p = grownByHand(p, g, nil)
	}
	return p
}

func yardByHand(p impl.Pasture, s impl.Spot) []impl.Spot { return reachedFrom(p, []impl.Spot{s}) }

func grazedByHand(p impl.Pasture, yard []impl.Spot, eats int) (impl.Pasture, int) {
	eaten := 0
	for _, s := range yard {
		for eaten < eats && grassAt(p, s) > 0 {
			p.Grass[s.Y][s.X]--
			eaten++
		}
	}
	return p, eaten
}

// mownByHand also returns how much has been mown, of which a quarter is hay.
func mownByHand(p impl.Pasture, yard []impl.Spot, leave int) (impl.Pasture, int) {
	mown := 0
	for _, s := range yard {
		for grassAt(p, s) > leave {
			p.Grass[s.Y][s.X]--
			mown++
		}
	}
	return p, mown
}

func hayByHand(p impl.Pasture, g impl.Growth, yard []impl.Spot, days, leave int) int {
	_, mown := mownByHand(laterByHand(p, g, days), yard, leave)
	return mown / 4
}

// twiceByHand mows behind two numbers of days, both from the beginning on.
func twiceByHand(p impl.Pasture, g impl.Growth, yard []impl.Spot, first, second, leave int) int {
	p, mown := mownByHand(laterByHand(p, g, first), yard, leave)
	return mown/4 + hayByHand(p, g, yard, second-first, leave)
}

// rotation is what is told to RotateYards.
type rotation struct {
	p                impl.Pasture
	g                impl.Growth
	order            []int64
	stay, eats, days int
}

// byHand goes from yard to yard by counting down how long the goats still stay.
func (r rotation) byHand() (impl.Pasture, []int64) {
	var eaten []int64
	p, yards := r.p, yardsByHand(r.p)
	turns, left := slices.Clone(r.order), r.stay
	for range r.days {
		if left == 0 {
			turns, left = append(turns[1:], turns[0]), r.stay
		}
		left--
		yard := yards[turns[0]]
		rest, food := grazedByHand(p, yard, r.eats)
		p = grownByHand(rest, r.g, yard)
		eaten = append(eaten, int64(food))
	}
	return p, eaten
}

func growthByHand(g impl.Growth) string {
	text := ""
	for i, more := range g.Table {
		if i > 0 {
			text += ","
		}
		text += strconv.Itoa(int(more))
	}
	return text + " " + strconv.Itoa(int(g.Limit))
}

// someGrowths returns valid growths: usual ones, the least and the greatest ones, and such with a number at one index only.
func someGrowths() []impl.Growth {
	r := rand.New(rand.NewSource(41))
	list := []impl.Growth{
		exampleGrowth(),
		{},
		growthOf(1000),
		growthOf(1),
		growthOf(1000, 1),
		growthOf(0, 100, 100, 100),
		growthOf(1, 100),
		growthOf(999, 100, 100, 100, 100, 100, 100, 100, 100, 100, 100, 100),
		growthOf(1000, 100, 100, 100, 100, 100, 100, 100, 100, 100, 100, 100),
		growthOf(1000, 1, 2, 3, 4, 5, 6, 7, 8, 9, 10, 11),
		growthOf(700, 20, 18, 16, 14, 12, 10, 8, 6, 4, 2),
	}
	for i := range 11 {
		g := growthOf(1000)
		g.Table[i] = int8(1 + 9*i)
		list = append(list, g)
	}
	for range 30 {
		g := growthOf(r.Intn(1001))
		most := []int{3, 12, 101}[r.Intn(3)]
		for i := range g.Table {
			g.Table[i] = int8(r.Intn(most))
		}
		list = append(list, g)
	}
	return list
}

// invalidGrowths returns growths that are not valid, each for one reason.
func invalidGrowths() map[string]impl.Growth {
	list := map[string]impl.Growth{}
	for _, limit := range []int{-1, 1001, -32768, 32767} {
		list["limit "+strconv.Itoa(limit)] = growthOf(limit, 5, 8, 3)
	}
	for i := range 11 {
		for _, more := range []int{-1, 101, -128, 127} {
			g := exampleGrowth()
			g.Table[i] = int8(more)
			list[strconv.Itoa(more)+" at "+strconv.Itoa(i)] = g
		}
	}
	return list
}

// lush returns a pasture with some hurdles, and grass that is not more than the most; a few cells are bare.
func lush(r *rand.Rand, wide, high, most int) impl.Pasture {
	p := grassy(wide, high, func(x, y int) int { return max(0, r.Intn(most+most/4+1)-most/4) })
	hurdles := r.Intn(9)
	for _, side := range sidesIn(p) {
		if r.Intn(10) < hurdles {
			p = fence(p, side)
		}
	}
	return p
}

// field is a pasture with a growth, and a cell of it.
type field struct {
	p  impl.Pasture
	g  impl.Growth
	at impl.Spot
}

// someFields returns valid fields: all growths, on small pastures and on great ones.
func someFields() []field {
	r := rand.New(rand.NewSource(42))
	var list []field
	for _, g := range someGrowths() {
		for _, most := range []int{30, 250, 1000} {
			p := lush(r, 1+r.Intn(4), 1+r.Intn(4), most)
			list = append(list, field{p, g, cellsOf(p)[r.Intn(len(cellsOf(p)))]})
		}
	}
	for range 4 {
		p := lush(r, 10, 10, 600)
		list = append(list, field{p, someGrowths()[r.Intn(20)], cellsOf(p)[r.Intn(100)]})
	}
	return list
}

// someRotations returns valid rotations, in one yard and in all of them.
func someRotations() []rotation {
	r := rand.New(rand.NewSource(43))
	var list []rotation
	for i, f := range someFields() {
		yards := len(yardsByHand(f.p))
		c := rotation{p: f.p, g: f.g, stay: 1 + r.Intn(8), eats: r.Intn(120), days: r.Intn(50)}
		for range 1 + r.Intn(5) {
			c.order = append(c.order, int64(r.Intn(yards)))
		}
		if i%10 == 0 {
			c.stay, c.days, c.eats = 1+r.Intn(impl.MaxYear), impl.MaxYear, r.Intn(40)
		}
		if i%7 == 0 {
			c.order, c.eats = []int64{int64(yards - 1)}, 100000
		}
		if i%11 == 0 {
			c.order = slices.Repeat([]int64{0, int64(yards - 1)}, impl.MaxTurns/2)
		}
		list = append(list, c)
	}
	return list
}
