package tests

import (
	"math"
	"math/rand"
	"regexp"
	"slices"
	"strconv"
	"strings"
	"testing"

	"loop.example/g01345/impl"
)

func TestCodeNames(t *testing.T) {
	names := []string{"ok", "invalid", "range", "limit", "state", "syntax", "notfound", "budget", "proof"}
	for code, name := range names {
		expect(t, "CodeName "+name, name)(impl.CodeName(int64(code)))
	}
	for _, code := range []int64{-1, 9, 100, 256, 1 << 32, math.MinInt64, math.MaxInt64} {
		expect(t, "CodeName of "+strconv.FormatInt(code, 10), "")(impl.CodeName(code))
	}
}

func TestExampleOfPastures(t *testing.T) {
	p := examplePasture(t)
	all := cellsOf(p)
	expect(t, "CountHurdles", 2, 0)(impl.CountHurdles(p))
	expect(t, "YardsOf", [][]impl.Spot{all}, 0)(impl.YardsOf(p))
	expect(t, "IdleHurdles", 2, 0)(impl.IdleHurdles(p))
	expect(t, "StepsBetween", 3, 0)(impl.StepsBetween(p, spotAt(1, 0), spotAt(1, 1)))
	way := []impl.Spot{spotAt(1, 0), spotAt(0, 0), spotAt(0, 1), spotAt(1, 1)}
	expect(t, "WayBetween", way, 0)(impl.WayBetween(p, spotAt(1, 0), spotAt(1, 1)))
	expect(t, "SidesOf", 3, 0)(impl.SidesOf(p, []impl.Spot{spotAt(0, 0), spotAt(1, 0)}))
	turned := pastureOf(t, "3 5", "4| 2_", "0 1")
	expect(t, "TurnPasture", turned, 0)(impl.TurnPasture(p))
}

func TestHurdleBits(t *testing.T) {
	p := examplePasture(t)
	want := impl.Pasture{Wide: 3, High: 2}
	want.Grass[0] = [10]int16{5, 2, 1}
	want.Grass[1] = [10]int16{3, 4, 0}
	want.East[0] = 1 << 1
	want.South[0] = 1 << 1
	expect(t, "ReadPasture", want)(p)
}

func TestValidPasture(t *testing.T) {
	for _, p := range somePastures() {
		if !impl.ValidPasture(p) {
			t.Fatalf("%v is valid", p)
		}
	}
	for name, p := range invalidPastures() {
		if impl.ValidPasture(p) {
			t.Errorf("%s: valid", name)
		}
	}
}

// Each single bit is valid where there are cells on both sides, and nowhere else.
func TestValidBits(t *testing.T) {
	for _, size := range [][2]int{{1, 1}, {3, 2}, {1, 10}, {10, 1}, {9, 10}, {10, 9}, {10, 10}} {
		plain := grassy(size[0], size[1], func(x, y int) int { return impl.MaxGrass })
		for y := range impl.Most {
			for x := range 16 {
				east, south := plain, plain
				east.East[y] = 1 << x
				south.South[y] = 1 << x
				here := isCell(plain, spotAt(x, y))
				expect(t, "east bit", here && isCell(plain, spotAt(x+1, y)))(impl.ValidPasture(east))
				expect(t, "south bit", here && isCell(plain, spotAt(x, y+1)))(impl.ValidPasture(south))
			}
		}
	}
}

func TestValidGrass(t *testing.T) {
	plain := grassy(4, 3, func(x, y int) int { return 0 })
	for y := range impl.Most {
		for x := range impl.Most {
			for _, grass := range []int16{-32768, -1, 0, 1, 1000, 1001, 32767} {
				p := plain
				p.Grass[y][x] = grass
				want := grass == 0 || isCell(p, spotAt(x, y)) && grass >= 0 && grass <= 1000
				expect(t, "grass", want)(impl.ValidPasture(p))
			}
		}
	}
}

func TestSamePasture(t *testing.T) {
	p := examplePasture(t)
	expect(t, "itself", true)(impl.SamePasture(p, p))
	expect(t, "invalid", true)(impl.SamePasture(impl.Pasture{Wide: -1}, impl.Pasture{Wide: -1}))
	changes := []func(*impl.Pasture){
		func(p *impl.Pasture) { p.Wide++ },
		func(p *impl.Pasture) { p.High-- },
		func(p *impl.Pasture) { p.Grass[0][0]++ },
		func(p *impl.Pasture) { p.Grass[9][9]++ },
		func(p *impl.Pasture) { p.East[0] ^= 1 },
		func(p *impl.Pasture) { p.East[9] ^= 1 << 15 },
		func(p *impl.Pasture) { p.South[0] ^= 2 },
		func(p *impl.Pasture) { p.South[9] ^= 1 << 15 },
	}
	for i, change := range changes {
		q := p
		change(&q)
		expect(t, "change "+strconv.Itoa(i), false)(impl.SamePasture(p, q))
		expect(t, "change back "+strconv.Itoa(i), false)(impl.SamePasture(q, p))
	}
}

func TestPlainPasture(t *testing.T) {
	for _, v := range [][3]int{{1, 1, 0}, {1, 10, 1}, {10, 1, 999}, {10, 10, 1000}, {3, 2, 5}} {
		want := grassy(v[0], v[1], func(x, y int) int { return v[2] })
		expect(t, "PlainPasture", want, 0)(impl.PlainPasture(int64(v[0]), int64(v[1]), int64(v[2])))
	}
	bad := [][3]int64{
		{0, 1, 1}, {1, 0, 1}, {11, 1, 1}, {1, 11, 1}, {1, 1, -1}, {1, 1, 1001}, {-1, 1, 1}, {1, -1, 1},
		{257, 1, 1}, {1, 266, 1}, {1, 1, 65537}, {math.MinInt64, 1, 1}, {1, math.MaxInt64, 1}, {1, 1, math.MinInt64},
		{1<<32 + 1, 1, 1}, {1, 1<<32 + 1, 1}, {1, 1, 1<<32 + 1},
	}
	for _, v := range bad {
		expectCode(t, "PlainPasture", impl.ErrRange)(impl.PlainPasture(v[0], v[1], v[2]))
	}
}

func TestGrassOfCells(t *testing.T) {
	p := examplePasture(t)
	expect(t, "GrassAt", 4, 0)(impl.GrassAt(p, spotAt(1, 1)))
	expect(t, "GrassIn", 15, 0)(impl.GrassIn(p))
	expect(t, "no cell", 0, 0)(impl.GrassOf(p, nil))
	expect(t, "empty", 0, 0)(impl.GrassOf(p, []impl.Spot{}))
	twice := []impl.Spot{spotAt(0, 0), spotAt(2, 0), spotAt(0, 0)}
	expect(t, "a cell twice", 11, 0)(impl.GrassOf(p, twice))
	most, _ := impl.PlainPasture(10, 10, 1000)
	expect(t, "the most", 100000, 0)(impl.GrassIn(most))
	for _, p := range somePastures() {
		sum := 0
		for _, s := range cellsOf(p) {
			grass := int(p.Grass[s.Y][s.X])
			sum += grass
			expect(t, "GrassAt", grass, 0)(impl.GrassAt(p, s))
			want := p
			want.Grass[s.Y][s.X] = impl.MaxGrass
			expect(t, "WithGrass", want, 0)(impl.WithGrass(p, s, impl.MaxGrass))
			want.Grass[s.Y][s.X] = 0
			expect(t, "WithGrass none", want, 0)(impl.WithGrass(p, s, 0))
		}
		expect(t, "GrassIn", sum, 0)(impl.GrassIn(p))
		expect(t, "GrassOf", sum, 0)(impl.GrassOf(p, cellsOf(p)))
	}
}

func TestHasHurdle(t *testing.T) {
	for _, p := range somePastures() {
		for _, s := range cellsOf(p) {
			for side, next := range acrossOf(s) {
				want := !isCell(p, next) || isFenced(p, s, next)
				expect(t, "HasHurdle", want, 0)(impl.HasHurdle(p, s, int64(side)))
			}
		}
	}
}

func TestSetHurdle(t *testing.T) {
	for _, p := range somePastures() {
		for _, side := range sidesIn(p) {
			with := fence(p, side)
			without := with
			if side.from.Y == side.to.Y {
				without.East[side.from.Y] -= 1 << uint(side.from.X)
			} else {
				without.South[side.from.Y] -= 1 << uint(side.from.X)
			}
			for _, from := range []impl.Spot{side.from, side.to} {
				to := side.from
				if from == to {
					to = side.to
				}
				across := acrossOf(from)
				number := int64(slices.Index(across[:], to))
				expect(t, "put", with, 0)(impl.SetHurdle(p, from, number, true))
				expect(t, "take", without, 0)(impl.SetHurdle(p, from, number, false))
			}
		}
	}
}

func TestSetHurdleOnWalls(t *testing.T) {
	for _, p := range somePastures() {
		for _, s := range cellsOf(p) {
			for side, next := range acrossOf(s) {
				if !isCell(p, next) {
					expectCode(t, "put", impl.ErrState)(impl.SetHurdle(p, s, int64(side), true))
					expectCode(t, "take", impl.ErrState)(impl.SetHurdle(p, s, int64(side), false))
				}
			}
		}
	}
}

func TestCountHurdles(t *testing.T) {
	for _, p := range somePastures() {
		count := 0
		for _, side := range sidesIn(p) {
			if isFenced(p, side.from, side.to) {
				count++
			}
		}
		expect(t, "CountHurdles", count, 0)(impl.CountHurdles(p))
	}
	full := randomPasture(rand.New(rand.NewSource(2)), 10, 10, 10)
	expect(t, "all sides", 180, 0)(impl.CountHurdles(full))
}

// The last cells have walls in the east and in the south, and hurdles only on their other sides.
func TestLastCells(t *testing.T) {
	p := grassy(10, 10, func(x, y int) int { return 0 })
	last := spotAt(9, 9)
	for side := range int64(4) {
		expect(t, "HasHurdle", side == impl.SiEast || side == impl.SiSouth, 0)(impl.HasHurdle(p, last, side))
	}
	west, code := impl.SetHurdle(p, last, impl.SiWest, true)
	expect(t, "west", uint16(1<<8), int64(impl.OK))(west.East[9], code)
	shut, code := impl.SetHurdle(west, last, impl.SiNorth, true)
	expect(t, "north", uint16(1<<9), int64(impl.OK))(shut.South[8], code)
	expect(t, "BesideOf", []impl.Spot(nil), 0)(impl.BesideOf(shut, last))
	expect(t, "YardOf", []impl.Spot{last}, 0)(impl.YardOf(shut, last))
	expect(t, "IdleHurdles", 0, 0)(impl.IdleHurdles(shut))
	plain := strings.Repeat("0 ", 9) + "0\n"
	text := strings.Repeat(plain, 8) + strings.Repeat("0 ", 9) + "0_\n" + strings.Repeat("0 ", 8) + "0| 0\n"
	expect(t, "PastureText", text)(impl.PastureText(shut))
}

func TestBesideOf(t *testing.T) {
	p := grassy(3, 3, func(x, y int) int { return 0 })
	want := []impl.Spot{spotAt(1, 0), spotAt(2, 1), spotAt(1, 2), spotAt(0, 1)}
	expect(t, "BesideOf", want, 0)(impl.BesideOf(p, spotAt(1, 1)))
	for _, p := range somePastures() {
		for _, s := range cellsOf(p) {
			expect(t, "BesideOf", openTo(p, s), 0)(impl.BesideOf(p, s))
		}
	}
}

func TestSidesOf(t *testing.T) {
	p := examplePasture(t)
	expect(t, "no cell", 0, 0)(impl.SidesOf(p, nil))
	expect(t, "all cells", 0, 0)(impl.SidesOf(p, cellsOf(p)))
	twice := []impl.Spot{spotAt(1, 0), spotAt(1, 0)}
	expect(t, "a cell twice", 3, 0)(impl.SidesOf(p, twice))
	r := rand.New(rand.NewSource(3))
	for _, p := range somePastures() {
		cells := cellsOf(p)
		var list []impl.Spot
		for range r.Intn(len(cells) + 5) {
			list = append(list, cells[r.Intn(len(cells))])
		}
		count := 0
		for _, side := range sidesIn(p) {
			if slices.Contains(list, side.from) != slices.Contains(list, side.to) {
				count++
			}
		}
		expect(t, "SidesOf", count, 0)(impl.SidesOf(p, list))
	}
}

func TestPastureText(t *testing.T) {
	p := examplePasture(t)
	expect(t, "PastureText", "5 2|_ 1\n3 4 0\n")(impl.PastureText(p))
	single := grassy(1, 1, func(x, y int) int { return 1000 })
	expect(t, "one cell", "1000\n")(impl.PastureText(single))
	for name, p := range invalidPastures() {
		expect(t, name, "")(impl.PastureText(p))
	}
	for _, p := range somePastures() {
		expect(t, "text", textByHand(p))(impl.PastureText(p))
		expect(t, "ReadPasture", p, 0)(impl.ReadPasture(textByHand(p)))
	}
}

func textByHand(p impl.Pasture) string {
	var lines []string
	for y := range int(p.High) {
		var words []string
		for x := range int(p.Wide) {
			word := strconv.Itoa(int(p.Grass[y][x]))
			if p.East[y]&(1<<x) != 0 {
				word += "|"
			}
			if p.South[y]&(1<<x) != 0 {
				word += "_"
			}
			words = append(words, word)
		}
		lines = append(lines, strings.Join(words, " ")+"\n")
	}
	return strings.Join(lines, "")
}

func TestTextsWithoutPasture(t *testing.T) {
	texts := []string{
		"", "\n", " ", "5", "5\n\n", "\n5\n", "5 \n", " 5\n", "5  5\n", "5\t5\n", "5\r\n", "5 5\n5\n", "5\n5 5\n",
		"5|\n", "5_\n", "5 5|\n", "5\n5_\n", "5|_\n", "5_| 5\n5 5\n", "5|| 5\n", "5 |5\n", "| 5\n", "5 |\n", "5__\n5\n",
		"05\n", "00\n", "+5\n", "-5\n", "-0\n", "1001\n", "99999999999999999999\n", "65541\n", "5.0\n", "0x5\n", "1_0\n", "a\n", "５\n",
		"5 5 0\n5 5\n", "5 5\n5 5 0\n", "5 5|\n5 5\n", "5 5\n5 5_\n", "5 5\n5 5", "5 5\n5 5\n\n", "5 5\n5 5\n ", "5\x00\n",
		strings.Repeat("0 ", 10) + "0\n", strings.Repeat("0\n", 11), strings.Repeat("0 ", 255) + "0\n", strings.Repeat("0\n", 257),
		strings.Repeat("0 ", 256) + "0\n", strings.Repeat("0", 1000) + "5\n",
	}
	for _, text := range texts {
		expectCode(t, strconv.Quote(text), impl.ErrSyntax)(impl.ReadPasture(text))
	}
}

func TestTextsOfMostCells(t *testing.T) {
	wide := strings.Repeat("0 ", 9) + "1000\n"
	for _, text := range []string{wide, strings.Repeat("7\n", 10), strings.Repeat(wide, 10), "0\n", "1000\n"} {
		p, code := impl.ReadPasture(text)
		expect(t, strconv.Quote(text), int64(impl.OK), text)(code, textByHand(p))
	}
}

// All short texts are read if, and only if, they have the form of a pasture.
func TestAllShortTexts(t *testing.T) {
	word := `(?:0|[1-9][0-9]{0,2}|1000)`
	row := regexp.MustCompile(`^(?:` + word + `\|?_? )*` + word + `_?$`)
	last := regexp.MustCompile(`^(?:` + word + `\|? )*` + word + `$`)
	isText := func(text string) bool {
		if !strings.HasSuffix(text, "\n") {
			return false
		}
		lines := strings.Split(strings.TrimSuffix(text, "\n"), "\n")
		for i, line := range lines {
			if strings.Count(line, " ") != strings.Count(lines[0], " ") || !row.MatchString(line) {
				return false
			}
			if i == len(lines)-1 && !last.MatchString(line) {
				return false
			}
		}
		return true
	}
	var try func(text string, more int)
	try = func(text string, more int) {
		p, code := impl.ReadPasture(text)
		if !isText(text) {
			expectCode(t, strconv.Quote(text), impl.ErrSyntax)(p, code)
		} else {
			expect(t, strconv.Quote(text), int64(impl.OK), true, text)(code, impl.ValidPasture(p), textByHand(p))
		}
		for i := 0; more > 0 && i < 6; i++ {
			try(text+"01|_ \n"[i:i+1], more-1)
		}
	}
	try("", 7)
}

// A text with one byte changed, taken away or put in is another pasture's, or none's.
func TestChangedTexts(t *testing.T) {
	r := rand.New(rand.NewSource(4))
	for range 300 {
		text := textByHand(randomPasture(r, 1+r.Intn(4), 1+r.Intn(4), 5))
		for i := range len(text) {
			for _, put := range []string{"", "0", "9", "|", "_", " ", "\n", "-", text[i:i+1] + text[i:i+1]} {
				changed := text[:i] + put + text[i+1:]
				p, code := impl.ReadPasture(changed)
				if code == impl.OK {
					expect(t, strconv.Quote(changed), true, changed)(impl.ValidPasture(p), textByHand(p))
				} else {
					expectCode(t, strconv.Quote(changed), impl.ErrSyntax)(p, code)
				}
			}
		}
	}
}
