package tests

import (
	"math/rand"
	"regexp"
	"slices"
	"strconv"
	"strings"
	"testing"

	"loop.example/g01345/impl"
)

// goatsByHand is the text of goats that have one.
func goatsByHand(list []impl.Goat) string {
	var text strings.Builder
	for _, g := range list {
		tether := "free"
		if g.Rope != -1 {
			tether = wordOf(g.Stake) + "~" + strconv.Itoa(int(g.Rope))
		}
		likes := []string{"rich", "near"}[g.Likes]
		words := []string{wordOf(g.At), tether, strconv.Itoa(int(g.Eats)), likes}
		text.WriteString(strings.Join(words, " ") + "\n")
	}
	return text.String()
}

func wordOf(s impl.Spot) string {
	return strconv.Itoa(int(s.X)) + "," + strconv.Itoa(int(s.Y))
}

func TestGoatsText(t *testing.T) {
	g := freeGoat(spotAt(2, 0), 12, impl.LiRich)
	tied := tiedGoat(spotAt(2, 0), spotAt(2, 0), 1, 12, impl.LiNear)
	expect(t, "two", "2,0 free 12 rich\n2,0 2,0~1 12 near\n")(impl.GoatsText([]impl.Goat{g, tied}))
	expect(t, "no goats", "")(impl.GoatsText(nil))
	expect(t, "no goats", []impl.Goat(nil), 0)(impl.ReadGoats(""))
	for _, f := range someFlocks() {
		expect(t, "GoatsText", goatsByHand(f.list))(impl.GoatsText(f.list))
		expect(t, "ReadGoats", f.list, 0)(impl.ReadGoats(goatsByHand(f.list)))
	}
}

// A text tells of no pasture: a goat that stands out of its rope has one, and any cell of 10 by 10 will do.
func TestTextsOfGoatsBeyondTheirRopes(t *testing.T) {
	list := []impl.Goat{
		tiedGoat(spotAt(9, 9), spotAt(0, 0), 0, 100, impl.LiNear),
		tiedGoat(spotAt(0, 9), spotAt(9, 0), 200, 0, impl.LiRich),
		freeGoat(spotAt(9, 0), 1, impl.LiNear),
	}
	text := "9,9 0,0~0 100 near\n0,9 9,0~200 0 rich\n9,0 free 1 near\n"
	expect(t, "GoatsText", text)(impl.GoatsText(list))
	expect(t, "ReadGoats", list, 0)(impl.ReadGoats(text))
}

func TestGoatsWithoutText(t *testing.T) {
	free, tied := freeGoat(spotAt(2, 0), 12, impl.LiRich), tiedGoat(spotAt(2, 0), spotAt(1, 1), 2, 12, impl.LiNear)
	change := func(g impl.Goat, f func(*impl.Goat)) impl.Goat { f(&g); return g }
	list := []impl.Goat{
		change(free, func(g *impl.Goat) { g.At.X = -1 }),
		change(free, func(g *impl.Goat) { g.At.X = 10 }),
		change(tied, func(g *impl.Goat) { g.At.Y = -128 }),
		change(tied, func(g *impl.Goat) { g.At.Y = 10 }),
		change(tied, func(g *impl.Goat) { g.Stake.X = -1 }),
		change(tied, func(g *impl.Goat) { g.Stake.X = 10 }),
		change(tied, func(g *impl.Goat) { g.Stake.Y = -1 }),
		change(tied, func(g *impl.Goat) { g.Stake.Y = 127 }),
		change(tied, func(g *impl.Goat) { g.Rope = -2 }),
		change(tied, func(g *impl.Goat) { g.Rope = 201 }),
		change(tied, func(g *impl.Goat) { g.Rope = -1 }),
		change(free, func(g *impl.Goat) { g.Stake.X = 1 }),
		change(free, func(g *impl.Goat) { g.Stake.Y = 1 }),
		change(free, func(g *impl.Goat) { g.Eats = -1 }),
		change(tied, func(g *impl.Goat) { g.Eats = 101 }),
		change(free, func(g *impl.Goat) { g.Likes = -1 }),
		change(tied, func(g *impl.Goat) { g.Likes = 2 }),
	}
	for i, g := range list {
		for _, goats := range [][]impl.Goat{{g}, {free, g}, {g, tied}} {
			expect(t, "goat "+strconv.Itoa(i), "")(impl.GoatsText(goats))
		}
	}
}

func TestTextsOfMostGoats(t *testing.T) {
	g := freeGoat(spotAt(2, 0), 12, impl.LiRich)
	line := "2,0 free 12 rich\n"
	for count := range 25 {
		list, text := slices.Repeat([]impl.Goat{g}, count), strings.Repeat(line, count)
		if count <= 20 {
			expect(t, "GoatsText", text)(impl.GoatsText(list))
			expect(t, "ReadGoats", list, 0)(impl.ReadGoats(text))
		} else {
			expect(t, "GoatsText", "")(impl.GoatsText(list))
			expectCode(t, "ReadGoats", impl.ErrSyntax)(impl.ReadGoats(text))
		}
	}
}

func TestTextsWithoutGoats(t *testing.T) {
	texts := []string{
		"\n", " ", "2,0 free 12 rich", "2,0 free 12 rich\n\n", "\n2,0 free 12 rich\n", "2,0 free 12 rich \n", " 2,0 free 12 rich\n",
		"2,0  free 12 rich\n", "2,0\tfree 12 rich\n", "2,0 free 12 rich\r\n", "2,0 free 12\n", "2,0 free 12 rich near\n", "free 12 rich\n",
		"2 free 12 rich\n", "2, free 12 rich\n", ",0 free 12 rich\n", "2,0,0 free 12 rich\n", "2, 0 free 12 rich\n", "2.0 free 12 rich\n",
		"10,0 free 12 rich\n", "0,10 free 12 rich\n", "-1,0 free 12 rich\n", "0,-1 free 12 rich\n", "02,0 free 12 rich\n", "+2,0 free 12 rich\n",
		"-0,0 free 12 rich\n", "258,0 free 12 rich\n", "2,256 free 12 rich\n", "2,0 Free 12 rich\n", "2,0 0,0~-1 12 rich\n",
		"2,0 0,0~ 12 rich\n", "2,0 0,0 12 rich\n", "2,0 ~1 12 rich\n", "2,0 2,0~201 12 rich\n", "2,0 2,0~01 12 rich\n", "2,0 2,0~+1 12 rich\n",
		"2,0 2,0~65537 12 rich\n", "2,0 2,0~-2 12 rich\n", "2,0 2,0~1~1 12 rich\n", "2,0 10,0~1 12 rich\n", "2,0 0,10~1 12 rich\n",
		"2,0 2~1 12 rich\n", "2,0 free~1 12 rich\n", "2,0 free 101 rich\n", "2,0 free -1 rich\n", "2,0 free 012 rich\n", "2,0 free +1 rich\n",
		"2,0 free 65536 rich\n", "2,0 free  rich\n", "2,0 free x rich\n", "2,0 free 1_0 rich\n", "2,0 free 0x1 rich\n", "2,0 free 12 poor\n",
		"2,0 free 12 \n", "2,0 free 12 Rich\n", "2,0 free 12 richnear\n", "2,0 free 12 0\n", "2,0 free 99999999999999999999 rich\n",
		"2,0 free 12 rich\n2,0 free 12 rich", "2,0 free 12 rich\nx\n", "2,0 free 12 rich 2,0 free 12 rich\n", "2,0 free 12 rich\x00\n", "２,0 free 12 rich\n",
	}
	for _, text := range texts {
		expectCode(t, strconv.Quote(text), impl.ErrSyntax)(impl.ReadGoats(text))
	}
}

// A text with one byte changed, taken away or put in is read if, and only if, it has the form of goats.
func TestChangedTextsOfGoats(t *testing.T) {
	spot := `[0-9],[0-9]`
	tether := `(?:free|` + spot + `~(?:[0-9]|[1-9][0-9]|1[0-9][0-9]|200))`
	form := regexp.MustCompile(`\A(?:` + spot + ` ` + tether + ` (?:[0-9]|[1-9][0-9]|100) (?:rich|near)\n){0,20}\z`)
	r := rand.New(rand.NewSource(22))
	p, _ := impl.PlainPasture(10, 10, 1)
	for range 200 {
		text := goatsByHand(someGoats(r, p, 1+r.Intn(3)))
		for i := range len(text) {
			for _, put := range []string{"", "0", "1", "9", ",", "~", " ", "\n", "-", "free", text[i:i+1] + text[i:i+1]} {
				changed := text[:i] + put + text[i+1:]
				list, code := impl.ReadGoats(changed)
				if form.MatchString(changed) {
					expect(t, strconv.Quote(changed), int64(impl.OK), changed, changed)(code, goatsByHand(list), impl.GoatsText(list))
				} else {
					expectCode(t, strconv.Quote(changed), impl.ErrSyntax)(list, code)
				}
			}
		}
	}
}
