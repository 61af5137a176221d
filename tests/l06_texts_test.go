package tests

import (
	"math/rand"
	"regexp"
	"slices"
	"strconv"
	"strings"
	"testing"

	"loop.example/g01345/impl"
)

func TestHerdText(t *testing.T) {
	expect(t, "no goats", "")(impl.HerdText(impl.Herd{}))
	expect(t, "no goats", impl.Herd{}, 0)(impl.ReadHerd(""))
	expect(t, "the example", "ada 5 bel\nbel 7 ada cyd\ncyd 3 bel\n")(impl.HerdText(exampleHerd()))
	expect(t, "foes in the order of their indices", "cyd 0 bel ada\nbel 100 cyd\nada 10 cyd\n")(impl.HerdText(herdOf("cyd 0 bel ada", "bel 100 cyd", "ada 10 cyd")))
	for _, h := range someHerds() {
		expect(t, "HerdText", herdByHand(h))(impl.HerdText(h))
		expect(t, "ReadHerd", h, 0)(impl.ReadHerd(herdByHand(h)))
	}
}

func TestHerdsWithoutText(t *testing.T) {
	for name, h := range invalidHerds() {
		expect(t, name, "")(impl.HerdText(h))
	}
}

func TestTextsOfMostGoatsOfAHerd(t *testing.T) {
	text := ""
	for count := range 20 {
		h, code := impl.ReadHerd(text)
		if count <= impl.MaxHerd {
			expect(t, "ReadHerd", int64(impl.OK), count, text)(code, int64(len(h.Names)), herdByHand(h))
		} else {
			expectCode(t, "ReadHerd", impl.ErrSyntax)(h, code)
		}
		text += "g" + string(rune('t'-count)) + " 5\n"
	}
	all := herdByHand(herdWith(14, pairsBelow(14)...))
	expect(t, "all foes", herdWith(14, pairsBelow(14)...), 0)(impl.ReadHerd(all))
	expectCode(t, "one more goat", impl.ErrSyntax)(impl.ReadHerd(all + "zoe 5\n"))
}

func TestTextsWithoutHerd(t *testing.T) {
	texts := []string{
		// Foes that are none, in another order, not back, or told twice.
		"ada 5 bel\nbel 7\n", "bel 7\nada 5 bel\n", "ada 5 bel\nbel 7 cyd ada\ncyd 3 bel\n", "ada 5 cyd bel\nbel 7 ada\ncyd 3 ada\n",
		"ada 5 zoe\n", "ada 5 ada\n", "ada 5 bel bel\nbel 7 ada\n", "ada 5 bel\nbel 7 ada ada\n", "ada 5 be\nbel 7 ada\n", "ada 5 bell\nbel 7 ada\n",
		"ada 5 Bel\nbel 7 ada\n", "ada 5 bel\nbel 7 ada bel\n",
		// Names and numbers.
		" 5\n", "ada\n", "ada \n", "5\n", "5 5\n", "Ada 5\n", "a-a 5\n", "abcdefghi 5\n", "adá 5\n", "ada 5\nada 5\n", "ada 5\nbel 5\nada 7\n", "ada 5\nada 5 ada\n",
		"ada -1\n", "ada 101\n", "ada 05\n", "ada +5\n", "ada 00\n", "ada -0\n", "ada x\n", "ada 0x5\n", "ada 5.0\n", "ada 1_0\n", "ada 65541\n", "ada 32768\n",
		"ada 99999999999999999999\n", "ada five\n", "ada ５\n", "ada bel 5\nbel 7 ada\n",
		// Blanks and lines.
		"\n", " ", "ada", "ada 5", "ada 5 bel\nbel 7 ada", "ada 5 \n", " ada 5\n", "ada  5\n", "ada 5  bel\nbel 7 ada\n", "ada 5 bel \nbel 7 ada\n", "ada\t5\n",
		"ada 5\r\n", "ada 5\n\n", "\nada 5\n", "ada 5\n\nbel 7\n", "ada 5\n ", "ada 5 bel 7\n", "ada 5,bel\nbel 7,ada\n", "ada 5\x00\n", "\xff 5\n", "ada 5 \xff\n",
	}
	for _, text := range texts {
		expectCode(t, strconv.Quote(text), impl.ErrSyntax)(impl.ReadHerd(text))
	}
}

var herdForm = regexp.MustCompile(`\A(?:[a-z]{1,8} (?:[0-9]|[1-9][0-9]|100)(?: [a-z]{1,8})*\n){0,14}\z`)

// isHerdText reports whether a text has the form of a herd, names that are all different, and foes that are some, in their order and both ways.
func isHerdText(text string) bool {
	if !herdForm.MatchString(text) {
		return false
	}
	var lines [][]string
	var names []string
	for _, line := range strings.Split(strings.TrimSuffix(text, "\n"), "\n") {
		if line != "" {
			lines = append(lines, strings.Fields(line))
			names = append(names, strings.Fields(line)[0])
		}
	}
	for i, words := range lines {
		last := -1
		for _, foe := range words[2:] {
			j := slices.Index(names, foe)
			if j <= last || j == i || !slices.Contains(lines[j][2:], words[0]) {
				return false
			}
			last = j
		}
		if slices.Contains(names[:i], words[0]) {
			return false
		}
	}
	return true
}

// wantHerd wants a text read if, and only if, it is that of a herd.
func wantHerd(t *testing.T, text string) {
	t.Helper()
	h, code := impl.ReadHerd(text)
	if isHerdText(text) {
		expect(t, strconv.Quote(text), int64(impl.OK), text, text, true)(code, herdByHand(h), impl.HerdText(h), impl.ValidHerd(h))
	} else {
		expectCode(t, strconv.Quote(text), impl.ErrSyntax)(h, code)
	}
}

func TestNumbersOfTextsOfHerds(t *testing.T) {
	for eats := -300; eats < 600; eats++ {
		wantHerd(t, "ada "+strconv.Itoa(eats)+"\n")
		wantHerd(t, "ada 5 bel\nbel "+strconv.Itoa(eats)+" ada\n")
	}
}

func TestAllShortTextsOfHerds(t *testing.T) {
	try := func(text string) { wantHerd(t, text) }
	eachLonger("", "ab 01\n", 6, try)
	for _, first := range []string{"a 0 b\nb 0 ", "a 10", "a 0\nb ", "b 0 a\na 1"} {
		eachLonger(first, "ab 01\n", 5, try)
	}
}

// All lists of foes of three goats, in any order and also twice.
func TestAllFoesOfTexts(t *testing.T) {
	var ends []string
	for _, list := range slices.Concat(everyList(0, 3), everyList(1, 3), everyList(2, 3)) {
		end := ""
		for _, goat := range list {
			end += " " + []string{"x", "b", "m"}[goat]
		}
		ends = append(ends, end+"\n")
	}
	for _, first := range ends {
		for _, second := range ends {
			for _, third := range ends {
				wantHerd(t, "x 1"+first+"b 2"+second+"m 3"+third)
			}
		}
	}
}

// A text with one byte changed, taken away or put in is another herd's, or none's.
func TestChangedTextsOfHerds(t *testing.T) {
	r := rand.New(rand.NewSource(71))
	for i := range 60 {
		text := herdByHand(renamed(randomHerd(r, 1+i%7, 4), "q"))
		eachChange(text, []string{"", "0", "1", "9", "q", "a", "b", "A", " ", "\n", "-"}, func(changed string) { wantHerd(t, changed) })
	}
}
