package tests

import (
	"math/rand"
	"regexp"
	"strconv"
	"strings"
	"testing"

	"loop.example/g01345/impl"
)

func TestGrowthText(t *testing.T) {
	expect(t, "nothing grows", "0,0,0,0,0,0,0,0,0,0,0 0")(impl.GrowthText(impl.Growth{}))
	most := growthOf(1000, 100, 100, 100, 100, 100, 100, 100, 100, 100, 100, 100)
	expect(t, "most", "100,100,100,100,100,100,100,100,100,100,100 1000")(impl.GrowthText(most))
	for _, g := range someGrowths() {
		expect(t, "GrowthText", growthByHand(g))(impl.GrowthText(g))
		expect(t, "ReadGrowth", g, 0)(impl.ReadGrowth(growthByHand(g)))
	}
}

// Each number of a text is read as told, and none that is out of its range.
func TestNumbersOfGrowthTexts(t *testing.T) {
	for limit := -300; limit < 1400; limit++ {
		wantGrowth(t, "5,8,3,0,0,0,0,0,0,0,0 "+strconv.Itoa(limit))
	}
	for i := range 11 {
		for more := -300; more < 600; more++ {
			words := strings.Split("1,2,3,4,5,6,7,8,9,10,11", ",")
			words[i] = strconv.Itoa(more)
			wantGrowth(t, strings.Join(words, ",")+" 250")
		}
	}
}

func TestGrowthsWithoutText(t *testing.T) {
	for name, g := range invalidGrowths() {
		expect(t, name, "")(impl.GrowthText(g))
		expectCode(t, name, impl.ErrSyntax)(impl.ReadGrowth(growthByHand(g)))
	}
}

func TestTextsWithoutGrowth(t *testing.T) {
	texts := []string{
		"", " ", "\n", "x", ",", "250", " 250", "5,8 250", "5,8,3,0,0,0,0,0,0,0,0", "5,8,3,0,0,0,0,0,0,0,0 ", "5,8,3,0,0,0,0,0,0,0,0,250",
		"5,8,3,0,0,0,0,0,0,0 250", "5,8,3,0,0,0,0,0,0,0,0,0 250", "5,8,3,0,0,0,0,0,0,0,0  250", "5,8,3,0,0,0,0,0,0,0,0\t250",
		"5,8,3,0,0,0,0,0,0,0,0 250\n", " 5,8,3,0,0,0,0,0,0,0,0 250", "5,8,3,0,0,0,0,0,0,0,0 250 ", "5,8,3,0,0,0,0,0,0,0,0 250 0",
		"5,8,3,0,0,0,0,0,0,0, 0 250", "5, 8,3,0,0,0,0,0,0,0,0 250", "5,8,3,0,0,0,0,0,0,0, 250", ",8,3,0,0,0,0,0,0,0,0 250", "5,,3,0,0,0,0,0,0,0,0 250",
		"5;8;3;0;0;0;0;0;0;0;0 250", "5 8 3 0 0 0 0 0 0 0 0 250", "05,8,3,0,0,0,0,0,0,0,0 250", "+5,8,3,0,0,0,0,0,0,0,0 250",
		"-0,8,3,0,0,0,0,0,0,0,0 250", "5,8,3,0,0,0,0,0,0,0,0 0250", "5,8,3,0,0,0,0,0,0,0,0 +250", "5,8,3,0,0,0,0,0,0,0,0 -0", "5,8,3,0,0,0,0,0,0,0,0 00",
		"5,8,3,0,0,0,0,0,0,0,0 1001", "5,8,3,0,0,0,0,0,0,0,0 65786", "101,8,3,0,0,0,0,0,0,0,0 250", "261,8,3,0,0,0,0,0,0,0,0 250",
		"5,8,3,0,0,0,0,0,0,0,0 0x1", "1_0,8,3,0,0,0,0,0,0,0,0 250", "5,8,3,0,0,0,0,0,0,0,0 2_0", "5.0,8,3,0,0,0,0,0,0,0,0 250",
		"99999999999999999999,8,3,0,0,0,0,0,0,0,0 250", "5,8,3,0,0,0,0,0,0,0,0 99999999999999999999", "5,8,3,0,0,0,0,0,0,0,0 250\x00",
		"５,8,3,0,0,0,0,0,0,0,0 250", ",5,8,3,0,0,0,0,0,0,0,0 250", "5,8,3,0,0,0,0,0,0,0,0, 250", "250 5,8,3,0,0,0,0,0,0,0,0",
	}
	for _, text := range texts {
		expectCode(t, strconv.Quote(text), impl.ErrSyntax)(impl.ReadGrowth(text))
	}
	for _, part := range []string{"0", "9", " ", ",", "0,", "\n", "-", "5,8,3,0,0,0,0,0,0,0,0 250"} {
		expectCode(t, part, impl.ErrSyntax)(impl.ReadGrowth(strings.Repeat(part, 1000000/len(part))))
	}
}

var growthForm = regexp.MustCompile(`\A(?:[0-9]|[1-9][0-9]|100)(?:,(?:[0-9]|[1-9][0-9]|100)){10} (?:[0-9]|[1-9][0-9]{1,2}|1000)\z`)

// wantGrowth wants a text read if, and only if, it has the form of a growth.
func wantGrowth(t *testing.T, text string) {
	t.Helper()
	g, code := impl.ReadGrowth(text)
	if growthForm.MatchString(text) {
		expect(t, strconv.Quote(text), int64(impl.OK), text, text, true)(code, growthByHand(g), impl.GrowthText(g), impl.ValidGrowth(g))
	} else {
		expectCode(t, strconv.Quote(text), impl.ErrSyntax)(g, code)
	}
}

// A text with one byte changed, taken away or put in is another growth's, or none's.
func TestChangedTextsOfGrowth(t *testing.T) {
	r := rand.New(rand.NewSource(47))
	for range 200 {
		g := growthOf(r.Intn(1001))
		for i := range g.Table {
			g.Table[i] = int8(r.Intn(101))
		}
		text := growthByHand(g)
		eachChange(text, []string{"", "0", "1", "9", ",", " ", "\n", "-", "+"}, func(changed string) { wantGrowth(t, changed) })
		wantGrowth(t, text+"0")
		wantGrowth(t, "1"+text)
	}
}

// All texts that begin as that of a growth does, and end with some bytes more.
func TestAllShortEndsOfGrowthTexts(t *testing.T) {
	var try func(text string, more int)
	try = func(text string, more int) {
		wantGrowth(t, text)
		for i := 0; more > 0 && i < 6; i++ {
			try(text+"01,- \n"[i:i+1], more-1)
		}
	}
	try("", 5)
	try("5,8,3,0,0,0,0,0,0,0,", 5)
	try("5,8,3,0,0,0,0,0,0,0,0", 5)
}
