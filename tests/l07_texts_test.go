package tests

import (
	"math/rand"
	"regexp"
	"slices"
	"strconv"
	"strings"
	"testing"

	"loop.example/g01345/impl"
)

func TestSightsText(t *testing.T) {
	expect(t, "no sights", "")(impl.SightsText(nil))
	expect(t, "no sights", []impl.Sight(nil), 0)(impl.ReadSights(""))
	expect(t, "two sights", "0:0,0 1:2,0")(impl.SightsText(sightsOf(0, 0, 0, 1, 2, 0)))
	for _, v := range someOutlooks() {
		expect(t, "SightsText", sightsByHand(v.list))(impl.SightsText(v.list))
		expect(t, "ReadSights", v.list, 0)(impl.ReadSights(sightsByHand(v.list)))
	}
}

// A text tells of no pasture: any cell of 10 by 10 will do, and strange sights as all others.
func TestTextsOfAnySights(t *testing.T) {
	list := sightsOf(0, 9, 9, 0, 0, 9, 0, 9, 9, 10, 9, 0, 999, 0, 0, 1000, 1, 2, 1000, 1, 2)
	text := "0:9,9 0:0,9 0:9,9 10:9,0 999:0,0 1000:1,2 1000:1,2"
	expect(t, "SightsText", text)(impl.SightsText(list))
	expect(t, "ReadSights", list, 0)(impl.ReadSights(text))
}

func TestSightsWithoutText(t *testing.T) {
	var bad [][]impl.Sight
	for _, day := range []int{-1, 1001, -32768, 32767} {
		bad = append(bad, sightsOf(day, 0, 0), sightsOf(day, 0, 0, 1000, 0, 0), sightsOf(0, 0, 0, day, 0, 0))
	}
	for _, at := range [][2]int{{-1, 0}, {0, -1}, {10, 0}, {0, 10}, {-128, 0}, {0, 127}, {127, -128}} {
		bad = append(bad, sightsOf(5, at[0], at[1]), sightsOf(5, at[0], at[1], 5, 0, 0), sightsOf(5, 0, 0, 6, at[0], at[1]))
	}
	bad = append(bad, sightsOf(5, 0, 0, 4, 0, 0), sightsOf(1000, 0, 0, 0, 0, 0), sightsOf(1, 0, 0, 2, 0, 0, 2, 1, 0, 1, 0, 0), sightsOf(5, 0, 0, 5, 0, 0, 4, 0, 0, 5, 0, 0))
	for _, list := range bad {
		expect(t, sightsByHand(list), "")(impl.SightsText(list))
		expectCode(t, sightsByHand(list), impl.ErrSyntax)(impl.ReadSights(sightsByHand(list)))
	}
}

func TestTextsOfMostSights(t *testing.T) {
	for _, count := range []int{1, 2, 39, 40, 41, 42, 80, 1000} {
		list := slices.Repeat(sightsOf(1000, 9, 9), count)
		text := strings.TrimSuffix(strings.Repeat("1000:9,9 ", count), " ")
		if count <= impl.MaxSights {
			expect(t, "SightsText", text)(impl.SightsText(list))
			expect(t, "ReadSights", list, 0)(impl.ReadSights(text))
		} else {
			expect(t, "SightsText", "")(impl.SightsText(list))
			expectCode(t, "ReadSights", impl.ErrSyntax)(impl.ReadSights(text))
		}
	}
}

func TestTextsWithoutSights(t *testing.T) {
	texts := []string{
		" ", "\n", "x", ":", ",", "0", "0:", ":0", "0:0", "0:0,", "0:,0", ":0,0", "0,0", "0:,", "0,0:0", "0:0:0", "0::0,0", "0:0,,0", ":0:0,0", "0:0,0:", "0:0,0:0", "0:0,0,0",
		"0:0,0 ", " 0:0,0", "0:0,0  1:0,0", "0:0,0\n", "0:0,0\t1:0,0", "0:0,0,1:0,0", "0:0,01:0,0", "0: 0,0", "0 :0,0", "0:0 ,0", "0:0, 0", "0.0,0", "0;0,0",
		"00:0,0", "01:0,0", "0:00,0", "0:0,00", "0:01,0", "0:0,01", "+1:0,0", "0:+1,0", "0:0,+1", "-0:0,0", "0:-0,0", "0:0,-0", "-1:0,0", "0:-1,0", "0:0,-1", "0:10,0",
		"0:0,10", "1001:0,0", "01000:0,0", "65536:0,0", "32768:0,0", "0:256,0", "0:0,257", "1_0:0,0", "0:1_0,0", "0x1:0,0", "1.0:0,0", "0:0,0 x", "x 0:0,0", "0:0,0 1:1",
		"1:0,0 0:0,0", "5:0,0 5:1,1 4:0,0", "0:0,0 : 1:1,1", "0:0,0 1:1,1 ", "0:0,0\x00", "０:0,0", "0∶0,0", "99999999999999999999:0,0", "0:99999999999999999999,0", "0:0,0|", "0:0,0_",
	}
	for _, text := range texts {
		expectCode(t, strconv.Quote(text), impl.ErrSyntax)(impl.ReadSights(text))
	}
}

var sightsForm = regexp.MustCompile(`\A(?:(?:[0-9]|[1-9][0-9]{1,2}|1000):[0-9],[0-9](?: (?:[0-9]|[1-9][0-9]{1,2}|1000):[0-9],[0-9]){0,39})?\z`)

// isSightsText reports whether a text has the form of sights, and days that do not go down.
func isSightsText(text string) bool {
	if !sightsForm.MatchString(text) {
		return false
	}
	last := 0
	for _, word := range strings.Fields(text) {
		day, _ := strconv.Atoi(word[:strings.Index(word, ":")])
		if day < last {
			return false
		}
		last = day
	}
	return true
}

// wantSights wants a text read if, and only if, it is that of sights.
func wantSights(t *testing.T, text string) {
	t.Helper()
	list, code := impl.ReadSights(text)
	if isSightsText(text) {
		expect(t, strconv.Quote(text), int64(impl.OK), text, text)(code, sightsByHand(list), impl.SightsText(list))
	} else {
		expectCode(t, strconv.Quote(text), impl.ErrSyntax)(list, code)
	}
}

func TestNumbersOfTextsOfSights(t *testing.T) {
	for number := -300; number < 1300; number++ {
		word := strconv.Itoa(number)
		wantSights(t, word+":3,4")
		wantSights(t, "500:3,4 "+word+":5,6")
		wantSights(t, word+":3,4 500:5,6")
		wantSights(t, "7:"+word+",4")
		wantSights(t, "7:3,"+word)
	}
}

func TestAllShortTextsOfSights(t *testing.T) {
	try := func(text string) { wantSights(t, text) }
	eachLonger("", "01:, -", 6, try)
	for _, first := range []string{"0:0,", "9:9,9 10", "1:0,0 1:1,1", "0:0,0 "} {
		eachLonger(first, "01:, -", 5, try)
	}
}

// A text with one byte changed, taken away or put in is other sights', or none's.
func TestChangedTextsOfSights(t *testing.T) {
	r := rand.New(rand.NewSource(89))
	for range 200 {
		text := sightsByHand(walkedOn(r, grassy(10, 10, func(x, y int) int { return 0 }), 1+r.Intn(12)).list)
		eachChange(text, []string{"", "0", "1", "9", ":", ",", " ", "\n", "-"}, func(changed string) { wantSights(t, changed) })
	}
}
