package tests

import (
	"math/rand"
	"regexp"
	"slices"
	"strconv"
	"strings"
	"testing"

	"loop.example/g01345/impl"
)

func TestFenceText(t *testing.T) {
	expect(t, "no hurdles", "")(impl.FenceText(nil))
	expect(t, "no hurdles", []impl.Hurdle(nil), 0)(impl.ReadFence(""))
	for _, p := range somePastures() {
		for _, fenced := range []bool{true, false} {
			list := sidesThat(p, fenced)
			expect(t, "FenceText", fenceByHand(list))(impl.FenceText(list))
			expect(t, "ReadFence", list, 0)(impl.ReadFence(fenceByHand(list)))
		}
	}
}

// A text tells of no pasture: hurdles need not be ordered, may come twice, and may be on the walls of the greatest one.
func TestTextsOfAnyHurdles(t *testing.T) {
	list := []impl.Hurdle{southOf(9, 9), eastOf(9, 0), eastOf(9, 0), southOf(0, 9), eastOf(0, 0)}
	text := "9,9_ 9,0| 9,0| 0,9_ 0,0|"
	expect(t, "FenceText", text)(impl.FenceText(list))
	expect(t, "ReadFence", list, 0)(impl.ReadFence(text))
}

func TestFencesWithoutText(t *testing.T) {
	good := eastOf(0, 0)
	for _, at := range [][2]int{{-1, 0}, {0, -1}, {10, 0}, {0, 10}, {-128, 0}, {0, 127}, {127, -128}} {
		for _, h := range []impl.Hurdle{eastOf(at[0], at[1]), southOf(at[0], at[1])} {
			for _, list := range [][]impl.Hurdle{{h}, {good, h}, {h, good}} {
				expect(t, fenceByHand(list), "")(impl.FenceText(list))
				expectCode(t, fenceByHand(list), impl.ErrSyntax)(impl.ReadFence(fenceByHand(list)))
			}
		}
	}
}

func TestTextsOfMostHurdles(t *testing.T) {
	for _, count := range []int{1, 2, 179, 180, 181, 182, 360, 1000} {
		list := slices.Repeat([]impl.Hurdle{southOf(9, 9)}, count)
		text := strings.TrimSuffix(strings.Repeat("9,9_ ", count), " ")
		if count <= impl.MaxFence {
			expect(t, "FenceText", text)(impl.FenceText(list))
			expect(t, "ReadFence", list, 0)(impl.ReadFence(text))
		} else {
			expect(t, "FenceText", "")(impl.FenceText(list))
			expectCode(t, "ReadFence", impl.ErrSyntax)(impl.ReadFence(text))
		}
	}
	plain, _ := impl.PlainPasture(10, 10, 0)
	all := sidesThat(plain, false)
	expect(t, "all sides", 180, fenceByHand(all))(int64(len(all)), impl.FenceText(all))
	expect(t, "all sides", all, 0)(impl.ReadFence(fenceByHand(all)))
}

func TestTextsWithoutFence(t *testing.T) {
	texts := []string{
		" ", "\n", "x", "|", "_", ",", "0", "0,", ",0", "0,0", "0,|", ",0|", ",|", "0|", "0_", "0,0||", "0,0__", "0,0|_", "0,0_|", "|0,0", "0|,0",
		"0,0| ", " 0,0|", "0,0|  0,0_", "0,0|\n", "0,0|\t0,0_", "0,0|0,0_", "0,0|,0,0_", "0, 0|", "0 ,0|", "0,0 |", "0.0|", "0,0,0|",
		"00,0|", "0,00|", "01,0|", "0,01_", "+1,0|", "0,+1_", "-0,0|", "0,-0|", "-1,0|", "10,0|", "0,10_", "256,0|", "0,257_", "1_0,0|", "0x1,0|",
		"0,0| x", "x 0,0|", "0,0| 0,0", "0,0| 0,0_ ", "0,0|\x00", "０,0|", "0,0¦", "99999999999999999999,0|", "0,0| | 0,0_",
	}
	for _, text := range texts {
		expectCode(t, strconv.Quote(text), impl.ErrSyntax)(impl.ReadFence(text))
	}
}

var fenceForm = regexp.MustCompile(`\A(?:[0-9],[0-9][|_](?: [0-9],[0-9][|_]){0,179})?\z`)

// wantRead wants a text read if, and only if, it has the form of a fence.
func wantRead(t *testing.T, text string) {
	t.Helper()
	list, code := impl.ReadFence(text)
	if fenceForm.MatchString(text) {
		expect(t, strconv.Quote(text), int64(impl.OK), text, text)(code, fenceByHand(list), impl.FenceText(list))
	} else {
		expectCode(t, strconv.Quote(text), impl.ErrSyntax)(list, code)
	}
}

func TestAllShortTextsOfFences(t *testing.T) {
	try := func(text string) { wantRead(t, text) }
	eachLonger("", "09,|_ ", 6, try)
	for _, first := range []string{"0,0|", "9,9_", "0,0| 1,2_"} {
		eachLonger(first, "09,|_ ", 5, try)
	}
}

// A text with one byte changed, taken away or put in is another fence's, or none's.
func TestChangedTextsOfFences(t *testing.T) {
	r := rand.New(rand.NewSource(34))
	for range 200 {
		p := randomPasture(r, 1+r.Intn(4), 2+r.Intn(4), 3)
		text := fenceByHand(sidesThat(p, true))
		eachChange(text, []string{"", "0", "1", "9", ",", "|", "_", " ", "\n", "-"}, func(changed string) { wantRead(t, changed) })
	}
}
