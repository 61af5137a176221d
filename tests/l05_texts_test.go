package tests

import (
	"math/rand"
	"regexp"
	"slices"
	"strconv"
	"strings"
	"testing"

	"loop.example/g01345/impl"
)

func TestStakesText(t *testing.T) {
	expect(t, "no stakes", "")(impl.StakesText(nil))
	expect(t, "no stakes", []impl.Stake(nil), 0)(impl.ReadStakes(""))
	for _, v := range someStakings() {
		expect(t, "StakesText", stakesByHand(v.list))(impl.StakesText(v.list))
		expect(t, "ReadStakes", v.list, 0)(impl.ReadStakes(stakesByHand(v.list)))
	}
}

// A text tells of no pasture: two stakes may stand in one cell, and any cell of 10 by 10 will do.
func TestTextsOfAnyStakes(t *testing.T) {
	list := []impl.Stake{stakeAt(9, 9, 200), stakeAt(0, 9, 0), stakeAt(0, 9, 0), stakeAt(9, 0, 10)}
	text := "9,9/200 0,9/0 0,9/0 9,0/10"
	expect(t, "StakesText", text)(impl.StakesText(list))
	expect(t, "ReadStakes", list, 0)(impl.ReadStakes(text))
}

func TestStakesWithoutText(t *testing.T) {
	good := stakeAt(0, 0, 1)
	bad := []impl.Stake{stakeAt(0, 0, -1), stakeAt(0, 0, 201), stakeAt(0, 0, -32768), stakeAt(0, 0, 32767)}
	for _, at := range [][2]int{{-1, 0}, {0, -1}, {10, 0}, {0, 10}, {-128, 0}, {0, 127}, {127, -128}} {
		bad = append(bad, stakeAt(at[0], at[1], 1))
	}
	for _, s := range bad {
		for _, list := range [][]impl.Stake{{s}, {good, s}, {s, good}} {
			expect(t, stakesByHand(list), "")(impl.StakesText(list))
			expectCode(t, stakesByHand(list), impl.ErrSyntax)(impl.ReadStakes(stakesByHand(list)))
		}
	}
}

func TestTextsOfMostStakes(t *testing.T) {
	for _, count := range []int{1, 2, 11, 12, 13, 14, 24, 1000} {
		list := slices.Repeat([]impl.Stake{stakeAt(9, 9, 200)}, count)
		text := strings.TrimSuffix(strings.Repeat("9,9/200 ", count), " ")
		if count <= impl.MaxStakes {
			expect(t, "StakesText", text)(impl.StakesText(list))
			expect(t, "ReadStakes", list, 0)(impl.ReadStakes(text))
		} else {
			expect(t, "StakesText", "")(impl.StakesText(list))
			expectCode(t, "ReadStakes", impl.ErrSyntax)(impl.ReadStakes(text))
		}
	}
}

func TestTextsWithoutStakes(t *testing.T) {
	texts := []string{
		" ", "\n", "x", "/", ",", "0", "0,", ",0", "0,0", "0,0/", "0,/1", ",0/1", ",/1", "0/1", "/1", ",/", "0,0//1", "0,0/1/", "0,0/1/1", "/0,0/1",
		"0,0/1 ", " 0,0/1", "0,0/1  1,1/1", "0,0/1\n", "0,0/1\t1,1/1", "0,0/1,1,1/1", "0,0/11,1/1", "0, 0/1", "0 ,0/1", "0,0 /1", "0,0/ 1", "0.0/1", "0,0,0/1",
		"00,0/1", "0,00/1", "01,0/1", "0,01/1", "0,0/01", "0,0/00", "+1,0/1", "0,+1/1", "0,0/+1", "-0,0/1", "0,-0/1", "0,0/-0", "-1,0/1", "0,0/-1", "10,0/1",
		"0,10/1", "0,0/201", "256,0/1", "0,257/1", "0,0/65537", "0,0/32768", "1_0,0/1", "0,0/1_0", "0x1,0/1", "0,0/0x1", "0,0/1.0", "0,0/1 x", "x 0,0/1",
		"0,0/1 1,1", "0,0~1", "0,0/1 1,1/1 ", "0,0/1\x00", "０,0/1", "0,0∕1", "0,0/99999999999999999999", "99999999999999999999,0/1", "0,0/1 / 1,1/1", "0,0/free",
	}
	for _, text := range texts {
		expectCode(t, strconv.Quote(text), impl.ErrSyntax)(impl.ReadStakes(text))
	}
}

var stakesForm = regexp.MustCompile(`\A(?:[0-9],[0-9]/(?:[0-9]|[1-9][0-9]|1[0-9][0-9]|200)(?: [0-9],[0-9]/(?:[0-9]|[1-9][0-9]|1[0-9][0-9]|200)){0,11})?\z`)

// wantStakes wants a text read if, and only if, it has the form of stakes.
func wantStakes(t *testing.T, text string) {
	t.Helper()
	list, code := impl.ReadStakes(text)
	if stakesForm.MatchString(text) {
		expect(t, strconv.Quote(text), int64(impl.OK), text, text)(code, stakesByHand(list), impl.StakesText(list))
	} else {
		expectCode(t, strconv.Quote(text), impl.ErrSyntax)(list, code)
	}
}

// Each reach is read as told, and none that is out of its range.
func TestReachesOfTexts(t *testing.T) {
	for reach := -300; reach < 600; reach++ {
		wantStakes(t, "3,4/"+strconv.Itoa(reach))
		wantStakes(t, "3,4/7 5,6/"+strconv.Itoa(reach)+" 3,4/7")
		wantStakes(t, strconv.Itoa(reach)+",4/7")
		wantStakes(t, "3,"+strconv.Itoa(reach)+"/7")
	}
}

func TestAllShortTextsOfStakes(t *testing.T) {
	try := func(text string) { wantStakes(t, text) }
	eachLonger("", "02,/ -", 6, try)
	for _, first := range []string{"0,0/", "9,9/20", "0,0/1 1,2/3"} {
		eachLonger(first, "02,/ -", 5, try)
	}
}

// A text with one byte changed, taken away or put in is other stakes', or none's.
func TestChangedTextsOfStakes(t *testing.T) {
	r := rand.New(rand.NewSource(56))
	for range 200 {
		text := stakesByHand(someStakesOn(r, grassy(10, 10, func(x, y int) int { return 0 }), 1+r.Intn(12)))
		eachChange(text, []string{"", "0", "1", "9", ",", "/", " ", "\n", "-"}, func(changed string) { wantStakes(t, changed) })
	}
}
