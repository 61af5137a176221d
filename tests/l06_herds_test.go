package tests

import (
	"math/rand"
	"slices"
	"strconv"
	"testing"

	"loop.example/g01345/impl"
)

func TestExampleOfHerds(t *testing.T) {
	h := exampleHerd()
	expect(t, "ReadHerd", h, 0)(impl.ReadHerd("ada 5 bel\nbel 7 ada cyd\ncyd 3 bel\n"))
	expect(t, "FewestGroups", []int64{0, 1, 0}, 2, 0)(impl.FewestGroups(h))
	expect(t, "AllFoes", []int64{0, 1}, 0)(impl.AllFoes(h))
	expect(t, "MostPeaceful", []int64{0, 2}, 0)(impl.MostPeaceful(h))
	expect(t, "NeedsOf", []int64{8, 7}, 0)(impl.NeedsOf(h, []int64{0, 1, 0}))
	expect(t, "FitGroups", []int64{1, 0}, 0)(impl.FitGroups(h, []int64{0, 1, 0}, []int64{7, 9, 20}))
	expect(t, "PeaceGroups", [][]int64{{0, 1, 2}}, 0)(impl.PeaceGroups(h))
	p := examplePasture(t)
	expect(t, "CutColumn", 1, 0)(impl.CutColumn(p, 8, 7))
	expect(t, "the west", 8, 0)(impl.GrassOf(p, wayOf(0, 0, 0, 1)))
	expect(t, "the east", 7, 0)(impl.GrassOf(p, wayOf(1, 0, 2, 0, 1, 1, 2, 1)))
}

func TestValidHerd(t *testing.T) {
	for _, h := range someHerds() {
		expect(t, herdByHand(h), true)(impl.ValidHerd(h))
	}
	for name, h := range invalidHerds() {
		expect(t, name, false)(impl.ValidHerd(h))
	}
	for count := range 20 {
		expect(t, strconv.Itoa(count)+" goats", count <= 14)(impl.ValidHerd(herdWith(count)))
	}
}

func TestValidNames(t *testing.T) {
	for sign := range 256 {
		small := sign >= 'a' && sign <= 'z'
		for _, name := range []string{string([]byte{byte(sign)}), string([]byte{'q', byte(sign)}), string([]byte{byte(sign), 'q', 'r'}), "abcdefg" + string([]byte{byte(sign)})} {
			h := herdOf("bel 5")
			h.Names[0] = name
			expect(t, strconv.Quote(name), small)(impl.ValidHerd(h))
		}
	}
	for length := range 20 {
		h := herdOf("bel 5")
		h.Names[0] = "abcdefghijklmnopqrst"[:length]
		expect(t, h.Names[0], length >= 1 && length <= 8)(impl.ValidHerd(h))
	}
	long := herdOf("bel 5")
	long.Names[0] = string(make([]byte, 1000000))
	expect(t, "a million signs", false)(impl.ValidHerd(long))
	for _, pair := range pairsBelow(14) {
		h := herdWith(14)
		h.Names[pair[1]] = h.Names[pair[0]]
		expect(t, "the same name", false)(impl.ValidHerd(h))
	}
}

func TestValidEats(t *testing.T) {
	for eats := -32768; eats < 32768; eats++ {
		for goat := range 2 {
			h := herdOf("eva 0 fay", "fay 100 eva")
			h.Eats[goat] = int16(eats)
			expect(t, strconv.Itoa(eats), eats >= 0 && eats <= 100)(impl.ValidHerd(h))
		}
	}
}

// All bits of two and three goats: those of foes alone, both ways, are valid.
func TestValidFoes(t *testing.T) {
	for _, count := range []int{0, 1, 2, 3} {
		for bits := range 1 << (3 * count) {
			h := herdWith(count)
			for goat := range count {
				h.Foes[goat] = uint16(bits >> (3 * goat) & 7)
			}
			want := true
			for a := range count {
				for b := range 3 {
					want = want && !(isFoe(h, a, b) && (b == a || b >= count || !isFoe(h, b, a)))
				}
			}
			expect(t, "bits "+strconv.FormatInt(int64(bits), 2), want)(impl.ValidHerd(h))
		}
	}
	for goat := range 14 {
		for bit := range 16 {
			h := herdWith(14)
			h.Foes[goat] = 1 << bit
			expect(t, "a bit not back", false)(impl.ValidHerd(h))
		}
	}
}

func TestSameHerd(t *testing.T) {
	herds := someHerds()
	for _, h := range invalidHerds() {
		herds = append(herds, h)
	}
	for i, a := range herds {
		for j := max(0, i-30); j < min(len(herds), i+30); j++ {
			b := herds[j]
			same := sameLists(a, b)
			expect(t, "SameHerd", same)(impl.SameHerd(a, copyOf(b)))
			if i == j && !same {
				t.Errorf("herd %d is not the same as itself", i)
			}
		}
	}
	empty := impl.Herd{Names: []string{}, Eats: []int16{}, Foes: []uint16{}}
	expect(t, "nil and empty lists", true)(impl.SameHerd(impl.Herd{}, empty))
	expect(t, "nil and empty lists", true)(impl.SameHerd(empty, impl.Herd{}))
}

// Each list counts, and each place in it, also of herds that are not valid.
func TestSameHerdOfChanges(t *testing.T) {
	base := exampleHerd()
	for i := range 3 {
		for _, change := range []func(*impl.Herd){
			func(h *impl.Herd) { h.Names[i] += "x" }, func(h *impl.Herd) { h.Eats[i]-- }, func(h *impl.Herd) { h.Foes[i] ^= 1 << 15 },
			func(h *impl.Herd) { h.Names = h.Names[:i] }, func(h *impl.Herd) { h.Eats = h.Eats[:i] }, func(h *impl.Herd) { h.Foes = h.Foes[:i] },
			func(h *impl.Herd) { h.Names = append(h.Names, "") }, func(h *impl.Herd) { h.Eats = append(h.Eats, 0) }, func(h *impl.Herd) { h.Foes = append(h.Foes, 0) },
		} {
			h := copyOf(base)
			change(&h)
			expect(t, "changed", false)(impl.SameHerd(base, h))
			expect(t, "changed", false)(impl.SameHerd(h, base))
			expect(t, "changed in the same way", true)(impl.SameHerd(h, copyOf(h)))
		}
	}
}

func TestFoesOfAndAreFoes(t *testing.T) {
	for _, h := range someHerds() {
		count := len(h.Names)
		for a := range count {
			expect(t, "FoesOf", foesByHand(h, a), 0)(impl.FoesOf(h, int64(a)))
			for b := range count {
				expect(t, "AreFoes", isFoe(h, a, b), 0)(impl.AreFoes(h, int64(a), int64(b)))
			}
		}
		for _, none := range append([]int64{int64(count), int64(count) + 1, 15, 16, 64}, extremes...) {
			if none >= 0 && none < int64(count) {
				continue
			}
			expectCode(t, "FoesOf", impl.ErrRange)(impl.FoesOf(h, none))
			expectCode(t, "AreFoes", impl.ErrRange)(impl.AreFoes(h, none, 0))
			expectCode(t, "AreFoes", impl.ErrRange)(impl.AreFoes(h, 0, none))
			expectCode(t, "AreFoes", impl.ErrRange)(impl.AreFoes(h, none, none))
		}
	}
	expect(t, "the same goat", false, 0)(impl.AreFoes(exampleHerd(), 1, 1))
	expect(t, "the last of most", []int64{0, 12}, 0)(impl.FoesOf(herdWith(14, [2]int{0, 13}, [2]int{12, 13}), 13))
}

func TestWithFoes(t *testing.T) {
	h := exampleHerd()
	more := herdOf("ada 5 bel cyd", "bel 7 ada cyd", "cyd 3 ada bel")
	less := herdOf("ada 5", "bel 7 cyd", "cyd 3 bel")
	for _, swap := range [][2]int64{{0, 2}, {2, 0}} {
		expect(t, "foes now", more, 0)(impl.WithFoes(h, swap[0], swap[1], true))
		expect(t, "not foes yet", h, 0)(impl.WithFoes(h, swap[0], swap[1], false))
	}
	for _, swap := range [][2]int64{{0, 1}, {1, 0}} {
		expect(t, "no longer foes", less, 0)(impl.WithFoes(h, swap[0], swap[1], false))
		expect(t, "foes already", h, 0)(impl.WithFoes(h, swap[0], swap[1], true))
	}
	for _, foes := range []bool{true, false} {
		for goat := range int64(3) {
			expectCode(t, "the same goat", impl.ErrState)(impl.WithFoes(h, goat, goat, foes))
			for _, none := range append([]int64{3, 15}, extremes...) {
				expectCode(t, "no goat", impl.ErrRange)(impl.WithFoes(h, goat, none, foes))
				expectCode(t, "no goat", impl.ErrRange)(impl.WithFoes(h, none, goat, foes))
				expectCode(t, "twice no goat", impl.ErrRange)(impl.WithFoes(h, none, none, foes))
			}
		}
		expectCode(t, "no goats", impl.ErrRange)(impl.WithFoes(impl.Herd{}, 0, 0, foes))
	}
}

// All pairs become foes, or not, and nothing else changes.
func TestWithFoesOfAllPairs(t *testing.T) {
	for _, h := range someHerds() {
		for _, pair := range pairsBelow(len(h.Names)) {
			a, b := pair[0], pair[1]
			on, off := copyOf(h), copyOf(h)
			on.Foes[a], on.Foes[b] = on.Foes[a]|1<<b, on.Foes[b]|1<<a
			off.Foes[a], off.Foes[b] = off.Foes[a]&^(1<<b), off.Foes[b]&^(1<<a)
			expect(t, "foes", on, 0)(impl.WithFoes(h, int64(b), int64(a), true))
			expect(t, "no foes", off, 0)(impl.WithFoes(h, int64(a), int64(b), false))
		}
	}
}

func TestAddToHerd(t *testing.T) {
	h := exampleHerd()
	for _, eats := range []int64{0, 1, 9, 99, 100} {
		want := herdOf("ada 5 bel", "bel 7 ada cyd", "cyd 3 bel", "dot "+strconv.Itoa(int(eats)))
		expect(t, "dot", want, 0)(impl.AddToHerd(h, "dot", eats))
	}
	for _, name := range []string{"z", "abcdefgh", "be", "bell", "aada"} {
		want := herdOf("ada 5 bel", "bel 7 ada cyd", "cyd 3 bel", name+" 4")
		expect(t, name, want, 0)(impl.AddToHerd(h, name, 4))
	}
	badNames := []string{"", "abcdefghi", "Dot", "d t", "dot\n", "d0t", "d`t", "d{t", "dôt", "\xff", "ada", "bel", "cyd"}
	for _, eats := range append([]int64{101, 65536, 65541}, extremes...) {
		for _, name := range append(badNames, "dot") {
			expectCode(t, "AddToHerd", impl.ErrRange)(impl.AddToHerd(h, name, eats))
			expectCode(t, "AddToHerd", impl.ErrRange)(impl.AddToHerd(herdWith(14), name, eats))
		}
	}
	for _, name := range badNames {
		expectCode(t, strconv.Quote(name), impl.ErrState)(impl.AddToHerd(h, name, 5))
	}
}

func TestAddToHerdUpToMost(t *testing.T) {
	h := impl.Herd{}
	for i := range impl.MaxHerd {
		want := herdWith(i + 1)
		var code int64
		h, code = impl.AddToHerd(h, want.Names[i], int64(want.Eats[i]))
		expect(t, strconv.Itoa(i+1)+" goats", want, int64(impl.OK))(h, code)
	}
	expectCode(t, "one more", impl.ErrLimit)(impl.AddToHerd(h, "zoe", 5))
	for _, name := range h.Names {
		expectCode(t, "a name that is there", impl.ErrState)(impl.AddToHerd(h, name, 5))
		expectCode(t, "too much", impl.ErrRange)(impl.AddToHerd(h, name, 101))
	}
	for _, name := range []string{"", "abcdefghi", "Zoe"} {
		expectCode(t, "no name", impl.ErrState)(impl.AddToHerd(h, name, 5))
	}
}

func TestPickHerd(t *testing.T) {
	h := exampleHerd()
	for _, v := range []struct {
		goats []int64
		want  impl.Herd
	}{
		{nil, impl.Herd{}},
		{[]int64{1}, herdOf("bel 7")},
		{[]int64{0, 1, 2}, h},
		{[]int64{2, 1, 0}, herdOf("cyd 3 bel", "bel 7 cyd ada", "ada 5 bel")},
		{[]int64{1, 2, 0}, herdOf("bel 7 cyd ada", "cyd 3 bel", "ada 5 bel")},
		{[]int64{0, 2}, herdOf("ada 5", "cyd 3")},
		{[]int64{2, 1}, herdOf("cyd 3 bel", "bel 7 cyd")},
	} {
		expect(t, "PickHerd", v.want, 0)(impl.PickHerd(h, v.goats))
	}
	expect(t, "of no goats", impl.Herd{}, 0)(impl.PickHerd(impl.Herd{}, nil))
	for _, goats := range [][]int64{{0, 0}, {1, 2, 1}, {0, 1, 2, 0}, {2, 2, 2, 2, 2, 2, 2, 2, 2, 2, 2, 2, 2, 2, 2, 2, 2}} {
		expectCode(t, "twice", impl.ErrState)(impl.PickHerd(h, goats))
	}
	for _, none := range append([]int64{3, 15, 16, 64}, extremes...) {
		for _, goats := range [][]int64{{none}, {0, none}, {none, 0}, {0, 0, none}, {none, 1, 1}, {none, none}} {
			expectCode(t, "no goat", impl.ErrRange)(impl.PickHerd(h, goats))
		}
	}
	expectCode(t, "of no goats", impl.ErrRange)(impl.PickHerd(impl.Herd{}, []int64{0}))
}

func TestPickHerdInAnyOrder(t *testing.T) {
	r := rand.New(rand.NewSource(61))
	for _, h := range someHerds() {
		for range 5 {
			goats := shuffled(r, len(h.Names))
			expect(t, "all", pickByHand(h, goats), 0)(impl.PickHerd(h, goats))
			some := goats[:r.Intn(len(goats)+1)]
			expect(t, "some", pickByHand(h, some), 0)(impl.PickHerd(h, some))
			if len(some) > 0 {
				expectCode(t, "one twice", impl.ErrState)(impl.PickHerd(h, slices.Concat(some, some[:1])))
			}
		}
	}
}

func TestJoinHerds(t *testing.T) {
	h, other := exampleHerd(), herdOf("eva 1 fay", "fay 2 eva")
	expect(t, "both", herdOf("ada 5 bel", "bel 7 ada cyd", "cyd 3 bel", "eva 1 fay", "fay 2 eva"), 0)(impl.JoinHerds(h, other))
	expect(t, "the other way", herdOf("eva 1 fay", "fay 2 eva", "ada 5 bel", "bel 7 ada cyd", "cyd 3 bel"), 0)(impl.JoinHerds(other, h))
	expect(t, "no goats behind", h, 0)(impl.JoinHerds(h, impl.Herd{}))
	expect(t, "no goats ahead", h, 0)(impl.JoinHerds(impl.Herd{}, h))
	expect(t, "no goats", impl.Herd{}, 0)(impl.JoinHerds(impl.Herd{}, impl.Herd{}))
	expectCode(t, "itself", impl.ErrState)(impl.JoinHerds(h, h))
	for _, name := range h.Names {
		expectCode(t, name+" in both", impl.ErrState)(impl.JoinHerds(h, herdOf("eva 1", name+" 1")))
		expectCode(t, name+" in both", impl.ErrState)(impl.JoinHerds(herdOf("eva 1", name+" 1"), h))
	}
}

func TestJoinHerdsUpToMost(t *testing.T) {
	r := rand.New(rand.NewSource(62))
	for first := range impl.MaxHerd + 1 {
		for second := range impl.MaxHerd + 1 {
			a, b := renamed(randomHerd(r, first, 5), "a"), renamed(randomHerd(r, second, 5), "b")
			if first+second > impl.MaxHerd {
				expectCode(t, "too many", impl.ErrLimit)(impl.JoinHerds(a, b))
			} else {
				joined := impl.Herd{Names: append(slices.Clone(a.Names), b.Names...), Eats: append(slices.Clone(a.Eats), b.Eats...), Foes: slices.Clone(a.Foes)}
				for _, bits := range b.Foes {
					joined.Foes = append(joined.Foes, uint16(int(bits)<<first))
				}
				expect(t, "joined", joined, 0)(impl.JoinHerds(a, b))
			}
			if first > 0 && second > 0 {
				b.Names[r.Intn(second)] = a.Names[r.Intn(first)]
				expectCode(t, "a name in both, too many or not", impl.ErrState)(impl.JoinHerds(a, b))
			}
		}
	}
}

func TestPeaceGroups(t *testing.T) {
	expect(t, "no goats", [][]int64(nil), 0)(impl.PeaceGroups(impl.Herd{}))
	expect(t, "one goat", [][]int64{{0}}, 0)(impl.PeaceGroups(herdOf("ada 5")))
	expect(t, "no foes", [][]int64{{0}, {1}, {2}}, 0)(impl.PeaceGroups(herdWith(3)))
	expect(t, "by way of a later one", [][]int64{{0, 2, 3}, {1}}, 0)(impl.PeaceGroups(herdWith(4, [2]int{0, 3}, [2]int{2, 3})))
	expect(t, "two pairs", [][]int64{{0, 3}, {1, 2}}, 0)(impl.PeaceGroups(herdWith(4, [2]int{0, 3}, [2]int{1, 2})))
	long := [][2]int{{0, 13}, {13, 1}, {1, 12}, {12, 2}, {2, 11}, {11, 3}, {3, 10}, {10, 4}, {4, 9}, {9, 5}, {5, 8}, {8, 6}, {6, 7}}
	expect(t, "a long way", [][]int64{indicesBelow(14)}, 0)(impl.PeaceGroups(herdWith(14, long...)))
	expect(t, "two long ways", [][]int64{{0, 1, 2, 11, 12, 13}, {3, 4, 5, 6, 7, 8, 9, 10}}, 0)(impl.PeaceGroups(herdWith(14, slices.Concat(long[:5], long[6:])...)))
	for _, h := range someHerds() {
		expect(t, herdByHand(h), peaceByHand(h), 0)(impl.PeaceGroups(h))
	}
}
