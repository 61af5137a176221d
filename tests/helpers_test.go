package tests

import (
	"go/ast"
	"go/parser"
	"go/token"
	"math/rand"
	"reflect"
	"runtime"
	"slices"
	"strings"
	"testing"
	"time"

	"loop.example/g01345/impl"
)

// The helpers here read the fields of a pasture themselves, so that the program is not tested against itself.

func spotAt(x, y int) impl.Spot { return impl.Spot{X: int8(x), Y: int8(y)} }

// pastureOf reads the rows of a pasture, which must be valid.
func pastureOf(t *testing.T, rows ...string) impl.Pasture {
	t.Helper()
	p, code := impl.ReadPasture(strings.Join(rows, "\n") + "\n")
	if code != impl.OK {
		t.Fatalf("ReadPasture(%q): code %d", rows, code)
	}
	return p
}

func examplePasture(t *testing.T) impl.Pasture {
	t.Helper()
	return pastureOf(t, "5 2|_ 1", "3 4 0")
}

// expect compares all results of a call with those that are wanted; nil and empty slices are equal.
func expect(t *testing.T, name string, want ...any) func(got ...any) {
	t.Helper()
	return func(got ...any) {
		t.Helper()
		if len(got) != len(want) {
			t.Fatalf("%s: %d results, want %d", name, len(got), len(want))
		}
		for i := range want {
			if !sameValue(got[i], want[i]) {
				t.Errorf("%s: result %d is %#v, want %#v", name, i, got[i], want[i])
			}
		}
	}
}

// expectCode wants a code as the last result, and zero values as all others.
func expectCode(t *testing.T, name string, code int64) func(got ...any) {
	t.Helper()
	return func(got ...any) {
		t.Helper()
		last := len(got) - 1
		if got[last] != code {
			t.Errorf("%s: code %v, want %d", name, got[last], code)
		}
		for i, value := range got[:last] {
			if !isZero(value) {
				t.Errorf("%s: result %d is %#v beside code %d, want its zero value", name, i, value, code)
			}
		}
	}
}

func isZero(value any) bool {
	v := reflect.ValueOf(value)
	return v.Kind() == reflect.Slice && v.Len() == 0 || v.IsZero()
}

func sameValue(a, b any) bool {
	if whole, ok := b.(int); ok {
		b = int64(whole)
	}
	if h, ok := b.(impl.Herd); ok {
		g, ok := a.(impl.Herd)
		return ok && sameLists(g, h)
	}
	v, w := reflect.ValueOf(a), reflect.ValueOf(b)
	if v.Kind() == reflect.Slice && w.Kind() == reflect.Slice && v.Len() == 0 && w.Len() == 0 {
		return v.Type() == w.Type()
	}
	return reflect.DeepEqual(a, b)
}

func sameLists(a, b impl.Herd) bool {
	return slices.Equal(a.Names, b.Names) && slices.Equal(a.Eats, b.Eats) && slices.Equal(a.Foes, b.Foes)
}

// scribble writes over all that a slice has, its unused capacity included.
func scribble(value any) {
	switch list := value.(type) {
	case []impl.Spot:
		overwrite(list, spotAt(77, 77))
	case []impl.Hurdle:
		overwrite(list, eastOf(77, 77))
	case []impl.Stake:
		overwrite(list, stakeAt(77, 77, 77))
	case []impl.Meadow:
		overwrite(list, impl.Meadow{Grass: 77, Grows: 77, Most: 77})
	case []impl.Sight:
		overwrite(list, impl.Sight{Day: 77, At: spotAt(77, 77)})
	case []impl.Goat:
		overwrite(list, impl.Goat{At: spotAt(77, 77), Eats: 77})
	case []int64:
		overwrite(list, 77)
	case [][2]int64:
		overwrite(list, [2]int64{77, 77})
	case [][]impl.Spot:
		for _, inner := range list {
			scribble(inner)
		}
	case [][]int64:
		for _, inner := range list {
			scribble(inner)
		}
	case impl.Herd:
		overwrite(list.Names, "scribble")
		overwrite(list.Eats, 77)
		overwrite(list.Foes, 77)
	}
}

func overwrite[T any](list []T, value T) {
	list = list[:cap(list)]
	for i := range list {
		list[i] = value
	}
}

func scribbleAll(called map[string][]any) {
	for _, list := range called {
		for _, value := range list {
			scribble(value)
		}
	}
}

// wantEqualResults wants calls to return what they returned before, also behind changes of their first results.
func wantEqualResults(t *testing.T, name string, call func() map[string][]any) {
	t.Helper()
	first, second := call(), call()
	if !reflect.DeepEqual(first, second) {
		t.Fatalf("%s: results differ: %v and %v", name, first, second)
	}
	scribbleAll(first)
	if third := call(); !reflect.DeepEqual(third, second) {
		t.Fatalf("%s: results differ behind a change: %v and %v", name, third, second)
	}
}

// wantNoMoreGoroutines wants goroutines to end that have not been there before.
func wantNoMoreGoroutines(t *testing.T, before int) {
	t.Helper()
	for range 1000 {
		if runtime.NumGoroutine() <= before {
			return
		}
		time.Sleep(time.Millisecond)
	}
	t.Errorf("%d goroutines, and %d before", runtime.NumGoroutine(), before)
}

// wantAllCalled wants a call of each exported function of a file of the program, and of no other one.
func wantAllCalled(t *testing.T, file string, called map[string][]any) {
	t.Helper()
	parsed, err := parser.ParseFile(token.NewFileSet(), "../impl/"+file, nil, 0)
	if err != nil {
		t.Fatal(err)
	}
	count := 0
	for _, d := range parsed.Decls {
		f, ok := d.(*ast.FuncDecl)
		if !ok || f.Recv != nil || !f.Name.IsExported() {
			continue
		}
		count++
		if called[f.Name.Name] == nil {
			t.Errorf("%s is not called", f.Name.Name)
		}
	}
	if count != len(called) {
		t.Errorf("%d functions, %d called", count, len(called))
	}
}

func cellsOf(p impl.Pasture) []impl.Spot {
	var list []impl.Spot
	for y := range int(p.High) {
		for x := range int(p.Wide) {
			list = append(list, spotAt(x, y))
		}
	}
	return list
}

func isCell(p impl.Pasture, s impl.Spot) bool {
	return s.X >= 0 && s.Y >= 0 && s.X < p.Wide && s.Y < p.High
}

// acrossOf returns the spots north, east, south and west of a cell.
func acrossOf(s impl.Spot) [4]impl.Spot {
	x, y := int(s.X), int(s.Y)
	return [4]impl.Spot{spotAt(x, y-1), spotAt(x+1, y), spotAt(x, y+1), spotAt(x-1, y)}
}

// isFenced tells from the bits whether a hurdle stands between two cells that share a side.
func isFenced(p impl.Pasture, a, b impl.Spot) bool {
	if b.X < a.X || b.Y < a.Y {
		a, b = b, a
	}
	if a.Y == b.Y {
		return p.East[a.Y]&(1<<uint(a.X)) != 0
	}
	return p.South[a.Y]&(1<<uint(a.X)) != 0
}

// openTo returns the cells to which one can go from a cell, in the order of its sides.
func openTo(p impl.Pasture, s impl.Spot) []impl.Spot {
	var list []impl.Spot
	for _, next := range acrossOf(s) {
		if isCell(p, next) && !isFenced(p, s, next) {
			list = append(list, next)
		}
	}
	return list
}

// link is a side between two cells, the one that comes first first.
type link struct{ from, to impl.Spot }

func sidesIn(p impl.Pasture) []link {
	var list []link
	for _, s := range cellsOf(p) {
		across := acrossOf(s)
		for _, next := range across[impl.SiEast : impl.SiSouth+1] {
			if isCell(p, next) {
				list = append(list, link{s, next})
			}
		}
	}
	return list
}

// fence puts a hurdle by its bit.
func fence(p impl.Pasture, side link) impl.Pasture {
	if side.from.Y == side.to.Y {
		p.East[side.from.Y] |= 1 << uint(side.from.X)
	} else {
		p.South[side.from.Y] |= 1 << uint(side.from.X)
	}
	return p
}

func grassy(wide, high int, grassAt func(x, y int) int) impl.Pasture {
	p := impl.Pasture{Wide: int8(wide), High: int8(high)}
	for y := range high {
		for x := range wide {
			p.Grass[y][x] = int16(grassAt(x, y))
		}
	}
	return p
}

// everyFence returns a pasture with each set of hurdles that can stand in it.
func everyFence(wide, high int) []impl.Pasture {
	plain := grassy(wide, high, func(x, y int) int { return 100*y + x })
	sides := sidesIn(plain)
	var list []impl.Pasture
	for set := range 1 << len(sides) {
		p := plain
		for i, side := range sides {
			if set>>i&1 == 1 {
				p = fence(p, side)
			}
		}
		list = append(list, p)
	}
	return list
}

// randomPasture has about so many hurdles of ten sides.
func randomPasture(r *rand.Rand, wide, high, hurdles int) impl.Pasture {
	p := grassy(wide, high, func(x, y int) int { return r.Intn(impl.MaxGrass + 1) })
	for _, side := range sidesIn(p) {
		if r.Intn(10) < hurdles {
			p = fence(p, side)
		}
	}
	return p
}

// somePastures returns valid pastures of all sizes, from no hurdle to one on every side.
func somePastures() []impl.Pasture {
	r := rand.New(rand.NewSource(1))
	var list []impl.Pasture
	for wide := 1; wide <= impl.Most; wide++ {
		for high := 1; high <= impl.Most; high++ {
			list = append(list, randomPasture(r, wide, high, (wide*7+high*3)%11))
		}
	}
	for hurdles := range 11 {
		list = append(list, randomPasture(r, impl.Most, impl.Most, hurdles))
	}
	for _, size := range [][2]int{{1, 1}, {2, 1}, {1, 2}, {2, 2}, {3, 2}} {
		list = append(list, everyFence(size[0], size[1])...)
	}
	return list
}

// invalidPastures returns pastures that are not valid, each for one reason.
func invalidPastures() map[string]impl.Pasture {
	base := grassy(3, 2, func(x, y int) int { return 5 })
	full := grassy(impl.Most, impl.Most, func(x, y int) int { return 5 })
	change := func(p impl.Pasture, f func(*impl.Pasture)) impl.Pasture { f(&p); return p }
	return map[string]impl.Pasture{
		"nothing":                  {},
		"no width":                 change(base, func(p *impl.Pasture) { *p = impl.Pasture{High: 1} }),
		"no height":                change(base, func(p *impl.Pasture) { *p = impl.Pasture{Wide: 1} }),
		"width below zero":         change(base, func(p *impl.Pasture) { p.Wide = -3 }),
		"height below zero":        change(base, func(p *impl.Pasture) { p.High = -128 }),
		"too wide":                 change(full, func(p *impl.Pasture) { p.Wide = impl.Most + 1 }),
		"too high":                 change(full, func(p *impl.Pasture) { p.High = 127 }),
		"too much grass":           change(base, func(p *impl.Pasture) { p.Grass[1][2] = impl.MaxGrass + 1 }),
		"grass below zero":         change(base, func(p *impl.Pasture) { p.Grass[0][0] = -1 }),
		"grass behind the east":    change(base, func(p *impl.Pasture) { p.Grass[0][3] = 1 }),
		"grass behind the south":   change(base, func(p *impl.Pasture) { p.Grass[2][0] = 1 }),
		"no grass at the corner":   change(base, func(p *impl.Pasture) { p.Grass[9][9] = -1 }),
		"hurdle on the east wall":  change(base, func(p *impl.Pasture) { p.East[1] = 1 << 2 }),
		"hurdle behind the east":   change(base, func(p *impl.Pasture) { p.East[0] = 1 << 3 }),
		"hurdle on the south wall": change(base, func(p *impl.Pasture) { p.South[1] = 1 << 0 }),
		"south hurdle past width":  change(base, func(p *impl.Pasture) { p.South[0] = 1 << 3 }),
		"east hurdle past height":  change(base, func(p *impl.Pasture) { p.East[2] = 1 }),
		"south hurdle past height": change(base, func(p *impl.Pasture) { p.South[9] = 1 }),
		"full, east wall":          change(full, func(p *impl.Pasture) { p.East[9] = 1 << 9 }),
		"full, south wall":         change(full, func(p *impl.Pasture) { p.South[9] = 1 }),
		"full, high bit east":      change(full, func(p *impl.Pasture) { p.East[0] = 1 << 15 }),
		"full, high bit south":     change(full, func(p *impl.Pasture) { p.South[0] = 1 << 10 }),
	}
}

// eachLonger goes through a text, and all texts with at most so many signs more.
func eachLonger(text, signs string, more int, try func(text string)) {
	try(text)
	for i := 0; more > 0 && i < len(signs); i++ {
		eachLonger(text+signs[i:i+1], signs, more-1, try)
	}
}

// eachChange goes through all texts in which one byte is replaced by another word, or comes twice.
func eachChange(text string, words []string, try func(text string)) {
	for i := range len(text) {
		for _, put := range append(words, text[i:i+1]+text[i:i+1]) {
			try(text[:i] + put + text[i+1:])
		}
	}
}
