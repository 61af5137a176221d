// Package impl keeps goats on pastures: cells with grass, hurdles between them, and what comes of both.
package impl

import (
	"cmp"
	"errors"
	"iter"
	"maps"
	"math/bits"
	"slices"
	"strconv"
	"strings"
)

// Error codes.
const (
	OK          = 0
	ErrInvalid  = 1
	ErrRange    = 2
	ErrLimit    = 3
	ErrState    = 4
	ErrSyntax   = 5
	ErrNotFound = 6
	ErrBudget   = 7
	ErrProof    = 8
)

// Limits of pastures.
const (
	Most     = 10
	MaxGrass = 1000
)

// Sides of cells.
const (
	SiNorth = 0
	SiEast  = 1
	SiSouth = 2
	SiWest  = 3
)

// Spot tells a cell.
type Spot struct {
	X int8
	Y int8
}

// Pasture has cells with grass, and hurdles between them.
type Pasture struct {
	Wide  int8
	High  int8
	Grass [10][10]int16
	East  [10]uint16
	South [10]uint16
}

var codeNames = [...]string{
	OK:          "ok",
	ErrInvalid:  "invalid",
	ErrRange:    "range",
	ErrLimit:    "limit",
	ErrState:    "state",
	ErrSyntax:   "syntax",
	ErrNotFound: "notfound",
	ErrBudget:   "budget",
	ErrProof:    "proof",
}

// Checks return these inside the package; only codes leave it.
var (
	errInvalid  = errors.New("invalid")
	errRange    = errors.New("range")
	errLimit    = errors.New("limit")
	errState    = errors.New("state")
	errSyntax   = errors.New("syntax")
	errNotFound = errors.New("not found")
	errBudget   = errors.New("budget")
)

// codeOf returns the code of an error of the package.
func codeOf(err error) int64 {
	switch {
	case errors.Is(err, errInvalid):
		return ErrInvalid
	case errors.Is(err, errRange):
		return ErrRange
	case errors.Is(err, errLimit):
		return ErrLimit
	case errors.Is(err, errState):
		return ErrState
	case errors.Is(err, errSyntax):
		return ErrSyntax
	case errors.Is(err, errNotFound):
		return ErrNotFound
	case errors.Is(err, errBudget):
		return ErrBudget
	}
	return OK
}

// CodeName returns the name of an error code.
func CodeName(code int64) string {
	if code < 0 || code >= int64(len(codeNames)) {
		return ""
	}
	return codeNames[code]
}

func (s Spot) north() Spot { return Spot{s.X, s.Y - 1} }
func (s Spot) east() Spot  { return Spot{s.X + 1, s.Y} }
func (s Spot) south() Spot { return Spot{s.X, s.Y + 1} }
func (s Spot) west() Spot  { return Spot{s.X - 1, s.Y} }

// compare is less than 0 if s is ordered ahead of t: by Y, and then by X.
func (s Spot) compare(t Spot) int {
	return cmp.Or(cmp.Compare(s.Y, t.Y), cmp.Compare(s.X, t.X))
}

func (s Spot) before(t Spot) bool { return s.compare(t) < 0 }

// setOf returns the cells of a list, of which some may come twice.
func setOf(list []Spot) map[Spot]bool {
	set := map[Spot]bool{}
	for _, s := range list {
		set[s] = true
	}
	return set
}

// inOrder returns the cells under which a map keeps something.
func inOrder[V any](kept map[Spot]V) []Spot {
	return slices.SortedFunc(maps.Keys(kept), Spot.compare)
}

// overSides returns the steps over the sides of a cell, by side.
func overSides() [4]func(Spot) Spot {
	return [4]func(Spot) Spot{
		SiNorth: Spot.north,
		SiEast:  Spot.east,
		SiSouth: Spot.south,
		SiWest:  Spot.west,
	}
}

// over returns the spot behind a side of a cell, which need not be a cell.
func over(s Spot, side int64) Spot {
	return overSides()[side](s)
}

// keptAt returns the cell, and the one of SiEast and SiSouth, under which a pasture keeps a side.
func keptAt(s Spot, side int64) (Spot, int64) {
	switch side {
	case SiNorth:
		return s.north(), SiSouth
	case SiWest:
		return s.west(), SiEast
	}
	return s, side
}

func (p Pasture) hasCell(s Spot) bool {
	return s.X >= 0 && s.X < p.Wide && s.Y >= 0 && s.Y < p.High
}

// cells goes through all cells in their order.
func (p Pasture) cells() iter.Seq[Spot] {
	return func(yield func(Spot) bool) {
		for y := range p.High {
			for x := range p.Wide {
				if !yield(Spot{x, y}) {
					return
				}
			}
		}
	}
}

// cellsThat returns, ordered, all cells of which something holds.
func (p Pasture) cellsThat(holds func(Spot) bool) []Spot {
	var list []Spot
	for s := range p.cells() {
		if holds(s) {
			list = append(list, s)
		}
	}
	return list
}

// beside goes through the cells to which one can go from a cell, in the order of its sides.
func (p Pasture) beside(s Spot) iter.Seq[Spot] {
	return func(yield func(Spot) bool) {
		for side := range int64(len(overSides())) {
			if p.isOpen(s, side) && !yield(over(s, side)) {
				return
			}
		}
	}
}

// canStep reports whether one can go from a cell to another one by a single step.
func (p Pasture) canStep(s, t Spot) bool { return slices.Contains(slices.Collect(p.beside(s)), t) }

func (p Pasture) isWall(s Spot, side int64) bool {
	return !p.hasCell(over(s, side))
}

// isFenced reports whether a hurdle stands on a side; a wall is none.
func (p Pasture) isFenced(s Spot, side int64) bool {
	if p.isWall(s, side) {
		return false
	}
	at, kept := keptAt(s, side)
	row := p.East[at.Y]
	if kept == SiSouth {
		row = p.South[at.Y]
	}
	return row>>at.X&1 == 1
}

func (p Pasture) isOpen(s Spot, side int64) bool {
	return !p.isWall(s, side) && !p.isFenced(s, side)
}

// withHurdle returns p with or without a hurdle on a side, which may be a wall only in the east or the south.
func (p Pasture) withHurdle(s Spot, side int64, on bool) Pasture {
	at, kept := keptAt(s, side)
	rows := &p.East
	if kept == SiSouth {
		rows = &p.South
	}
	rows[at.Y] &^= 1 << at.X
	if on {
		rows[at.Y] |= 1 << at.X
	}
	return p
}

// ValidPasture reports whether p is valid.
func ValidPasture(p Pasture) bool {
	if p.Wide < 1 || p.Wide > Most || p.High < 1 || p.High > Most {
		return false
	}
	return hasValidGrass(p) && hasValidHurdles(p)
}

func hasValidGrass(p Pasture) bool {
	rest := p.Grass
	for s := range p.cells() {
		if rest[s.Y][s.X] < 0 || rest[s.Y][s.X] > MaxGrass {
			return false
		}
		rest[s.Y][s.X] = 0
	}
	return rest == [Most][Most]int16{}
}

// hasValidHurdles reports whether bits are set only for sides that have cells on both sides.
func hasValidHurdles(p Pasture) bool {
	for y := range int8(Most) {
		var east, south uint16
		if y < p.High {
			east = 1<<(p.Wide-1) - 1
		}
		if y < p.High-1 {
			south = 1<<p.Wide - 1
		}
		if p.East[y]&^east != 0 || p.South[y]&^south != 0 {
			return false
		}
	}
	return true
}

// checkCells checks a pasture, and then that spots are cells of it.
func checkCells(p Pasture, list ...Spot) error {
	if !ValidPasture(p) {
		return errInvalid
	}
	for _, s := range list {
		if !p.hasCell(s) {
			return errRange
		}
	}
	return nil
}

func checkGrass(grass int64) error { return checkUpTo(grass, MaxGrass) }

// checkUpTo checks that a number is 0 to most.
func checkUpTo(number, most int64) error {
	if number < 0 || number > most {
		return errRange
	}
	return nil
}

// checkSide checks a pasture, and then that it has a cell, and a cell such a side.
func checkSide(p Pasture, s Spot, side int64) error {
	if err := checkCells(p, s); err != nil {
		return err
	}
	if side < SiNorth || side > SiWest {
		return errRange
	}
	return nil
}

// checkPlace checks that a hurdle can stand on a side.
func checkPlace(p Pasture, s Spot, side int64) error {
	if err := checkSide(p, s, side); err != nil {
		return err
	}
	if p.isWall(s, side) {
		return errState
	}
	return nil
}

// SamePasture reports whether two pastures are equal.
func SamePasture(a, b Pasture) bool { return a == b }

// PlainPasture returns a pasture without hurdles.
func PlainPasture(wide, high, grass int64) (Pasture, int64) {
	if wide < 1 || wide > Most || high < 1 || high > Most {
		return Pasture{}, ErrRange
	}
	if err := checkGrass(grass); err != nil {
		return Pasture{}, codeOf(err)
	}
	p := Pasture{Wide: int8(wide), High: int8(high)}
	for s := range p.cells() {
		p.Grass[s.Y][s.X] = int16(grass)
	}
	return p, OK
}

// GrassAt returns the grass of a cell.
func GrassAt(p Pasture, s Spot) (int64, int64) {
	if err := checkCells(p, s); err != nil {
		return 0, codeOf(err)
	}
	return p.grassAt(s), OK
}

func (p Pasture) grassAt(s Spot) int64 { return int64(p.Grass[s.Y][s.X]) }

// WithGrass gives a cell another grass.
func WithGrass(p Pasture, s Spot, grass int64) (Pasture, int64) {
	if err := checkCells(p, s); err != nil {
		return Pasture{}, codeOf(err)
	}
	if err := checkGrass(grass); err != nil {
		return Pasture{}, codeOf(err)
	}
	p.Grass[s.Y][s.X] = int16(grass)
	return p, OK
}

// HasHurdle reports whether one cannot go over a side.
func HasHurdle(p Pasture, s Spot, side int64) (bool, int64) {
	if err := checkSide(p, s, side); err != nil {
		return false, codeOf(err)
	}
	return !p.isOpen(s, side), OK
}

// SetHurdle puts a hurdle on a side, or takes it away.
func SetHurdle(p Pasture, s Spot, side int64, on bool) (Pasture, int64) {
	if err := checkPlace(p, s, side); err != nil {
		return Pasture{}, codeOf(err)
	}
	return p.withHurdle(s, side, on), OK
}

// CountHurdles returns how many hurdles there are.
func CountHurdles(p Pasture) (int64, int64) {
	if err := checkCells(p); err != nil {
		return 0, codeOf(err)
	}
	return p.countHurdles(), OK
}

func (p Pasture) countHurdles() int64 {
	count := 0
	for y := range p.High {
		count += bits.OnesCount16(p.East[y]) + bits.OnesCount16(p.South[y])
	}
	return int64(count)
}

// BesideOf returns where one can go from a cell.
func BesideOf(p Pasture, s Spot) ([]Spot, int64) {
	if err := checkCells(p, s); err != nil {
		return nil, codeOf(err)
	}
	return slices.Collect(p.beside(s)), OK
}

// stepsFrom returns the least number of steps from any of some cells to each cell of their yards.
func (p Pasture) stepsFrom(list ...Spot) map[Spot]int64 {
	steps := map[Spot]int64{}
	for _, s := range list {
		steps[s] = 0
	}
	queue := slices.Clone(list)
	for len(queue) > 0 {
		at := queue[0]
		queue = queue[1:]
		for next := range p.beside(at) {
			if _, known := steps[next]; !known {
				steps[next] = steps[at] + 1
				queue = append(queue, next)
			}
		}
	}
	return steps
}

// YardOf returns the yard of a cell.
func YardOf(p Pasture, s Spot) ([]Spot, int64) {
	if err := checkCells(p, s); err != nil {
		return nil, codeOf(err)
	}
	return p.yardOf(s), OK
}

func (p Pasture) yardOf(s Spot) []Spot { return inOrder(p.stepsFrom(s)) }

// YardsOf returns all yards.
func YardsOf(p Pasture) ([][]Spot, int64) {
	if err := checkCells(p); err != nil {
		return nil, codeOf(err)
	}
	return p.yardsOf(), OK
}

func (p Pasture) yardsOf() [][]Spot {
	var yards [][]Spot
	seen := map[Spot]bool{}
	for cell := range p.cells() {
		if seen[cell] {
			continue
		}
		yard := p.yardOf(cell)
		for _, s := range yard {
			seen[s] = true
		}
		yards = append(yards, yard)
	}
	return yards
}

// SameYard reports whether two cells are in one yard.
func SameYard(p Pasture, a, b Spot) (bool, int64) {
	if err := checkCells(p, a, b); err != nil {
		return false, codeOf(err)
	}
	return p.sameYard(a, b), OK
}

func (p Pasture) sameYard(a, b Spot) bool {
	_, same := p.stepsFrom(a)[b]
	return same
}

// GrassIn returns the sum of all grass.
func GrassIn(p Pasture) (int64, int64) {
	if err := checkCells(p); err != nil {
		return 0, codeOf(err)
	}
	return p.sumGrass(p.cells()), OK
}

// GrassOf returns the grass of some cells.
func GrassOf(p Pasture, list []Spot) (int64, int64) {
	if err := checkCells(p, list...); err != nil {
		return 0, codeOf(err)
	}
	return p.sumGrass(slices.Values(list)), OK
}

func (p Pasture) sumGrass(cells iter.Seq[Spot]) int64 {
	sum := int64(0)
	for s := range cells {
		sum += p.grassAt(s)
	}
	return sum
}

// SidesOf returns how many sides some cells have.
func SidesOf(p Pasture, list []Spot) (int64, int64) {
	if err := checkCells(p, list...); err != nil {
		return 0, codeOf(err)
	}
	inside := setOf(list)
	count := int64(0)
	for s := range inside {
		for _, step := range overSides() {
			if next := step(s); p.hasCell(next) && !inside[next] {
				count++
			}
		}
	}
	return count, OK
}

// stepsTo returns the steps to b from each cell of its yard, if a is one of these.
func stepsTo(p Pasture, a, b Spot) (map[Spot]int64, error) {
	if err := checkCells(p, a, b); err != nil {
		return nil, err
	}
	steps := p.stepsFrom(b)
	if _, found := steps[a]; !found {
		return nil, errNotFound
	}
	return steps, nil
}

// StepsBetween returns how many steps there are.
func StepsBetween(p Pasture, a, b Spot) (int64, int64) {
	steps, err := stepsTo(p, a, b)
	if err != nil {
		return 0, codeOf(err)
	}
	return steps[a], OK
}

// WayBetween returns a shortest way.
func WayBetween(p Pasture, a, b Spot) ([]Spot, int64) {
	steps, err := stepsTo(p, a, b)
	if err != nil {
		return nil, codeOf(err)
	}
	return p.wayDown(a, steps), OK
}

// wayDown returns of the shortest ways from a cell to where no step is left the one whose cells come first.
func (p Pasture) wayDown(from Spot, steps map[Spot]int64) []Spot {
	way := []Spot{from}
	for at := from; steps[at] > 0; {
		at = p.nearerOf(at, steps)
		way = append(way, at)
	}
	return way
}

// nearerOf returns the first cell beside a cell from which there are fewer steps.
func (p Pasture) nearerOf(at Spot, steps map[Spot]int64) Spot {
	first := at
	for next := range p.beside(at) {
		if steps[next] < steps[at] && (first == at || next.before(first)) {
			first = next
		}
	}
	return first
}

// IdleHurdles returns how many hurdles are idle.
func IdleHurdles(p Pasture) (int64, int64) {
	if err := checkCells(p); err != nil {
		return 0, codeOf(err)
	}
	return p.countHurdles() - p.withoutIdle().countHurdles(), OK
}

// DropIdle takes all idle hurdles away.
func DropIdle(p Pasture) (Pasture, int64) {
	if err := checkCells(p); err != nil {
		return Pasture{}, codeOf(err)
	}
	return p.withoutIdle(), OK
}

func (p Pasture) withoutIdle() Pasture {
	rest := p
	yards := p.yardNumbers()
	for s := range p.cells() {
		for _, side := range [2]int64{SiEast, SiSouth} {
			if p.isFenced(s, side) && yards[s] == yards[over(s, side)] {
				rest = rest.withHurdle(s, side, false)
			}
		}
	}
	return rest
}

// yardNumbers returns for each cell the index of its yard.
func (p Pasture) yardNumbers() map[Spot]int {
	numbers := map[Spot]int{}
	for i, yard := range p.yardsOf() {
		for _, s := range yard {
			numbers[s] = i
		}
	}
	return numbers
}

// MirrorPasture exchanges west and east.
func MirrorPasture(p Pasture) (Pasture, int64) {
	if err := checkCells(p); err != nil {
		return Pasture{}, codeOf(err)
	}
	mirrored := Pasture{Wide: p.Wide, High: p.High}
	for s := range mirrored.cells() {
		was := Spot{p.Wide - 1 - s.X, s.Y}
		mirrored = mirrored.takeCell(s, p, was, SiWest, SiSouth)
	}
	return mirrored, OK
}

// TurnPasture turns a pasture by a quarter.
func TurnPasture(p Pasture) (Pasture, int64) {
	if err := checkCells(p); err != nil {
		return Pasture{}, codeOf(err)
	}
	turned := Pasture{Wide: p.High, High: p.Wide}
	for s := range turned.cells() {
		was := Spot{s.Y, p.High - 1 - s.X}
		turned = turned.takeCell(s, p, was, SiNorth, SiEast)
	}
	return turned, OK
}

// takeCell returns p with the cell s as the cell was of q, whose sides east and south become those of s.
func (p Pasture) takeCell(s Spot, q Pasture, was Spot, east, south int64) Pasture {
	p.Grass[s.Y][s.X] = q.Grass[was.Y][was.X]
	p = p.withHurdle(s, SiEast, q.isFenced(was, east))
	return p.withHurdle(s, SiSouth, q.isFenced(was, south))
}

// PastureText returns the text of a pasture.
func PastureText(p Pasture) string {
	if !ValidPasture(p) {
		return ""
	}
	var text strings.Builder
	for s := range p.cells() {
		text.WriteString(p.wordOf(s))
		if s.X == p.Wide-1 {
			text.WriteByte('\n')
		} else {
			text.WriteByte(' ')
		}
	}
	return text.String()
}

func (p Pasture) wordOf(s Spot) string {
	word := strconv.FormatInt(p.grassAt(s), 10)
	if p.isFenced(s, SiEast) {
		word += "|"
	}
	if p.isFenced(s, SiSouth) {
		word += "_"
	}
	return word
}

// ReadPasture returns the pasture with the given text.
func ReadPasture(text string) (Pasture, int64) {
	p, err := parseRows(text)
	if err != nil {
		return Pasture{}, codeOf(err)
	}
	// Numbers such as 07 can be parsed, but no pasture has them in its text.
	if !ValidPasture(p) || PastureText(p) != text {
		return Pasture{}, ErrSyntax
	}
	return p, OK
}

func parseRows(text string) (Pasture, error) {
	var p Pasture
	for line := range strings.Lines(text) {
		words := strings.SplitN(strings.TrimSuffix(line, "\n"), " ", Most+1)
		if len(words) > Most || p.High == Most {
			return Pasture{}, errSyntax
		}
		p.Wide = int8(len(words))
		p.High++
		for x, word := range words {
			var err error
			if p, err = p.withWord(Spot{int8(x), p.High - 1}, word); err != nil {
				return Pasture{}, err
			}
		}
	}
	return p, nil
}

// withWord returns p with the cell that a word tells; what it tells need not be valid.
func (p Pasture) withWord(s Spot, word string) (Pasture, error) {
	word, south := strings.CutSuffix(word, "_")
	word, east := strings.CutSuffix(word, "|")
	grass, err := strconv.ParseInt(word, 10, 16)
	if err != nil {
		return Pasture{}, errSyntax
	}
	p.Grass[s.Y][s.X] = int16(grass)
	return p.withHurdle(s, SiEast, east).withHurdle(s, SiSouth, south), nil
}
