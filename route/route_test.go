package route_test

import (
	"math"
	"slices"
	"testing"

	"phalanx/api"
	"phalanx/cell"
	"phalanx/class"
	"phalanx/grid"
	"phalanx/route"
)

const far = api.Far

func at(x, y int) api.Cell { return api.Cell{X: x, Y: y} }

func rect(x, y, w, h int) api.Rect { return api.Rect{At: at(x, y), W: w, H: h} }

func shape(class, size int) api.Shape { return api.Shape{Class: class, Size: size} }

// cells is a list of X and Y, one behind the other.
func cells(numbers ...int) []api.Cell {
	var l []api.Cell
	for i := 0; i < len(numbers); i += 2 {
		l = append(l, at(numbers[i], numbers[i+1]))
	}
	return l
}

// world is one of rows: . Plain, w Wood, ~ Water, # Rock.
func world(t *testing.T, rows ...string) *grid.World {
	t.Helper()
	m := api.Map{W: len(rows[0]), H: len(rows)}
	terrains := map[rune]byte{'.': api.Plain, 'w': api.Wood, '~': api.Water, '#': api.Rock}
	for _, row := range rows {
		for _, r := range row {
			m.Tiles = append(m.Tiles, terrains[r])
		}
	}
	return made(t, m)
}

// open is a world of one terrain.
func open(t *testing.T, width, height int, terrain byte) *grid.World {
	t.Helper()
	return made(t, api.Map{W: width, H: height, Tiles: slices.Repeat([]byte{terrain}, width*height)})
}

func made(t *testing.T, m api.Map) *grid.World {
	t.Helper()
	w, code := grid.New(m)
	if code != api.OK {
		t.Fatalf("New: error %d", code)
	}
	return w
}

func place(t *testing.T, w *grid.World, id int, foot api.Rect) {
	t.Helper()
	if code := w.Place(api.Building{Id: id, Foot: foot}); code != api.OK {
		t.Fatalf("Place %d at %v: error %d", id, foot, code)
	}
}

func raze(t *testing.T, w *grid.World, id int) {
	t.Helper()
	if _, code := w.Raze(id); code != api.OK {
		t.Fatalf("Raze %d: error %d", id, code)
	}
}

// shapes are all that may be.
func shapes() []api.Shape {
	var l []api.Shape
	for class := range api.Classes {
		for size := 1; size <= 4; size++ {
			l = append(l, shape(class, size))
		}
	}
	return l
}

// noShapes are shapes that may not be.
func noShapes() []api.Shape {
	outside := []int{math.MinInt, math.MinInt + 1, math.MinInt32 - 1, -1 << 16, -256, -4, -1, 5, 6, 255, 256, 257, 1 << 16, 1 << 32, 1<<32 + 1, math.MaxInt - 1, math.MaxInt}
	var l []api.Shape
	for _, n := range append(outside, 4) {
		for size := 1; size <= 4; size++ {
			l = append(l, shape(n, size))
		}
	}
	for _, n := range append(outside, 0) {
		for class := range api.Classes {
			l = append(l, shape(class, n))
		}
	}
	return append(l, shape(-1, 0), shape(4, 5), shape(-1, 5), shape(4, 0), shape(math.MinInt, math.MinInt), shape(math.MaxInt, math.MaxInt))
}

// noCells are cells that are none of a world that is w wide and h high.
func noCells(w, h int) []api.Cell {
	l := []api.Cell{at(-1, -1), at(-1, h), at(w, -1), at(w, h), at(w-1, h), at(w, h-1), at(w, 0), at(0, h)}
	for _, n := range []int{math.MinInt, math.MinInt + 1, math.MinInt32, -far - 1, -far, -128, -w, -2, -1, 128, 1 << 16, far - 1, far, far + 1, 1 << 32, 1<<32 + 1, math.MaxInt32, math.MaxInt - 3, math.MaxInt - 1, math.MaxInt} {
		l = append(l, at(n, 0), at(0, n), at(n, n), at(n, h-1), at(w-1, n))
	}
	return l
}

// noRects are rectangles that may not be.
func noRects() []api.Rect {
	l := []api.Rect{{}, rect(0, 0, 0, 5), rect(0, 0, 5, 0), rect(0, 0, -1, 5), rect(0, 0, 5, -5), rect(0, 0, far+1, 5), rect(0, 0, 5, far+1),
		rect(-far-1, 0, far, far), rect(0, -far-1, far, far), rect(1, 0, far, far+1), rect(2, 0, far, 5), rect(0, 2, 5, far), rect(far+1, 0, 1, 1), rect(0, far+1, 1, 1)}
	for _, n := range []int{math.MinInt, math.MinInt + 1, math.MinInt32, math.MaxInt32, 1 << 32, 1<<32 + 5, math.MaxInt - 1, math.MaxInt} {
		l = append(l, rect(n, 0, 5, 5), rect(0, n, 5, 5), rect(0, 0, n, 5), rect(0, 0, 5, n), rect(n, n, n, n), rect(n, 0, math.MaxInt, 5), rect(0, 0, n, n), rect(1, 1, n, n))
	}
	return l
}

// finds asks for a way, and whether it is of this kind.
func finds(t *testing.T, w *grid.World, s api.Shape, from, to api.Cell, in api.Rect, budget int, want api.Way, cost int) {
	t.Helper()
	got, sum := route.Find(w, s, from, to, in, budget)
	if got.Outcome != want.Outcome || !slices.Equal(got.Cells, want.Cells) || sum != cost {
		t.Fatalf("Find of %v from %v to %v in %v by %d = %v, %d, want %v, %d", s, from, to, in, budget, got, sum, want, cost)
	}
}

func findsNone(t *testing.T, w *grid.World, s api.Shape, from, to api.Cell, in api.Rect, budget int) {
	t.Helper()
	finds(t, w, s, from, to, in, budget, api.Way{Outcome: api.RouteNone}, 0)
}

// findsAll asks, by a budget that is enough, for just these cells, at this cost.
func findsAll(t *testing.T, w *grid.World, s api.Shape, from, to api.Cell, cost int, way ...int) {
	t.Helper()
	all := w.All()
	finds(t, w, s, from, to, all, all.W*all.H, api.Way{Outcome: api.RouteFound, Cells: cells(way...)}, cost)
}

// costs are those from a cell, which must be no error.
func costs(t *testing.T, w *grid.World, s api.Shape, from api.Cell, in api.Rect) []int {
	t.Helper()
	l, code := route.Costs(w, s, from, in)
	if code != api.OK || len(l) != in.W*in.H {
		t.Fatalf("Costs of %v from %v in %v = %v, error %d", s, from, in, l, code)
	}
	return l
}

func costsRefuses(t *testing.T, w *grid.World, s api.Shape, from api.Cell, in api.Rect) {
	t.Helper()
	if l, code := route.Costs(w, s, from, in); len(l) != 0 || code != api.ErrArg {
		t.Fatalf("Costs of %v from %v in %v = %v, error %d", s, from, in, l, code)
	}
}

// allNone tells whether each of a list's numbers is -1.
func allNone(l []int) bool {
	return !slices.ContainsFunc(l, func(n int) bool { return n != -1 })
}

// The chapter's example.

func TestExample(t *testing.T) {
	w := open(t, 3, 3, api.Plain)
	findsAll(t, w, shape(api.Foot, 1), at(0, 0), at(2, 1), 24, 1, 0, 2, 1)
	if l := costs(t, w, shape(api.Foot, 1), at(0, 0), w.All()); !slices.Equal(l, []int{0, 10, 20, 10, 14, 24, 20, 24, 28}) {
		t.Errorf("Costs = %v", l)
	}
}

// Ro1: Find.

func TestNobodysWorld(t *testing.T) {
	for _, w := range []*grid.World{nil, {}, new(grid.World), (&grid.World{}).Copy()} {
		for _, in := range append(noRects(), rect(0, 0, 5, 5), rect(0, 0, 1, 1), rect(-1, -1, 3, 3), rect(-far, -far, far, far), rect(0, 0, far, far)) {
			for _, s := range []api.Shape{shape(api.Foot, 1), shape(api.Hover, 4), shape(-1, 1), {}} {
				for _, budget := range []int{0, 1, 25, math.MaxInt} {
					findsNone(t, w, s, at(0, 0), at(0, 0), in, budget)
					findsNone(t, w, s, at(0, 0), at(1, 1), in, budget)
				}
				costsRefuses(t, w, s, at(0, 0), in)
				costsRefuses(t, w, s, in.At, in)
			}
		}
	}
}

func TestShapesThatMayNotBe(t *testing.T) {
	for _, terrain := range []byte{api.Plain, api.Water} {
		w := open(t, 6, 5, terrain)
		for _, s := range noShapes() {
			findsNone(t, w, s, at(0, 0), at(0, 0), w.All(), 30)
			findsNone(t, w, s, at(0, 0), at(1, 1), w.All(), 30)
			findsNone(t, w, s, at(2, 2), at(0, 1), w.All(), math.MaxInt)
			if l := costs(t, w, s, at(1, 1), rect(1, 0, 4, 3)); !allNone(l) {
				t.Errorf("Costs of %v = %v", s, l)
			}
		}
	}
}

// TestEachShape: where it stands, and how far it comes, in a world that is half land, half water, with a wood and a building.
func TestEachShape(t *testing.T) {
	w := world(t,
		".....~~~~~",
		".....~~~~~",
		"wwwww~~~~~",
		".....~~~~~",
		".....~~~~~")
	place(t, w, 1, rect(9, 4, 1, 1))
	const none = -1
	want := map[api.Shape][2]int{ // from 0, 0 to 0, 3; from 5, 0 to 6, 1
		shape(api.Foot, 1): {30, none}, shape(api.Foot, 2): {30, none}, shape(api.Foot, 3): {none, none}, shape(api.Foot, 4): {none, none},
		shape(api.Wheel, 1): {none, none}, shape(api.Wheel, 2): {none, none}, shape(api.Wheel, 3): {none, none}, shape(api.Wheel, 4): {none, none},
		shape(api.Boat, 1): {none, 14}, shape(api.Boat, 2): {none, 14}, shape(api.Boat, 3): {none, 14}, shape(api.Boat, 4): {none, none},
		shape(api.Hover, 1): {124, 14}, shape(api.Hover, 2): {130, 14}, shape(api.Hover, 3): {none, 14}, shape(api.Hover, 4): {none, none},
	}
	for _, s := range shapes() {
		for i, ends := range [][2]api.Cell{{at(0, 0), at(0, 3)}, {at(5, 0), at(6, 1)}} {
			x, cost := route.Find(w, s, ends[0], ends[1], w.All(), 50)
			if sum := want[s][i]; sum == none && x.Outcome != api.RouteNone || sum != none && (x.Outcome != api.RouteFound || cost != sum) {
				t.Errorf("Find of %v from %v to %v = %v, %d, want %d", s, ends[0], ends[1], x, cost, sum)
			}
			if got := costs(t, w, s, ends[0], w.All())[ends[1].Y*10+ends[1].X]; got != want[s][i] {
				t.Errorf("Costs of %v from %v to %v: %d, want %d", s, ends[0], ends[1], got, want[s][i])
			}
		}
	}
}

func TestFromIsTo(t *testing.T) {
	w := world(t, "..#", "~w.")
	for c := range cell.Cells(w.All()) {
		stands := class.Stands(w, shape(api.Foot, 1), c)
		for _, in := range []api.Rect{w.All(), {At: c, W: 1, H: 1}, rect(-9, -9, 20, 20)} {
			if stands {
				finds(t, w, shape(api.Foot, 1), c, c, in, 6, api.Way{Outcome: api.RouteFound}, 0)
			} else {
				findsNone(t, w, shape(api.Foot, 1), c, c, in, 6)
			}
		}
	}
}

func TestEndsOutside(t *testing.T) {
	w := open(t, 6, 5, api.Plain)
	foot := shape(api.Foot, 1)
	for _, c := range noCells(6, 5) {
		for _, in := range []api.Rect{w.All(), rect(-far, -far, far, far), rect(-3, -3, 12, 12), rect(0, 0, far, far), rect(1, 1, 2, 2)} {
			findsNone(t, w, foot, c, at(2, 2), in, 30)
			findsNone(t, w, foot, at(2, 2), c, in, 30)
			findsNone(t, w, foot, c, c, in, 30)
		}
		costsRefuses(t, w, foot, c, w.All())
		costsRefuses(t, w, foot, c, rect(0, 0, 1, 1))
	}
	// They are the world's, and lie beside in.
	for _, c := range []api.Cell{at(0, 2), at(5, 2), at(2, 0), at(2, 4), at(0, 0), at(5, 4)} {
		in := rect(1, 1, 4, 3)
		findsNone(t, w, foot, c, at(2, 2), in, 12)
		findsNone(t, w, foot, at(2, 2), c, in, 12)
		findsNone(t, w, foot, c, c, in, 12)
		costsRefuses(t, w, foot, c, in)
	}
}

// TestEndsWhereItDoesNotStand: rock, a building, and the world's edge, for a size of 2.
func TestEndsWhereItDoesNotStand(t *testing.T) {
	w := world(t,
		"......",
		"......",
		"......",
		"...#..")
	place(t, w, 3, rect(0, 3, 1, 1))
	s := shape(api.Wheel, 2)
	bad := cells(0, 2, 2, 2, 3, 2, 3, 3, 0, 3, 5, 0, 5, 1, 4, 3, 5, 3)
	for _, c := range bad {
		findsNone(t, w, s, at(0, 0), c, w.All(), 24)
		findsNone(t, w, s, c, at(0, 0), w.All(), 24)
		findsNone(t, w, s, c, c, w.All(), 24)
		if l := costs(t, w, s, c, w.All()); !allNone(l) {
			t.Errorf("Costs from %v = %v", c, l)
		}
		if l := costs(t, w, s, c, api.Rect{At: c, W: 1, H: 1}); !allNone(l) {
			t.Errorf("Costs from %v alone = %v", c, l)
		}
	}
	// Rock is under 3, 2, so the step over that corner is none.
	findsAll(t, w, s, at(0, 0), at(4, 2), 54, 1, 0, 2, 0, 3, 0, 4, 1, 4, 2)
}

func TestInThatMayNotBe(t *testing.T) {
	w := open(t, 5, 5, api.Plain)
	for _, in := range noRects() {
		for _, budget := range []int{25, math.MaxInt, 0} {
			findsNone(t, w, shape(api.Foot, 1), at(1, 1), at(3, 3), in, budget)
			findsNone(t, w, shape(api.Foot, 1), at(1, 1), at(1, 1), in, budget)
		}
		costsRefuses(t, w, shape(api.Foot, 1), at(1, 1), in)
		costsRefuses(t, w, shape(api.Foot, 1), in.At, in)
	}
}

func TestInOfOneCell(t *testing.T) {
	w := open(t, 4, 4, api.Plain)
	for c := range cell.Cells(w.All()) {
		one := api.Rect{At: c, W: 1, H: 1}
		finds(t, w, shape(api.Foot, 1), c, c, one, 1, api.Way{Outcome: api.RouteFound}, 0)
		for _, next := range cell.Around(c, w.All()) {
			findsNone(t, w, shape(api.Foot, 1), c, next, one, 1)
			findsNone(t, w, shape(api.Foot, 1), next, c, one, 1)
			findsNone(t, w, shape(api.Foot, 1), next, next, one, 1)
		}
		if l := costs(t, w, shape(api.Foot, 1), c, one); l[0] != 0 {
			t.Errorf("Costs of %v = %v", c, l)
		}
	}
}

// TestInBeyondTheWorld: Find takes what of it is the world's, with a budget of as many cells; Costs refuses it.
func TestInBeyondTheWorld(t *testing.T) {
	w := world(t,
		"..#..",
		"..#..",
		".....")
	s := shape(api.Foot, 1)
	whole := api.Way{Outcome: api.RouteFound, Cells: cells(0, 1, 1, 2, 2, 2, 3, 2, 3, 1, 4, 0)}
	for _, in := range []api.Rect{rect(-1, 0, 6, 3), rect(0, -1, 5, 4), rect(0, 0, 6, 3), rect(0, 0, 5, 4), rect(-7, -8, 40, 50), rect(0, 0, far, far), rect(1-far/2, 1-far/2, far, far), rect(5-far, 3-far, far, far)} {
		finds(t, w, s, at(0, 0), at(4, 0), in, 15, whole, 68)
		finds(t, w, s, at(0, 0), at(4, 0), in, math.MaxInt, whole, 68)
		costsRefuses(t, w, s, at(0, 0), in)
		costsRefuses(t, w, s, in.At, in)
	}
	// Those that lack an end.
	for _, in := range []api.Rect{rect(-far, -far, far, far), rect(1, 0, far, far), rect(0, 1, far, far), rect(4-far, 0, far, far), rect(-1, -1, 5, 9)} {
		inside, _ := cell.Meet(in, w.All())
		findsNone(t, w, s, at(0, 0), at(4, 0), in, inside.W*inside.H)
		findsNone(t, w, s, at(4, 0), at(0, 0), in, inside.W*inside.H)
	}
	// One row beyond, on each side, and wholly beside it.
	for _, in := range []api.Rect{rect(1, -1, 2, 2), rect(-1, 1, 2, 2), rect(4, 0, 2, 1), rect(0, 2, 1, 2), rect(5, 0, 1, 1), rect(0, 3, 1, 1), rect(-1, -1, 1, 1), rect(0, 0, 5, 4), rect(0, 0, 6, 3)} {
		for c := range cell.Cells(in) {
			costsRefuses(t, w, s, c, in)
		}
	}
}

func TestNoWay(t *testing.T) {
	w := world(t,
		"..#..",
		"..#..",
		"..#..")
	s := shape(api.Foot, 1)
	for _, budget := range []int{15, 16, math.MaxInt} {
		findsNone(t, w, s, at(0, 0), at(4, 2), w.All(), budget)
		findsNone(t, w, s, at(4, 2), at(0, 0), w.All(), budget)
	}
	if l := costs(t, w, s, at(1, 1), w.All()); !slices.Equal(l, []int{14, 10, -1, -1, -1, 10, 0, -1, -1, -1, 14, 10, -1, -1, -1}) {
		t.Errorf("Costs = %v", l)
	}
	// Over a corner alone, which may not be cut.
	w = world(t,
		".#",
		"#.")
	findsNone(t, w, s, at(0, 0), at(1, 1), w.All(), 4)
	findsNone(t, w, s, at(1, 1), at(0, 0), w.All(), 4)
	w = world(t,
		"#.",
		".#")
	findsNone(t, w, s, at(1, 0), at(0, 1), w.All(), 4)
	findsNone(t, w, s, at(0, 1), at(1, 0), w.All(), 4)
}

// TestWayOutsideIn: there is one, but it leaves the rectangle.
func TestWayOutsideIn(t *testing.T) {
	w := world(t,
		"...",
		".#.",
		".#.")
	s := shape(api.Foot, 1)
	findsAll(t, w, s, at(0, 2), at(2, 2), 60, 0, 1, 0, 0, 1, 0, 2, 0, 2, 1, 2, 2)
	findsNone(t, w, s, at(0, 2), at(2, 2), rect(0, 1, 3, 2), 6)
	findsNone(t, w, s, at(2, 2), at(0, 2), rect(0, 1, 3, 2), 6)
	if l := costs(t, w, s, at(0, 2), rect(0, 1, 3, 2)); !slices.Equal(l, []int{10, -1, -1, 0, -1, -1}) {
		t.Errorf("Costs = %v", l)
	}
}

// TestDearerWithin: a rectangle may leave a way, but not the least one of the world.
func TestDearerWithin(t *testing.T) {
	w := world(t,
		".....",
		".###.",
		".....",
		".....")
	s := shape(api.Foot, 1)
	finds(t, w, s, at(1, 0), at(3, 0), w.All(), 20, api.Way{Outcome: api.RouteFound, Cells: cells(2, 0, 3, 0)}, 20)
	place(t, w, 1, rect(2, 0, 1, 1))
	findsAll(t, w, s, at(1, 0), at(3, 0), 100, 0, 0, 0, 1, 0, 2, 1, 2, 2, 2, 3, 2, 4, 2, 4, 1, 4, 0, 3, 0)
	finds(t, w, s, at(0, 1), at(4, 1), rect(0, 0, 5, 3), 15, api.Way{Outcome: api.RouteFound, Cells: cells(0, 2, 1, 2, 2, 2, 3, 2, 4, 2, 4, 1)}, 60)
	place(t, w, 2, rect(2, 2, 1, 1))
	findsNone(t, w, s, at(0, 1), at(4, 1), rect(0, 0, 5, 3), 15)
	findsAll(t, w, s, at(0, 1), at(4, 1), 68, 0, 2, 1, 3, 2, 3, 3, 3, 4, 2, 4, 1)
	raze(t, w, 1)
	finds(t, w, s, at(0, 1), at(4, 1), rect(0, 0, 5, 3), 15, api.Way{Outcome: api.RouteFound, Cells: cells(0, 0, 1, 0, 2, 0, 3, 0, 4, 0, 4, 1)}, 60)
}

// TestLeastDirections: of ways of one cost the one with the least direction at each step.
func TestLeastDirections(t *testing.T) {
	w := open(t, 9, 9, api.Plain)
	s := shape(api.Foot, 1)
	findsAll(t, w, s, at(4, 4), at(7, 5), 34, 5, 4, 6, 4, 7, 5) // East, East, SouthEast
	findsAll(t, w, s, at(4, 4), at(5, 7), 34, 4, 5, 4, 6, 5, 7) // South, South, SouthEast
	findsAll(t, w, s, at(4, 4), at(3, 7), 34, 4, 5, 4, 6, 3, 7) // South, South, SouthWest
	findsAll(t, w, s, at(4, 4), at(1, 5), 34, 3, 4, 2, 4, 1, 5) // West, West, SouthWest
	findsAll(t, w, s, at(4, 4), at(1, 3), 34, 3, 4, 2, 4, 1, 3) // West, West, NorthWest
	findsAll(t, w, s, at(4, 4), at(3, 1), 34, 4, 3, 4, 2, 3, 1) // North, North, NorthWest
	findsAll(t, w, s, at(4, 4), at(5, 1), 34, 4, 3, 4, 2, 5, 1) // North, North, NorthEast
	findsAll(t, w, s, at(4, 4), at(7, 3), 34, 5, 4, 6, 4, 7, 3) // East, East, NorthEast

	w = world(t,
		"...",
		".#.",
		"...")
	findsAll(t, w, s, at(0, 1), at(2, 1), 40, 0, 2, 1, 2, 2, 2, 2, 1) // South ahead of North
	findsAll(t, w, s, at(2, 1), at(0, 1), 40, 2, 2, 1, 2, 0, 2, 0, 1)
	findsAll(t, w, s, at(1, 0), at(1, 2), 40, 2, 0, 2, 1, 2, 2, 1, 2) // East ahead of West
	findsAll(t, w, s, at(1, 2), at(1, 0), 40, 2, 2, 2, 1, 2, 0, 1, 0)
	findsAll(t, w, s, at(0, 0), at(2, 2), 40, 1, 0, 2, 0, 2, 1, 2, 2) // East ahead of South
	findsAll(t, w, s, at(2, 0), at(0, 2), 40, 2, 1, 2, 2, 1, 2, 0, 2) // South ahead of West
	findsAll(t, w, s, at(2, 2), at(0, 0), 40, 1, 2, 0, 2, 0, 1, 0, 0) // West ahead of North
	findsAll(t, w, s, at(0, 2), at(2, 0), 40, 1, 2, 2, 2, 2, 1, 2, 0) // East ahead of North
}

// TestLeastDirectionsOverCorners: directions over a corner among likes, where straight ones don't go on.
func TestLeastDirectionsOverCorners(t *testing.T) {
	w := world(t,
		".....",
		".....",
		"..#..",
		".....",
		".....")
	s := shape(api.Foot, 1)
	findsAll(t, w, s, at(1, 1), at(3, 3), 40, 2, 1, 3, 1, 3, 2, 3, 3)
	findsAll(t, w, s, at(0, 2), at(4, 2), 48, 1, 3, 2, 3, 3, 3, 4, 2) // SouthEast ahead of NorthEast
	findsAll(t, w, s, at(4, 2), at(0, 2), 48, 3, 3, 2, 3, 1, 3, 0, 2) // SouthWest ahead of NorthWest
	findsAll(t, w, s, at(2, 0), at(2, 4), 48, 3, 1, 3, 2, 3, 3, 2, 4) // SouthEast ahead of SouthWest
	findsAll(t, w, s, at(2, 4), at(2, 0), 48, 1, 3, 1, 2, 1, 1, 2, 0) // NorthWest ahead of NorthEast
}

func TestCornersAreNotCut(t *testing.T) {
	s := shape(api.Foot, 1)
	findsAll(t, world(t, "..", "#."), s, at(0, 0), at(1, 1), 20, 1, 0, 1, 1)
	findsAll(t, world(t, ".#", ".."), s, at(0, 0), at(1, 1), 20, 0, 1, 1, 1)
	findsAll(t, world(t, "..", ".#"), s, at(1, 0), at(0, 1), 20, 0, 0, 0, 1)
	findsAll(t, world(t, "#.", ".."), s, at(1, 0), at(0, 1), 20, 1, 1, 0, 1)
	findsAll(t, world(t, "..", ".."), s, at(1, 0), at(0, 1), 14, 0, 1)
	// A building is a corner, too, and so is one of a greater footprint.
	w := open(t, 4, 4, api.Plain)
	place(t, w, 1, rect(0, 3, 1, 1))
	findsAll(t, w, shape(api.Foot, 2), at(0, 0), at(1, 2), 24, 1, 1, 1, 2)
	findsAll(t, w, shape(api.Foot, 2), at(0, 1), at(1, 2), 20, 1, 1, 1, 2)
	raze(t, w, 1)
	findsAll(t, w, shape(api.Foot, 2), at(0, 1), at(1, 2), 14, 1, 2)
}

// TestFootprintsLeaveIn: only cells must lie in the rectangle; footprints need not, but must in the world.
func TestFootprintsLeaveIn(t *testing.T) {
	w := open(t, 6, 6, api.Plain)
	finds(t, w, shape(api.Foot, 4), at(1, 1), at(2, 2), rect(1, 1, 2, 2), 4, api.Way{Outcome: api.RouteFound, Cells: cells(2, 2)}, 14)
	finds(t, w, shape(api.Foot, 4), at(2, 2), at(2, 2), rect(2, 2, 1, 1), 1, api.Way{Outcome: api.RouteFound}, 0)
	findsNone(t, w, shape(api.Foot, 4), at(2, 2), at(3, 2), w.All(), 36)
	place(t, w, 1, rect(5, 5, 1, 1))
	findsNone(t, w, shape(api.Foot, 4), at(1, 1), at(2, 2), rect(1, 1, 2, 2), 4)
	if l := costs(t, w, shape(api.Foot, 4), at(1, 1), rect(1, 1, 2, 2)); !slices.Equal(l, []int{0, 10, 10, -1}) {
		t.Errorf("Costs = %v", l)
	}
}

// mayBe tells whether an answer by a budget may be, if the whole one is that.
func mayBe(got api.Way, cost int, whole api.Way, sum int, budget, many int) bool {
	if got.Outcome == api.RouteBudget {
		return budget < many && len(got.Cells) == 0 && cost == 0
	}
	return got.Outcome == whole.Outcome && slices.Equal(got.Cells, whole.Cells) && cost == sum
}

// TestBudgets: of all numbers about the cells', in worlds where ways are long, short, or none.
func TestBudgets(t *testing.T) {
	foot := shape(api.Foot, 1)
	for _, rows := range [][]string{{"........"}, {"...", "...", "..."}, {"...#.", ".#.#.", ".#.#.", ".#..."}, {"..#.", "..#.", "..#."}, {"."}, {"..~", "~.w"}} {
		w := world(t, rows...)
		many := w.All().W * w.All().H
		for from := range cell.Cells(w.All()) {
			for to := range cell.Cells(w.All()) {
				whole, sum := plain(w.Map(), foot).find(from, to, w.All())
				for _, budget := range []int{math.MinInt, math.MinInt + 1, -1 << 32, -many, -1, 0, 1, 2, 3, many / 2, many - 2, many - 1, many, many + 1, 2 * many, 1 << 32, math.MaxInt - 1, math.MaxInt} {
					for _, in := range []api.Rect{w.All(), rect(-2, -3, 20, 20), rect(-far/2, -far/2, far, far)} {
						got, cost := route.Find(w, foot, from, to, in, budget)
						if !mayBe(got, cost, whole, sum, budget, many) {
							t.Fatalf("Find from %v to %v of %q by %d of %d = %v, %d, want %v, %d", from, to, rows, budget, many, got, cost, whole, sum)
						}
					}
				}
			}
		}
	}
}

// TestBudgetIsKept: the chapter leaves open how far is looked; here it is from as many cells as the budget, those of the ways of least Cost among them.
func TestBudgetIsKept(t *testing.T) {
	w := open(t, 128, 128, api.Plain)
	s := shape(api.Foot, 1)
	spent := api.Way{Outcome: api.RouteBudget}
	for _, budget := range []int{math.MinInt, -1, 0, 1, 2, 127} {
		finds(t, w, s, at(0, 0), at(127, 127), w.All(), budget, spent, 0)
	}
	for _, budget := range []int{128, 129, 128 * 128} {
		x, cost := route.Find(w, s, at(0, 0), at(127, 127), w.All(), budget)
		if x.Outcome != api.RouteFound || cost != 127*14 || len(x.Cells) != 127 {
			t.Errorf("Find by %d = %v, %d", budget, x, cost)
		}
	}
	// All ways of one cost must be known, or the way is not: here 2 times 2 cells are on one.
	finds(t, w, s, at(0, 0), at(2, 1), w.All(), 3, spent, 0)
	finds(t, w, s, at(0, 0), at(2, 1), w.All(), 4, api.Way{Outcome: api.RouteFound, Cells: cells(1, 0, 2, 1)}, 24)
	// What can be told without looking is told by any budget.
	findsNone(t, w, s, at(0, 0), at(128, 0), w.All(), -1)
	findsNone(t, w, shape(api.Boat, 1), at(0, 0), at(1, 0), w.All(), 0)
}

// TestBudgetOfAsMany: cells that are found anew by a cheaper way count once, where all must be looked at: the last cell is walled in.
func TestBudgetOfAsMany(t *testing.T) {
	foot := shape(api.Foot, 1)
	w := world(t,
		"........",
		"......#.",
		"..#.....",
		".#......",
		"........",
		"........",
		".......#",
		"......#.")
	for c := range cell.Cells(w.All()) {
		if c != at(7, 7) {
			findsNone(t, w, foot, at(7, 7), c, w.All(), 64)
			findsNone(t, w, foot, c, at(7, 7), w.All(), 64)
		}
	}
	d := dice(10)
	for range 4000 {
		m := masked(5+d.to(7), 5+d.to(7), 0)
		for range d.to(len(m.Tiles) / 8) {
			m.Tiles[d.to(len(m.Tiles))] = api.Rock
		}
		last := len(m.Tiles) - 1
		m.Tiles[last-1], m.Tiles[last-m.W], m.Tiles[last] = api.Rock, api.Rock, api.Plain
		w := made(t, m)
		findsNone(t, w, foot, at(m.W-1, m.H-1), d.cell(made(t, masked(m.W-1, m.H-1, 0))), w.All(), len(m.Tiles))
	}
}

// TestBudgetsWithin: just the cells of the rectangle that are the world's count.
func TestBudgetsWithin(t *testing.T) {
	d := dice(3)
	for range 2000 {
		w := d.world(t)
		s := shape(d.to(4), 1+d.to(2))
		in := d.rect(w)
		inside, _ := cell.Meet(in, w.All())
		many := inside.W * inside.H
		from, to := d.cell(w), d.cell(w)
		whole, sum := plain(w.Map(), s).find(from, to, in)
		for _, budget := range []int{many, many + 1, many - 1, d.to(many + 1)} {
			got, cost := route.Find(w, s, from, to, in, budget)
			if !mayBe(got, cost, whole, sum, budget, many) {
				t.Fatalf("Find of %v from %v to %v in %v by %d of %d = %v, %d, want %v, %d", s, from, to, in, budget, many, got, cost, whole, sum)
			}
		}
	}
}

// R3, R4: what is handed in stays, and an answer is nobody else's.

func TestAnswersAreNew(t *testing.T) {
	w := world(t, "....", ".##.", "....")
	place(t, w, 1, rect(3, 1, 1, 1))
	was, epoch := w.Map(), w.Epoch()
	s := shape(api.Foot, 1)
	first, _ := route.Find(w, s, at(3, 0), at(3, 2), w.All(), 12)
	want := slices.Clone(first.Cells)
	room := first.Cells[:cap(first.Cells)]
	for i := range room {
		room[i] = at(-7, -7)
	}
	again, cost := route.Find(w, s, at(3, 0), at(3, 2), w.All(), 12)
	if again.Outcome != api.RouteFound || cost != 80 || !slices.Equal(again.Cells, want) {
		t.Errorf("Find once more = %v, %d, want %v", again, cost, want)
	}
	sums := costs(t, w, s, at(0, 0), w.All())
	wantSums := slices.Clone(sums)
	sumRoom := sums[:cap(sums)]
	for i := range sumRoom {
		sumRoom[i] = -7
	}
	if got := costs(t, w, s, at(0, 0), w.All()); !slices.Equal(got, wantSums) {
		t.Errorf("Costs once more = %v, want %v", got, wantSums)
	}
	now := w.Map()
	if w.Epoch() != epoch || !slices.Equal(now.Tiles, was.Tiles) || !slices.Equal(now.Built, was.Built) {
		t.Errorf("the world was turned: %v", now)
	}
}

// TestLikeWorlds: a copy, and a world of the map, have the same ways, whatever edits made them.
func TestLikeWorlds(t *testing.T) {
	d := dice(4)
	for range 300 {
		w := d.world(t)
		s := shape(d.to(4), 1+d.to(2))
		from, to := d.cell(w), d.cell(w)
		way, cost := route.Find(w, s, from, to, w.All(), 1<<14)
		sums := costs(t, w, s, from, w.All())
		for _, like := range []*grid.World{w, w.Copy(), made(t, w.Map())} {
			finds(t, like, s, from, to, w.All(), 1<<14, way, cost)
			if got := costs(t, like, s, from, w.All()); !slices.Equal(got, sums) {
				t.Fatalf("Costs of a like world = %v, want %v", got, sums)
			}
		}
	}
}
