package settle_test

import (
	"math"
	"slices"
	"testing"

	"phalanx/api"
	"phalanx/grid"
	"phalanx/parts"
	"phalanx/settle"
)

const far = api.Far

// beyond are numbers of no cell that is near.
var beyond = []int{
	math.MinInt, math.MinInt + 1, math.MinInt + far, math.MinInt32 - 1, math.MinInt32, -far - 128, -far - 2, -far - 1,
	far + 1, far + 2, far + 128, math.MaxInt32, math.MaxInt32 + 1, 1 << 32, 1<<32 + 1, math.MaxInt - far, math.MaxInt - 1, math.MaxInt,
}

func at(x, y int) api.Cell { return api.Cell{X: x, Y: y} }

func rect(x, y, w, h int) api.Rect { return api.Rect{At: at(x, y), W: w, H: h} }

func shape(class, size int) api.Shape { return api.Shape{Class: class, Size: size} }

// foot1 is the smallest unit on foot.
var foot1 = shape(api.Foot, 1)

// rects are rectangles, by four numbers each.
func rects(numbers ...int) []api.Rect {
	var l []api.Rect
	for n := range slices.Chunk(numbers, 4) {
		l = append(l, rect(n[0], n[1], n[2], n[3]))
	}
	return l
}

// shapes are all that may be.
func shapes() []api.Shape {
	var l []api.Shape
	for class := range api.Classes {
		for size := 1; size <= api.MaxSize; size++ {
			l = append(l, shape(class, size))
		}
	}
	return l
}

// noShapes are shapes that may not be.
func noShapes() []api.Shape {
	var l []api.Shape
	for _, n := range append([]int{-256, -4, -1, 4, 5, 256}, beyond...) {
		l = append(l, shape(n, 1), shape(n, 4))
	}
	for _, n := range append([]int{-256, -4, -1, 0, 5, 256, 257}, beyond...) {
		l = append(l, shape(api.Foot, n), shape(api.Hover, n))
	}
	return append(l, shape(-1, 0), shape(4, 5), shape(math.MinInt, math.MaxInt), shape(math.MaxInt, math.MinInt))
}

// noRects are rectangles that may not be, about a world's cells and far from them.
func noRects() []api.Rect {
	l := rects(0, 0, 0, 0, 0, 0, 0, 1, 0, 0, 1, 0, 0, 0, -1, 1, 0, 0, 1, -1, 4, 4, -4, -4, 9, 9, -9, -9,
		0, 0, far+1, 1, 0, 0, 1, far+1, 1, 0, far+1, 1, 0, 1, 1, far+1, 2, 0, far, 1, 0, 2, 1, far,
		-far-1, 0, far, 9, 0, -far-1, 9, far, -far-1, 0, far+9, 9, 0, -far-1, 9, far+9, far, 0, 2, 1, 0, far, 1, 2)
	for _, n := range beyond {
		l = append(l, rect(n, 0, 9, 9), rect(0, n, 9, 9), rect(n, n, 9, 9), rect(0, 0, n, 9), rect(0, 0, 9, n), rect(0, 0, n, n),
			rect(n, 0, n, 9), rect(0, n, 9, n), rect(n, n, n, n), rect(-1, -1, n, n), rect(1, 1, n, n))
	}
	return append(l, rect(math.MinInt, math.MinInt, math.MaxInt, math.MaxInt), rect(math.MaxInt, math.MaxInt, math.MinInt, math.MinInt))
}

// tiles is a map of rows: . Plain, w Wood, ~ Water, # Rock.
func tiles(rows ...string) api.Map {
	m := api.Map{W: len(rows[0]), H: len(rows)}
	terrains := map[rune]byte{'.': api.Plain, 'w': api.Wood, '~': api.Water, '#': api.Rock}
	for _, row := range rows {
		for _, r := range row {
			m.Tiles = append(m.Tiles, terrains[r])
		}
	}
	return m
}

func made(t *testing.T, m api.Map) *grid.World {
	t.Helper()
	w, code := grid.New(m)
	if code != api.OK {
		t.Fatalf("New: error %d", code)
	}
	return w
}

// land is a world, a shape, and the shape's parts of the world as it is.
type land struct {
	w *grid.World
	p *parts.Parts
	s api.Shape
}

// landOf is that of a world and a shape.
func landOf(t *testing.T, w *grid.World, s api.Shape) land {
	t.Helper()
	p, code := parts.New(w, s)
	if code != api.OK {
		t.Fatalf("parts of %v: error %d", s, code)
	}
	return land{w, p, s}
}

// world is that of rows, for a shape.
func world(t *testing.T, s api.Shape, rows ...string) land {
	t.Helper()
	return landOf(t, made(t, tiles(rows...)), s)
}

// open is that of one terrain.
func open(t *testing.T, s api.Shape, width, height int, terrain byte) land {
	t.Helper()
	return landOf(t, made(t, api.Map{W: width, H: height, Tiles: slices.Repeat([]byte{terrain}, width*height)}), s)
}

func (l land) will(from, c api.Cell, taken []api.Rect) bool {
	return settle.Will(l.w, l.p, l.s, from, c, taken)
}

func (l land) nearest(from, want api.Cell, taken []api.Rect) (api.Cell, api.Errno) {
	return settle.Nearest(l.w, l.p, l.s, from, want, taken)
}

// does asks for cells that will do.
func (l land) does(t *testing.T, from api.Cell, taken []api.Rect, those ...api.Cell) {
	t.Helper()
	for _, c := range those {
		if !l.will(from, c, taken) {
			t.Errorf("Will of %v from %v to %v, taken %v: false", l.s, from, c, taken)
		}
	}
}

// fails asks for cells that will not do.
func (l land) fails(t *testing.T, from api.Cell, taken []api.Rect, those ...api.Cell) {
	t.Helper()
	for _, c := range those {
		if l.will(from, c, taken) {
			t.Errorf("Will of %v from %v to %v, taken %v: true", l.s, from, c, taken)
		}
	}
}

// tells asks for the nearest cell, which will do.
func (l land) tells(t *testing.T, from, want api.Cell, taken []api.Rect, c api.Cell) {
	t.Helper()
	if got, code := l.nearest(from, want, taken); code != api.OK || got != c {
		t.Errorf("Nearest of %v from %v to %v, taken %v: %v, error %d; it is %v", l.s, from, want, taken, got, code, c)
	}
	l.does(t, from, taken, c)
}

// refuses asks for an error, with nothing beside it.
func (l land) refuses(t *testing.T, from, want api.Cell, taken []api.Rect, code api.Errno) {
	t.Helper()
	if got, is := l.nearest(from, want, taken); is != code || got != (api.Cell{}) {
		t.Errorf("Nearest of %v from %v to %v, taken %v: %v, error %d; it is error %d", l.s, from, want, taken, got, is, code)
	}
}

func TestExample(t *testing.T) {
	l := open(t, foot1, 5, 1, api.Plain)
	l.tells(t, at(0, 0), at(4, 0), rects(3, 0, 2, 1), at(2, 0))
}

// TestWant asks for cells that are free, and can be come to.
func TestWant(t *testing.T) {
	l := world(t, foot1, "....", ".#..", "....")
	for y := range 3 {
		for x := range 4 {
			if c := at(x, y); c != at(1, 1) {
				l.tells(t, at(3, 2), c, nil, c)
				l.tells(t, c, c, nil, c)
			}
		}
	}
}

// TestOneDistance asks for a cell about which several are as far away.
func TestOneDistance(t *testing.T) {
	l := world(t, foot1, ".....", ".....", "..#..", ".....", ".....")
	want := at(2, 2)
	l.tells(t, at(0, 0), want, nil, at(2, 1))
	l.tells(t, at(4, 4), want, nil, at(2, 1))
	l.tells(t, at(0, 0), want, rects(2, 1, 1, 1), at(1, 2))
	l.tells(t, at(0, 0), want, rects(2, 1, 1, 1, 1, 2, 1, 1), at(3, 2))
	l.tells(t, at(0, 0), want, rects(2, 1, 1, 1, 1, 2, 2, 1), at(3, 2))
	l.tells(t, at(0, 0), want, rects(2, 1, 1, 1, 1, 2, 3, 1), at(2, 3))
	// Those over the corners are farther than those beside it, but nearer than those two steps off.
	l.tells(t, at(0, 0), want, rects(2, 1, 1, 3, 1, 2, 3, 1), at(1, 1))
	l.tells(t, at(0, 0), want, rects(2, 1, 1, 3, 1, 2, 3, 1, 1, 1, 1, 1), at(3, 1))
	l.tells(t, at(0, 0), want, rects(2, 1, 1, 3, 1, 2, 3, 1, 1, 1, 3, 1), at(1, 3))
	l.tells(t, at(0, 0), want, rects(2, 1, 1, 3, 1, 2, 3, 1, 1, 1, 3, 1, 1, 3, 1, 1), at(3, 3))
	l.tells(t, at(0, 0), want, rects(1, 1, 3, 3), at(2, 0))
	l.tells(t, at(0, 0), want, rects(1, 1, 3, 3, 2, 0, 1, 1), at(0, 2))
	l.tells(t, at(0, 0), want, rects(1, 1, 3, 3, 2, 0, 1, 1, 0, 2, 1, 1), at(4, 2))
	l.tells(t, at(0, 0), want, rects(1, 1, 3, 3, 2, 0, 1, 1, 0, 2, 5, 1), at(2, 4))
	l.tells(t, at(0, 0), want, rects(1, 1, 3, 3, 2, 0, 1, 5, 0, 2, 5, 1), at(1, 0))
}

// TestOctile asks between a cell over corners and one straight on: it is what steps cost that counts.
func TestOctile(t *testing.T) {
	l := open(t, foot1, 9, 4, api.Plain)
	only := func(a, b api.Cell) []api.Rect {
		var taken []api.Rect
		for y := range 4 {
			for x := range 9 {
				if c := at(x, y); c != a && c != b {
					taken = append(taken, api.Rect{At: c, W: 1, H: 1})
				}
			}
		}
		return taken
	}
	// Three over corners cost 42, four straight on 40, five 50.
	l.tells(t, at(8, 3), at(0, 0), only(at(4, 0), at(3, 3)), at(4, 0))
	l.tells(t, at(8, 3), at(0, 0), only(at(5, 0), at(3, 3)), at(3, 3))
	// Three over corners and three straight on cost 72.
	l.tells(t, at(8, 3), at(0, 0), only(at(7, 0), at(6, 3)), at(7, 0))
	l.tells(t, at(8, 3), at(0, 0), only(at(8, 0), at(6, 3)), at(6, 3))
	// Two over corners cost 28, and one straight on behind them 38.
	l.tells(t, at(0, 0), at(4, 1), only(at(0, 1), at(1, 3)), at(1, 3))
	l.tells(t, at(0, 0), at(4, 1), only(at(1, 1), at(2, 3)), at(2, 3))
}

// TestOnlyFrom asks where nothing but the cell where it stands will do.
func TestOnlyFrom(t *testing.T) {
	l := world(t, foot1, "....", "....", "....")
	l.tells(t, at(1, 1), at(3, 2), rects(0, 0, 4, 1, 0, 2, 4, 1, 0, 1, 1, 1, 2, 1, 2, 1), at(1, 1))
	alone := world(t, foot1, ".#.", "##.", "...")
	alone.tells(t, at(0, 0), at(2, 2), nil, at(0, 0))
	alone.tells(t, at(0, 0), at(0, 0), nil, at(0, 0))
	alone.refuses(t, at(0, 0), at(0, 0), rects(0, 0, 1, 1), api.ErrNone)
	alone.fails(t, at(0, 0), nil, at(2, 0), at(2, 2), at(0, 2), at(1, 0))
}

// TestFromTaken asks from cells that are taken: that one can't stay there does not hold one there.
func TestFromTaken(t *testing.T) {
	l := world(t, foot1, ".....")
	l.tells(t, at(1, 0), at(1, 0), rects(1, 0, 1, 1), at(0, 0))
	l.tells(t, at(1, 0), at(4, 0), rects(0, 0, 4, 1), at(4, 0))
	l.fails(t, at(1, 0), rects(1, 0, 1, 1), at(1, 0))
	l.does(t, at(1, 0), rects(1, 0, 1, 1), at(0, 0), at(2, 0), at(4, 0))
}

// TestThroughTaken asks for cells behind those that are taken: they are no walls.
func TestThroughTaken(t *testing.T) {
	l := open(t, foot1, 6, 3, api.Plain)
	l.tells(t, at(0, 1), at(5, 1), rects(2, 0, 1, 3), at(5, 1))
	l.tells(t, at(0, 1), at(2, 1), rects(2, 0, 1, 3), at(1, 1))
	l.tells(t, at(0, 1), at(2, 1), rects(0, 0, 3, 3), at(3, 1))
}

// TestNone asks where no cell will do.
func TestNone(t *testing.T) {
	l := world(t, foot1, "..#", ".##", "##~")
	for _, from := range []api.Cell{at(2, 0), at(1, 1), at(2, 2), at(-1, 0), at(0, -1), at(3, 0), at(0, 3), at(3, 3), at(2, 3)} {
		for _, want := range []api.Cell{at(0, 0), at(1, 0), at(2, 2), from, at(-9, 5), at(far, far)} {
			l.refuses(t, from, want, nil, api.ErrNone)
		}
		l.fails(t, from, nil, at(0, 0), at(1, 0), at(0, 1), at(2, 2), from)
	}
	// All is taken, by one and by many.
	for _, want := range []api.Cell{at(0, 0), at(1, 0), at(2, 2)} {
		l.refuses(t, at(0, 0), want, rects(0, 0, 3, 3), api.ErrNone)
		l.refuses(t, at(0, 0), want, rects(0, 0, 2, 2), api.ErrNone)
		l.refuses(t, at(0, 0), want, rects(0, 0, 1, 1, 1, 0, 1, 1, 0, 1, 1, 1), api.ErrNone)
		l.refuses(t, at(0, 0), want, rects(-far, -far, far, far, 0, 0, far, far), api.ErrNone)
	}
	rock := world(t, foot1, "##", "~#")
	rock.refuses(t, at(0, 0), at(0, 0), nil, api.ErrNone)
	rock.refuses(t, at(0, 1), at(0, 1), nil, api.ErrNone)
}

// TestBesideTheMap asks for cells that are none of the world.
func TestBesideTheMap(t *testing.T) {
	l := open(t, foot1, 5, 3, api.Plain)
	for _, k := range []struct{ want, c api.Cell }{
		{at(-1, -1), at(0, 0)}, {at(5, -1), at(4, 0)}, {at(-1, 3), at(0, 2)}, {at(5, 3), at(4, 2)},
		{at(2, -1), at(2, 0)}, {at(2, 3), at(2, 2)}, {at(-1, 1), at(0, 1)}, {at(5, 1), at(4, 1)},
		{at(-50, 1), at(0, 1)}, {at(50, 1), at(4, 1)}, {at(2, -50), at(2, 0)}, {at(2, 50), at(2, 2)},
		{at(far, far), at(4, 2)}, {at(-far, -far), at(0, 0)}, {at(far, -far), at(4, 0)}, {at(-far, far), at(0, 2)},
		{at(far, 1), at(4, 1)}, {at(-far, 1), at(0, 1)}, {at(2, far), at(2, 2)}, {at(2, -far), at(2, 0)},
		{at(far, 0), at(4, 0)}, {at(-far, 2), at(0, 2)}, {at(0, far), at(0, 2)}, {at(4, -far), at(4, 0)},
	} {
		l.tells(t, at(1, 2), k.want, nil, k.c)
		l.fails(t, at(1, 2), nil, k.want)
	}
	// From afar, too, it is the cost that counts, and where it is the same the first one row by row.
	l.tells(t, at(1, 2), at(far, far), rects(4, 2, 1, 1), at(3, 2))
	l.tells(t, at(1, 2), at(far, far-2), rects(4, 2, 1, 1), at(4, 1))
	l.tells(t, at(1, 2), at(far, far-4), rects(4, 2, 1, 1), at(4, 1))
}

// TestNotNear asks for cells that are not near, and for those at the ends of what is.
func TestNotNear(t *testing.T) {
	l := open(t, foot1, 3, 3, api.Plain)
	for _, n := range beyond {
		for _, want := range []api.Cell{at(n, 0), at(0, n), at(n, n), at(n, far), at(-far, n), at(n, 2), at(2, n)} {
			l.refuses(t, at(0, 0), want, nil, api.ErrArg)
			l.refuses(t, want, want, nil, api.ErrArg)
			// The first error is told, where no cell would do, either.
			l.refuses(t, at(3, 3), want, nil, api.ErrArg)
			l.refuses(t, at(0, 0), want, rects(0, 0, 3, 3), api.ErrArg)
			l.fails(t, at(0, 0), nil, want)
			l.fails(t, want, nil, want, at(0, 0))
			l.refuses(t, want, at(0, 0), nil, api.ErrNone)
		}
	}
}

// TestNoShape asks for shapes that may not be, with parts of one that may.
func TestNoShape(t *testing.T) {
	l := open(t, foot1, 3, 3, api.Plain)
	for _, s := range noShapes() {
		no := land{l.w, l.p, s}
		for _, from := range []api.Cell{at(0, 0), at(2, 2), at(3, 3), at(-1, 0), at(math.MinInt, math.MaxInt)} {
			for _, want := range []api.Cell{at(0, 0), at(2, 2), at(5, 5), at(far, -far), at(far+1, 0), at(0, math.MinInt)} {
				no.refuses(t, from, want, nil, api.ErrArg)
				no.refuses(t, from, want, rects(0, 0, 3, 3), api.ErrArg)
				no.fails(t, from, nil, want)
				no.fails(t, from, rects(0, 0, 3, 3), want)
			}
		}
	}
}

// TestFrom asks from cells within the world, and beyond it.
func TestFrom(t *testing.T) {
	l := open(t, foot1, 4, 3, api.Plain)
	for _, from := range []api.Cell{at(0, 0), at(3, 0), at(0, 2), at(3, 2)} {
		l.tells(t, from, at(1, 1), nil, at(1, 1))
		l.tells(t, from, at(3, 2), nil, at(3, 2))
	}
	for _, n := range append([]int{-far, -far + 1, -128, -2, -1, 4, 5, 127, 128, 1 << 16, far - 1, far}, beyond...) {
		for _, from := range []api.Cell{at(n, 0), at(0, n), at(n, n), at(n, 2), at(3, n)} {
			l.refuses(t, from, at(1, 1), nil, api.ErrNone)
			l.fails(t, from, nil, at(1, 1), at(0, 0), from)
			l.fails(t, at(0, 0), nil, from)
		}
	}
	l.refuses(t, at(0, 3), at(0, 0), nil, api.ErrNone)
}

// TestParts asks where the wanted cell is nearer, but can't be come to.
func TestParts(t *testing.T) {
	l := world(t, foot1,
		"...#...",
		"...#...",
		"...#...")
	l.tells(t, at(0, 0), at(6, 1), nil, at(2, 1))
	l.tells(t, at(6, 0), at(0, 1), nil, at(4, 1))
	l.tells(t, at(0, 0), at(3, 1), nil, at(2, 1))
	l.tells(t, at(6, 0), at(3, 1), nil, at(4, 1))
	l.fails(t, at(0, 0), nil, at(4, 0), at(6, 2), at(3, 1))
	l.fails(t, at(6, 0), nil, at(0, 0), at(2, 2), at(3, 1))
	l.does(t, at(0, 0), nil, at(0, 0), at(2, 2))
	l.does(t, at(6, 0), nil, at(4, 0), at(6, 2))
	// Over a corner alone nobody comes.
	corner := world(t, foot1, ".#", "#.")
	corner.tells(t, at(0, 0), at(1, 1), nil, at(0, 0))
	corner.tells(t, at(1, 1), at(0, 0), nil, at(1, 1))
	// The cell itself is far from where one comes: round the wall.
	round := world(t, foot1, "..#..", "..#..", ".....")
	round.tells(t, at(0, 0), at(3, 0), nil, at(3, 0))
	round.tells(t, at(0, 0), at(2, 0), nil, at(1, 0))
}

// TestFootprints asks for shapes of more tiles: all of them must have room.
func TestFootprints(t *testing.T) {
	l := world(t, shape(api.Foot, 2),
		".....#",
		".....#",
		"...##.",
		"......")
	l.tells(t, at(0, 0), at(5, 0), nil, at(3, 0))
	l.tells(t, at(0, 0), at(4, 0), nil, at(3, 0))
	l.tells(t, at(0, 0), at(3, 1), nil, at(3, 0))
	l.tells(t, at(0, 0), at(2, 1), nil, at(2, 0))
	l.tells(t, at(0, 0), at(2, 2), nil, at(1, 2))
	l.tells(t, at(0, 0), at(4, 2), nil, at(3, 0))
	l.tells(t, at(0, 0), at(0, 3), nil, at(0, 2))
	l.tells(t, at(0, 0), at(5, 3), nil, at(3, 0))
	l.fails(t, at(0, 0), nil, at(4, 0), at(3, 1), at(2, 2), at(0, 3), at(5, 3), at(4, 2))
	// By a passage that is too small for it, it comes nowhere.
	narrow := []string{"..#..", "..#..", "....."}
	world(t, shape(api.Foot, 1), narrow...).tells(t, at(0, 0), at(4, 0), nil, at(4, 0))
	world(t, shape(api.Foot, 2), narrow...).tells(t, at(0, 0), at(4, 0), nil, at(0, 0))
	world(t, shape(api.Foot, 2), narrow...).tells(t, at(0, 1), at(3, 0), nil, at(0, 0))
	world(t, shape(api.Foot, 3), narrow...).refuses(t, at(0, 0), at(0, 0), nil, api.ErrNone)
}

// TestTaken asks for footprints that a rectangle meets, and those that it only touches.
func TestTaken(t *testing.T) {
	for size := 1; size <= api.MaxSize; size++ {
		l := open(t, shape(api.Foot, size), 12, 12, api.Plain)
		from, c := at(0, 0), at(4, 4)
		last := 4 + size - 1
		for _, r := range rects(4, 4, 1, 1, last, 4, 1, 1, 4, last, 1, 1, last, last, 1, 1,
			0, 0, 5, 5, last, 0, 9, 5, 0, last, 5, 9, last, last, 9, 9, 4, 4, size, size, 0, 0, 12, 12, 3, 3, size+2, size+2,
			5-far, 4, far, 1, last, 5-far, 1, far, -9, last, 30, 1) {
			l.fails(t, from, []api.Rect{r}, c)
			if got, code := l.nearest(from, c, []api.Rect{r}); got == c {
				t.Errorf("size %d, taken %v: Nearest is %v, error %d", size, r, got, code)
			}
		}
		for _, r := range rects(3, 3, 1, 1, last+1, 3, 1, 1, 3, last+1, 1, 1, last+1, last+1, 1, 1,
			0, 4, 4, size, last+1, 4, 9, size, 4, 0, size, 4, 4, last+1, size, 9,
			0, 0, 4, 12, last+1, 0, 9, 12, 0, 0, 12, 4, 0, last+1, 12, 9, -far, -far, far, far, 3, 3, size+2, 1, 3, 3, 1, size+2) {
			l.tells(t, from, c, []api.Rect{r}, c)
		}
	}
}

// TestEveryCell asks for a footprint with each cell of the world taken, one at a time.
func TestEveryCell(t *testing.T) {
	for size := 1; size <= api.MaxSize; size++ {
		l := open(t, shape(api.Foot, size), 9, 9, api.Plain)
		for y := -1; y <= 9; y++ {
			for x := -1; x <= 9; x++ {
				taken := rects(x, y, 1, 1)
				if 3 <= x && x < 3+size && 2 <= y && y < 2+size {
					l.fails(t, at(0, 0), taken, at(3, 2))
				} else {
					l.tells(t, at(0, 0), at(3, 2), taken, at(3, 2))
				}
			}
		}
	}
}

// TestManyTaken asks with many rectangles, some of which have the same cells.
func TestManyTaken(t *testing.T) {
	l := open(t, foot1, 6, 4, api.Plain)
	taken := rects(0, 0, 6, 2, 1, 1, 4, 2, 0, 0, 3, 3, 3, 0, 3, 3, 0, 0, 6, 2, 5, 3, 1, 1)
	l.tells(t, at(0, 0), at(3, 1), taken, at(3, 3))
	l.tells(t, at(0, 0), at(5, 0), taken, at(4, 3))
	// Whichever of the rectangles it is that has a cell, it is taken.
	for i := range 9 {
		taken := slices.Repeat(rects(0, 0, 1, 1), 9)
		taken[i] = rect(2, 2, 1, 1)
		l.tells(t, at(1, 1), at(2, 2), taken, at(2, 1))
		l.fails(t, at(1, 1), taken, at(2, 2), at(0, 0))
		l.does(t, at(1, 1), taken, at(1, 1), at(2, 1), at(5, 3))
	}
	// All cells one by one but the last one.
	var most []api.Rect
	for i := range 23 {
		most = append(most, rect(i%6, i/6, 1, 1))
	}
	l.tells(t, at(0, 0), at(0, 0), most, at(5, 3))
	l.refuses(t, at(0, 0), at(0, 0), append(most, rect(5, 3, 1, 1)), api.ErrNone)
}

// TestNothingTaken asks with no rectangles, and with such as have no cell of the world.
func TestNothingTaken(t *testing.T) {
	l := open(t, foot1, 4, 4, api.Plain)
	for _, taken := range [][]api.Rect{
		nil, {}, make([]api.Rect, 0, 9), make([]api.Rect, 9),
		rects(-1, 0, 1, 4), rects(0, -1, 4, 1), rects(4, 0, 1, 4), rects(0, 4, 4, 1), rects(4, 4, 9, 9, -9, -9, 9, 9),
		rects(-far, -far, far, 2*far), rects(4, -9, far-9, far), rects(far, far, 1, 1, -far, -far, 1, 1),
	} {
		for y := range 4 {
			for x := range 4 {
				l.tells(t, at(0, 0), at(x, y), taken, at(x, y))
			}
		}
	}
}

// TestNoRects asks with rectangles that may not be: they take nothing, alone and beside one that may.
func TestNoRects(t *testing.T) {
	for size, free := range map[int]api.Cell{1: at(1, 0), 3: at(2, 1)} {
		l := open(t, shape(api.Hover, size), 7, 7, api.Water)
		for _, r := range noRects() {
			l.tells(t, at(0, 0), at(0, 0), []api.Rect{r}, at(0, 0))
			l.tells(t, at(0, 0), at(4, 4), []api.Rect{r}, at(4, 4))
			l.tells(t, at(0, 0), at(1, 1), []api.Rect{r, rect(1, 1, 1, 1)}, free)
			l.tells(t, at(0, 0), at(1, 1), []api.Rect{rect(1, 1, 1, 1), r}, free)
		}
		l.tells(t, at(0, 0), at(2, 2), noRects(), at(2, 2))
	}
}

// TestLines asks in worlds that are one cell wide or high.
func TestLines(t *testing.T) {
	for _, n := range []int{2, 3, 7, 64, 128} {
		wide, high := open(t, foot1, n, 1, api.Plain), open(t, foot1, 1, n, api.Plain)
		for i := range n {
			wide.tells(t, at(0, 0), at(i, 0), nil, at(i, 0))
			high.tells(t, at(0, 0), at(0, i), nil, at(0, i))
		}
		wide.tells(t, at(0, 0), at(n, 0), nil, at(n-1, 0))
		wide.tells(t, at(0, 0), at(n-1, 5), nil, at(n-1, 0))
		wide.tells(t, at(0, 0), at(n-1, 0), rects(1, 0, n-1, 1), at(0, 0))
		wide.tells(t, at(n-1, 0), at(0, 0), rects(0, 0, n-1, 1), at(n-1, 0))
		wide.refuses(t, at(0, 0), at(0, 0), rects(0, 0, n, 1), api.ErrNone)
		high.tells(t, at(0, 0), at(0, n), nil, at(0, n-1))
		high.tells(t, at(0, 0), at(-3, n-1), nil, at(0, n-1))
		high.tells(t, at(0, 0), at(0, n-1), rects(0, 1, 1, n-1), at(0, 0))
		high.tells(t, at(0, n-1), at(0, 0), rects(0, 0, 1, n-1), at(0, n-1))
		high.refuses(t, at(0, 0), at(0, 0), rects(0, 0, 1, n), api.ErrNone)
		for _, l := range []land{wide, high} {
			two := landOf(t, l.w, shape(api.Foot, 2))
			two.refuses(t, at(0, 0), at(0, 0), nil, api.ErrNone)
			two.fails(t, at(0, 0), nil, at(0, 0))
		}
	}
	wide := world(t, foot1, "..#.#...")
	wide.tells(t, at(0, 0), at(7, 0), nil, at(1, 0))
	wide.tells(t, at(3, 0), at(7, 0), nil, at(3, 0))
	wide.tells(t, at(7, 0), at(0, 0), nil, at(5, 0))
	// As far away on both sides: the first one.
	open(t, foot1, 9, 1, api.Plain).tells(t, at(8, 0), at(4, 0), rects(3, 0, 3, 1), at(2, 0))
	open(t, foot1, 1, 9, api.Plain).tells(t, at(0, 8), at(0, 4), rects(0, 3, 1, 3), at(0, 2))
}

// TestOneCell asks in a world of one cell.
func TestOneCell(t *testing.T) {
	l := open(t, foot1, 1, 1, api.Plain)
	for _, want := range []api.Cell{at(0, 0), at(1, 0), at(0, -1), at(-7, 9), at(far, far), at(-far, far)} {
		l.tells(t, at(0, 0), want, nil, at(0, 0))
		l.tells(t, at(0, 0), want, rects(1, 0, 1, 1, -1, 0, 1, 1, 0, 1, 1, 1, 0, -1, 1, 1), at(0, 0))
		l.refuses(t, at(0, 0), want, rects(0, 0, 1, 1), api.ErrNone)
		l.refuses(t, at(1, 0), want, nil, api.ErrNone)
		l.refuses(t, at(0, -1), want, nil, api.ErrNone)
	}
	open(t, foot1, 1, 1, api.Rock).refuses(t, at(0, 0), at(0, 0), nil, api.ErrNone)
	open(t, shape(api.Boat, 1), 1, 1, api.Water).tells(t, at(0, 0), at(0, 0), nil, at(0, 0))
	open(t, shape(api.Foot, 2), 1, 1, api.Plain).refuses(t, at(0, 0), at(0, 0), nil, api.ErrNone)
}

// TestGreatest asks in worlds as great as there are.
func TestGreatest(t *testing.T) {
	for size := 1; size <= api.MaxSize; size++ {
		l := open(t, shape(api.Wheel, size), 128, 128, api.Plain)
		end := 128 - size
		for _, k := range []struct{ want, c api.Cell }{
			{at(0, 0), at(0, 0)}, {at(127, 0), at(end, 0)}, {at(0, 127), at(0, end)}, {at(127, 127), at(end, end)},
			{at(64, 64), at(64, 64)}, {at(-1, -1), at(0, 0)}, {at(128, 128), at(end, end)}, {at(128, -1), at(end, 0)},
			{at(far, -far), at(end, 0)}, {at(-far, far), at(0, end)}, {at(far, 64), at(end, 64)},
		} {
			l.tells(t, at(0, 0), k.want, nil, k.c)
			l.tells(t, at(end, end), k.want, nil, k.c)
		}
		l.refuses(t, at(end+1, 0), at(0, 0), nil, api.ErrNone)
		l.refuses(t, at(0, end+1), at(0, 0), nil, api.ErrNone)
		l.tells(t, at(0, 0), at(127, 127), rects(size, 0, 128, 128, 0, size, 128, 128), at(0, 0))
		l.tells(t, at(0, 0), at(0, 0), rects(0, 0, 128, 128-size, 0, 0, 128-size, 128), at(end, end))
		l.refuses(t, at(0, 0), at(64, 64), rects(0, 0, 128, 128), api.ErrNone)
	}
}

// TestEveryShape asks for all shapes, in a world with a square of each terrain.
func TestEveryShape(t *testing.T) {
	w := made(t, tiles(
		"......wwwwww",
		"......wwwwww",
		"......wwwwww",
		"......wwwwww",
		"~~~~~~######",
		"~~~~~~######",
		"~~~~~~######",
		"~~~~~~######"))
	// Where one of Size 1 comes from the first cell of a terrain, sent to the last one of the world.
	ends := map[int]map[api.Cell]api.Cell{
		api.Foot:  {at(0, 0): at(11, 3), at(6, 0): at(11, 3)},
		api.Wheel: {at(0, 0): at(5, 3)},
		api.Boat:  {at(0, 4): at(5, 7)},
		api.Hover: {at(0, 0): at(5, 7), at(0, 4): at(5, 7)},
	}
	for _, s := range shapes() {
		l := landOf(t, w, s)
		for _, from := range []api.Cell{at(0, 0), at(6, 0), at(0, 4), at(6, 4)} {
			end, ok := ends[s.Class][from]
			if !ok {
				l.refuses(t, from, at(11, 7), nil, api.ErrNone)
				l.fails(t, from, nil, from)
				continue
			}
			l.tells(t, from, from, nil, from)
			l.tells(t, from, at(11, 7), nil, at(end.X-s.Size+1, end.Y-s.Size+1))
		}
	}
}

// TestEdits asks behind edits of the world, with parts made anew and with parts that went on.
func TestEdits(t *testing.T) {
	w := made(t, tiles(".....", ".....", "....."))
	old := landOf(t, w, foot1)
	holds := func(want, c api.Cell) {
		t.Helper()
		if _, code := old.p.Update(); code != api.OK {
			t.Fatalf("Update: error %d", code)
		}
		old.tells(t, at(0, 0), want, nil, c)
		landOf(t, w, foot1).tells(t, at(0, 0), want, nil, c)
	}
	holds(at(4, 1), at(4, 1))
	if code := w.Place(api.Building{Id: 1, Foot: rect(4, 1, 1, 1)}); code != api.OK {
		t.Fatalf("Place: error %d", code)
	}
	holds(at(4, 1), at(4, 0))
	if code := w.Place(api.Building{Id: 2, Foot: rect(2, 0, 1, 3)}); code != api.OK {
		t.Fatalf("Place: error %d", code)
	}
	holds(at(4, 1), at(1, 1))
	holds(at(2, 2), at(1, 2))
	landOf(t, w, foot1).refuses(t, at(2, 1), at(0, 0), nil, api.ErrNone)
	landOf(t, w, shape(api.Foot, 2)).tells(t, at(0, 0), at(4, 1), nil, at(0, 1))
	if _, code := w.Raze(2); code != api.OK {
		t.Fatalf("Raze: error %d", code)
	}
	holds(at(4, 1), at(4, 0))
	holds(at(2, 2), at(2, 2))
	if _, code := w.Raze(1); code != api.OK {
		t.Fatalf("Raze: error %d", code)
	}
	holds(at(4, 1), at(4, 1))
}

// ends asks everything of worlds and parts of which nothing is promised but that calls end: beside an error there is nothing.
func ends(t *testing.T, l land) {
	t.Helper()
	lists := [][]api.Rect{nil, rects(0, 0, 3, 3), rects(-9, -9, 300, 300), noRects()}
	for _, from := range []api.Cell{at(0, 0), at(1, 1), at(5, 2), at(-1, 0), at(128, 128), at(far, -far), at(math.MinInt, math.MaxInt)} {
		for _, want := range []api.Cell{at(0, 0), at(2, 1), at(7, 7), at(-1, -1), at(far, far), at(far+1, 0), at(math.MaxInt, math.MinInt)} {
			for _, taken := range lists {
				l.will(from, want, taken)
				if c, code := l.nearest(from, want, taken); code != api.OK && c != (api.Cell{}) {
					t.Errorf("Nearest of %v from %v to %v: %v beside error %d", l.s, from, want, c, code)
				}
			}
		}
	}
}

// TestNotMade asks of worlds and parts that nobody made.
func TestNotMade(t *testing.T) {
	known := open(t, foot1, 4, 4, api.Plain)
	for _, w := range []*grid.World{nil, {}, known.w} {
		for _, p := range []*parts.Parts{nil, {}, known.p} {
			for _, s := range append(shapes(), noShapes()...) {
				ends(t, land{w, p, s})
			}
			if l := (land{w, p, foot1}); p != known.p {
				// Nobody's parts join nothing.
				l.refuses(t, at(0, 0), at(0, 0), nil, api.ErrNone)
				l.fails(t, at(0, 0), nil, at(0, 0))
			}
			// Errors by what is handed in beside come first.
			land{w, p, shape(4, 1)}.refuses(t, at(0, 0), at(0, 0), nil, api.ErrArg)
			land{w, p, foot1}.refuses(t, at(0, 0), at(far+1, 0), nil, api.ErrArg)
		}
	}
}

// TestOthers asks with parts of another shape, of another world, and of a past epoch.
func TestOthers(t *testing.T) {
	small, great := open(t, foot1, 3, 3, api.Plain), open(t, foot1, 128, 128, api.Plain)
	for _, s := range shapes() {
		ends(t, land{small.w, small.p, s})
		ends(t, land{great.w, landOf(t, small.w, s).p, foot1})
		ends(t, land{small.w, landOf(t, great.w, s).p, s})
		ends(t, land{great.w, landOf(t, small.w, s).p, s})
	}
	if code := small.w.Place(api.Building{Id: 1, Foot: rect(0, 0, 2, 3)}); code != api.OK {
		t.Fatalf("Place: error %d", code)
	}
	ends(t, small)
}

// TestHandedIn holds what was handed in, and the room behind it, to what it was.
func TestHandedIn(t *testing.T) {
	w := made(t, tiles("......", "......", "..#...", "......"))
	for _, s := range []api.Shape{foot1, shape(api.Wheel, 2)} {
		l := landOf(t, w, s)
		m := w.Map()
		room := append(rects(3, 0, 2, 2, 0, 0, 0, 0, -9, 0, 9, 9, 5, 1, 1, 1), rects(0, 0, 6, 4, 0, 0, far, far)...)
		was := slices.Clone(room)
		free := l.nearestOf(t, slices.Clone(room[:4:4]))
		// What lies behind the list's end takes nothing.
		if c := l.nearestOf(t, room[:4]); c != free {
			t.Errorf("with room behind the list: %v; without it: %v", c, free)
		}
		l.does(t, at(0, 0), room[:4], at(0, 0))
		l.fails(t, at(0, 0), room[:4], at(3, 0))
		l.does(t, at(0, 0), room[:0], at(3, 0))
		l.tells(t, at(0, 0), at(3, 0), room[:0], at(3, 0))
		l.refuses(t, at(0, 0), at(3, 0), room[:5], api.ErrNone)
		l.refuses(t, at(0, 0), at(far+1, 0), room[:4], api.ErrArg)
		if !slices.Equal(room, was) {
			t.Errorf("taken turned: %v; it was %v", room, was)
		}
		if after := w.Map(); after.W != m.W || after.H != m.H || !slices.Equal(after.Tiles, m.Tiles) || !slices.Equal(after.Built, m.Built) || w.Epoch() != 0 {
			t.Errorf("the world turned")
		}
		if turned, code := l.p.Update(); turned || code != api.OK {
			t.Errorf("the parts turned")
		}
	}
}

// nearestOf is the nearest one to 3, 0, which must be there.
func (l land) nearestOf(t *testing.T, taken []api.Rect) api.Cell {
	t.Helper()
	c, code := l.nearest(at(0, 0), at(3, 0), taken)
	if code != api.OK {
		t.Fatalf("Nearest, taken %v: error %d", taken, code)
	}
	return c
}

// TestNotKept asks again when the list that was handed in is another one.
func TestNotKept(t *testing.T) {
	l := open(t, foot1, 5, 1, api.Plain)
	taken := rects(3, 0, 2, 1)
	l.tells(t, at(0, 0), at(4, 0), taken, at(2, 0))
	taken[0] = rect(4, 0, 1, 1)
	l.tells(t, at(0, 0), at(4, 0), taken, at(3, 0))
	l.tells(t, at(0, 0), at(4, 0), nil, at(4, 0))
	taken[0] = rect(1, 0, 4, 1)
	l.tells(t, at(0, 0), at(4, 0), taken, at(0, 0))
}
