package smooth_test

import (
	"math"
	"slices"
	"testing"

	"phalanx/api"
	"phalanx/cell"
	"phalanx/class"
	"phalanx/grid"
	"phalanx/smooth"
)

const far = api.Far

// ends are numbers about which sums and differences wrap, and the first ones that are not near.
var ends = []int{math.MinInt, math.MinInt + 1, math.MinInt / 2, math.MinInt32 - 1, math.MinInt32, -1 << 29, -far - 2, -far - 1,
	far + 1, far + 2, 1 << 29, math.MaxInt32, 1 << 32, 1<<32 + 1, math.MaxInt / 2, math.MaxInt - 1, math.MaxInt}

func at(x, y int) api.Cell { return api.Cell{X: x, Y: y} }

func rect(x, y, w, h int) api.Rect { return api.Rect{At: at(x, y), W: w, H: h} }

func shape(class, size int) api.Shape { return api.Shape{Class: class, Size: size} }

// foot is the least shape.
var foot = shape(api.Foot, 1)

// shapes are all that may be.
func shapes() []api.Shape {
	var l []api.Shape
	for class := range api.Classes {
		for size := 1; size <= 4; size++ {
			l = append(l, shape(class, size))
		}
	}
	return l
}

// cells is a list of X and Y, one behind the other.
func cells(numbers ...int) []api.Cell {
	var l []api.Cell
	for i := 0; i < len(numbers); i += 2 {
		l = append(l, at(numbers[i], numbers[i+1]))
	}
	return l
}

// leg is steps of one direction.
type leg struct{ dir, n int }

// walk is the cells by which one goes along legs.
func walk(from api.Cell, legs ...leg) []api.Cell {
	var l []api.Cell
	for _, g := range legs {
		for range g.n {
			from = at(from.X+moves[g.dir][0], from.Y+moves[g.dir][1])
			l = append(l, from)
		}
	}
	return l
}

// tiles is a map of rows: . Plain, w Wood, ~ Water, # Rock.
func tiles(rows ...string) api.Map {
	m := api.Map{W: len(rows[0]), H: len(rows)}
	terrains := map[rune]byte{'.': api.Plain, 'w': api.Wood, '~': api.Water, '#': api.Rock}
	for _, row := range rows {
		for _, r := range row {
			m.Tiles = append(m.Tiles, terrains[r])
		}
	}
	return m
}

func made(t *testing.T, m api.Map) *grid.World {
	t.Helper()
	w, code := grid.New(m)
	if code != api.OK {
		t.Fatalf("New: error %d", code)
	}
	return w
}

// world is one of rows.
func world(t *testing.T, rows ...string) *grid.World {
	t.Helper()
	return made(t, tiles(rows...))
}

// open is a world of one terrain.
func open(t *testing.T, width, height int, terrain byte) *grid.World {
	t.Helper()
	return made(t, api.Map{W: width, H: height, Tiles: slices.Repeat([]byte{terrain}, width*height)})
}

func place(t *testing.T, w *grid.World, id int, foot api.Rect) {
	t.Helper()
	if code := w.Place(api.Building{Id: id, Foot: foot}); code != api.OK {
		t.Fatalf("Place %d at %v: error %d", id, foot, code)
	}
}

// becomes asks for a smoothed path, and whether all else that is promised holds, too.
func becomes(t *testing.T, w *grid.World, s api.Shape, from api.Cell, path []api.Cell, want ...int) {
	t.Helper()
	got, code := smooth.Smooth(w, s, from, path)
	if code != api.OK || !slices.Equal(got, cells(want...)) {
		t.Fatalf("Smooth of %v from %v = %v, error %d, want %v", path, from, got, code, cells(want...))
	}
	holds(t, w, s, from, path)
}

// refuses asks whether a path is refused.
func refuses(t *testing.T, w *grid.World, s api.Shape, from api.Cell, path []api.Cell) {
	t.Helper()
	if got, code := smooth.Smooth(w, s, from, path); code != api.ErrArg || len(got) > 0 {
		t.Fatalf("Smooth of %v from %v for %v = %v, error %d", path, from, s, got, code)
	}
}

// lines asks for a line.
func lines(t *testing.T, from, to api.Cell, want ...int) {
	t.Helper()
	if got := smooth.Line(from, to); !slices.Equal(got, cells(want...)) {
		t.Errorf("Line(%v, %v) = %v, want %v", from, to, got, cells(want...))
	}
}

// The chapter's example.

func TestExample(t *testing.T) {
	becomes(t, open(t, 4, 4, api.Plain), foot, at(0, 0), cells(1, 0, 1, 1, 2, 1, 2, 2), 1, 1, 2, 2)
}

// Sm1: the line.

func TestLine(t *testing.T) {
	lines(t, at(0, 0), at(0, 0))
	lines(t, at(-7, 9), at(-7, 9))
	// Along a row, a column, and over a corner: the eight directions.
	lines(t, at(5, 5), at(8, 5), 6, 5, 7, 5, 8, 5)
	lines(t, at(5, 5), at(5, 8), 5, 6, 5, 7, 5, 8)
	lines(t, at(5, 5), at(2, 5), 4, 5, 3, 5, 2, 5)
	lines(t, at(5, 5), at(5, 2), 5, 4, 5, 3, 5, 2)
	lines(t, at(5, 5), at(8, 8), 6, 6, 7, 7, 8, 8)
	lines(t, at(5, 5), at(2, 8), 4, 6, 3, 7, 2, 8)
	lines(t, at(5, 5), at(2, 2), 4, 4, 3, 3, 2, 2)
	lines(t, at(5, 5), at(8, 2), 6, 4, 7, 3, 8, 2)
	// One step.
	for _, m := range moves {
		lines(t, at(5, 5), at(5+m[0], 5+m[1]), 5+m[0], 5+m[1])
	}
	// Over corners first, then straight.
	lines(t, at(0, 0), at(4, 2), 1, 1, 2, 2, 3, 2, 4, 2)
	lines(t, at(0, 0), at(2, 4), 1, 1, 2, 2, 2, 3, 2, 4)
	lines(t, at(0, 0), at(-4, 2), -1, 1, -2, 2, -3, 2, -4, 2)
	lines(t, at(0, 0), at(-2, 4), -1, 1, -2, 2, -2, 3, -2, 4)
	lines(t, at(0, 0), at(-4, -2), -1, -1, -2, -2, -3, -2, -4, -2)
	lines(t, at(0, 0), at(-2, -4), -1, -1, -2, -2, -2, -3, -2, -4)
	lines(t, at(0, 0), at(4, -2), 1, -1, 2, -2, 3, -2, 4, -2)
	lines(t, at(0, 0), at(2, -4), 1, -1, 2, -2, 2, -3, 2, -4)
	// The line back is another one.
	lines(t, at(4, 2), at(0, 0), 3, 1, 2, 0, 1, 0, 0, 0)
}

// TestLineByDefinition: from some cells to all about them, and what a line costs.
func TestLineByDefinition(t *testing.T) {
	for _, from := range cells(0, 0, 5, -3, -100, 40, far, far, -far, -far, far, -far, far-2, 7) {
		for i := range 41 * 41 {
			to := at(from.X+i%41-20, from.Y+i/41-20)
			got := smooth.Line(from, to)
			if !isNear(to) {
				if len(got) > 0 {
					t.Fatalf("Line(%v, %v) = %v", from, to, got)
				}
				continue
			}
			if want := line(from, to); !slices.Equal(got, want) {
				t.Fatalf("Line(%v, %v) = %v, want %v", from, to, got, want)
			}
			if cost := class.Cost(from, got); cost != cell.Octile(from, to) {
				t.Fatalf("the line from %v to %v costs %d, want %d", from, to, cost, cell.Octile(from, to))
			}
		}
	}
}

func TestLineMaxPath(t *testing.T) {
	const most = api.MaxPath
	for _, from := range cells(0, 0, -3, 17, -far, -far, far, far, far-most, most-far) {
		for _, to := range []api.Cell{
			at(from.X+most, from.Y), at(from.X-most, from.Y), at(from.X, from.Y+most), at(from.X, from.Y-most),
			at(from.X+most, from.Y+most), at(from.X-most, from.Y+most), at(from.X-most, from.Y-most), at(from.X+most, from.Y-most),
			at(from.X+most, from.Y-5), at(from.X-5, from.Y+most), at(from.X-most, from.Y+most-1), at(from.X+most-1, from.Y-most),
		} {
			if got := smooth.Line(from, to); isNear(to) && (len(got) != most || !slices.Equal(got, line(from, to)) || class.Cost(from, got) != cell.Octile(from, to)) {
				t.Errorf("Line(%v, %v) has %d cells", from, to, len(got))
			}
			// One more.
			right, down := sign(to.X-from.X), sign(to.Y-from.Y)
			for _, end := range []api.Cell{at(to.X+right, to.Y+down), at(to.X+2*right, to.Y+2*down)} {
				if got := smooth.Line(from, end); apart(from, end) > most && len(got) > 0 {
					t.Errorf("Line(%v, %v) has %d cells", from, end, len(got))
				}
			}
		}
	}
	lines(t, at(0, 0), at(most+1, 0))
	lines(t, at(0, 0), at(0, -most-1))
	lines(t, at(0, 0), at(most+1, most+1))
	lines(t, at(0, 0), at(3, most+1))
	lines(t, at(-far, -far), at(far, far))
	lines(t, at(far, 0), at(-far, 0))
	lines(t, at(0, far), at(0, -far))
}

func TestLineNotNear(t *testing.T) {
	for _, n := range ends {
		for _, c := range []api.Cell{at(n, 0), at(0, n), at(n, n), at(n, -n), at(far, n), at(n, -far)} {
			lines(t, c, c)
			lines(t, c, at(0, 0))
			lines(t, at(0, 0), c)
			lines(t, at(far, far), c)
			lines(t, c, at(-far, -far))
			lines(t, c, at(-c.X, -c.Y))
			for _, m := range ends {
				lines(t, c, at(m, n))
				lines(t, at(n, m), c)
			}
			// From neighbours, which are not near either, or are.
			for _, m := range moves {
				lines(t, c, at(c.X+m[0], c.Y+m[1]))
				lines(t, at(c.X+m[0], c.Y+m[1]), c)
			}
		}
	}
	lines(t, at(far, far), at(far-2, far-1), far-1, far-1, far-2, far-1)
	lines(t, at(1-far, far), at(-far, far), -far, far)
	lines(t, at(far, 0), at(far+1, 0))
	lines(t, at(far+1, 0), at(far, 0))
	lines(t, at(0, -far), at(0, -far-1))
	lines(t, at(0, -far-1), at(0, -far))
}

// Sm1: paths that are smoothed.

func TestEmptyPath(t *testing.T) {
	w := world(t, "..#", ".~.")
	place(t, w, 1, rect(0, 1, 1, 1))
	for _, path := range [][]api.Cell{nil, {}} {
		becomes(t, w, foot, at(0, 0), path)
		becomes(t, w, foot, at(2, 1), path)
		becomes(t, w, shape(api.Boat, 1), at(1, 1), path)
		refuses(t, w, foot, at(2, 0), path)
		refuses(t, w, foot, at(1, 1), path)
		refuses(t, w, foot, at(0, 1), path)
		refuses(t, w, shape(api.Foot, 2), at(0, 0), path)
		refuses(t, w, foot, at(-1, 0), path)
		refuses(t, w, foot, at(3, 0), path)
		refuses(t, w, foot, at(0, 2), path)
		for _, n := range ends {
			refuses(t, w, foot, at(n, 0), path)
			refuses(t, w, foot, at(0, n), path)
			refuses(t, w, foot, at(n, n), path)
		}
	}
}

func TestNotLegal(t *testing.T) {
	w := world(t,
		".......",
		"...#...",
		".......")
	good := cells(1, 0, 2, 0, 3, 0, 4, 0, 5, 0)
	becomes(t, w, foot, at(0, 0), good, 1, 0, 2, 0, 3, 0, 4, 0, 5, 0)
	// The first, a middle and the last cell: one that is no neighbour, the same again, and one that is not near.
	for i := range good {
		for _, bad := range []api.Cell{at(3, 2), at(6, 2), at(i, 0), at(i+3, 0), at(i+1, -1), at(i+1, math.MinInt), at(math.MaxInt, 0), at(i+1, 1<<32)} {
			path := slices.Clone(good)
			path[i] = bad
			refuses(t, w, foot, at(0, 0), path)
			refuses(t, w, foot, at(0, 0), path[:i+1])
		}
	}
	// Onto Rock, and over its corner: as the first, a middle, the last step.
	refuses(t, w, foot, at(2, 1), cells(3, 1, 4, 1, 5, 1))
	refuses(t, w, foot, at(1, 1), cells(2, 1, 3, 1, 4, 1))
	refuses(t, w, foot, at(0, 1), cells(1, 1, 2, 1, 3, 1))
	refuses(t, w, foot, at(3, 0), cells(4, 1, 5, 1, 6, 1))
	refuses(t, w, foot, at(2, 0), cells(3, 0, 4, 1, 5, 1))
	refuses(t, w, foot, at(1, 0), cells(2, 0, 3, 0, 4, 1))
	// From Rock, and from beyond the world.
	refuses(t, w, foot, at(3, 1), cells(3, 0, 4, 0))
	refuses(t, w, foot, at(-1, 0), cells(0, 0, 1, 0))
	refuses(t, w, foot, at(0, 3), cells(0, 2, 1, 2))
	for _, n := range ends {
		refuses(t, w, foot, at(n, 0), good)
		refuses(t, w, foot, at(0, n), good)
	}
	// Out of the world.
	refuses(t, w, foot, at(5, 0), cells(6, 0, 7, 0))
	refuses(t, w, foot, at(0, 0), cells(0, 1, 0, 2, 0, 3))
	refuses(t, w, foot, at(0, 0), cells(-1, 0, 0, 0))
	refuses(t, w, foot, at(1, 1), cells(0, 1, -1, 1, 0, 1))
	// Far on in a path, behind what is looked at first.
	long := walk(at(0, 0), leg{api.East, 127})
	for _, i := range []int{31, 32, 33, 63, 64, 65, 126} {
		path := slices.Clone(long)
		path[i] = at(i+1, 2)
		refuses(t, open(t, 128, 3, api.Plain), foot, at(0, 0), path)
	}
}

func TestMaxPath(t *testing.T) {
	w := open(t, 128, 128, api.Plain)
	// To and fro: Reach steps on one is where one was.
	toAndFro := slices.Repeat(cells(1, 0, 0, 0), api.MaxPath)
	becomes(t, w, foot, at(0, 0), toAndFro[:api.MaxPath])
	becomes(t, w, foot, at(0, 0), toAndFro[:api.MaxPath-1], 1, 0)
	refuses(t, w, foot, at(0, 0), toAndFro[:api.MaxPath+1])
	refuses(t, w, foot, at(0, 0), toAndFro[:api.MaxPath+2])
	refuses(t, w, foot, at(0, 0), toAndFro)
	// All cells of the world, row by row to and fro, and the last one's neighbour.
	var all []api.Cell
	end := at(0, 0)
	for y := range 128 {
		row := walk(end, leg{api.East + y%2*2, 127}, leg{api.South, 1})
		all = append(all, row...)
		end = row[127]
	}
	all[api.MaxPath-1] = at(1, 127)
	if len(all) != api.MaxPath {
		t.Fatalf("%d cells", len(all))
	}
	holds(t, w, foot, at(0, 0), all)
	refuses(t, w, foot, at(0, 0), append(all, at(0, 127)))
	// A path that is not legal is refused at these lengths, too.
	all[api.MaxPath-2] = at(5, 5)
	refuses(t, w, foot, at(0, 0), all)
}

// TestNearer: the line to the end is not legal, and some nearer one is.
func TestNearer(t *testing.T) {
	w := world(t,
		".....",
		".##..",
		".....")
	// Round the Rock, by its left side, and by the right one.
	becomes(t, w, foot, at(0, 0), cells(0, 1, 0, 2, 1, 2, 2, 2, 3, 2), 0, 1, 0, 2, 1, 2, 2, 2, 3, 2)
	becomes(t, w, foot, at(1, 0), cells(2, 0, 3, 0, 3, 1, 3, 2, 4, 2), 2, 0, 3, 0, 4, 1, 4, 2)
	becomes(t, w, foot, at(4, 2), cells(4, 1, 4, 0, 3, 0, 2, 0, 1, 0, 0, 0), 3, 1, 3, 0, 2, 0, 1, 0, 0, 0)
	// A line that is legal to the farthest one counts, though those to nearer ones are not.
	becomes(t, w, foot, at(0, 0), cells(0, 1, 0, 2, 1, 2, 2, 2, 3, 2, 3, 1, 3, 0), 1, 0, 2, 0, 3, 0)
	becomes(t, w, foot, at(0, 2), cells(0, 1, 0, 0, 1, 0, 2, 0, 3, 0, 4, 0, 4, 1, 4, 2, 4, 1), 1, 2, 2, 2, 3, 2, 4, 2, 4, 1)
}

// TestOnlyTheNext: between pillars each corner of a path is needed.
func TestOnlyTheNext(t *testing.T) {
	w := world(t,
		"..##",
		"#..#",
		"##..",
		"###.")
	stairs := walk(at(0, 0), leg{api.East, 1}, leg{api.South, 1}, leg{api.East, 1}, leg{api.South, 1}, leg{api.East, 1}, leg{api.South, 1})
	becomes(t, w, foot, at(0, 0), stairs, 1, 0, 1, 1, 2, 1, 2, 2, 3, 2, 3, 3)
	// A straight step and one over a corner the line takes the other way round.
	w = world(t,
		"....",
		"#...",
		"....")
	becomes(t, w, foot, at(0, 0), cells(1, 0, 2, 1), 1, 0, 2, 1)
	becomes(t, w, foot, at(1, 0), cells(2, 0, 3, 1), 2, 1, 3, 1)
	becomes(t, w, foot, at(2, 1), cells(1, 0, 0, 0), 1, 0, 0, 0)
}

// TestReach: a cell just Reach cells on is looked at, and none beyond it.
func TestReach(t *testing.T) {
	w := open(t, 100, 5, api.Plain)
	bent := func(n int) []api.Cell { return walk(at(0, 0), leg{api.East, n}, leg{api.South, 1}) }
	smoothed := func(legs ...leg) []int {
		var l []int
		for _, c := range walk(at(0, 0), legs...) {
			l = append(l, c.X, c.Y)
		}
		return l
	}
	becomes(t, w, foot, at(0, 0), bent(30), smoothed(leg{api.SouthEast, 1}, leg{api.East, 29})...)
	becomes(t, w, foot, at(0, 0), bent(31), smoothed(leg{api.SouthEast, 1}, leg{api.East, 30})...)
	becomes(t, w, foot, at(0, 0), bent(32), smoothed(leg{api.East, 32}, leg{api.South, 1})...)
	becomes(t, w, foot, at(0, 0), bent(33), smoothed(leg{api.East, 32}, leg{api.SouthEast, 1})...)
	becomes(t, w, foot, at(0, 0), bent(63), smoothed(leg{api.East, 32}, leg{api.SouthEast, 1}, leg{api.East, 30})...)
	becomes(t, w, foot, at(0, 0), bent(64), smoothed(leg{api.East, 64}, leg{api.South, 1})...)
	// Reach is counted in the path's cells, not in those of the line.
	path := walk(at(0, 0), leg{api.South, 4}, leg{api.East, 4}, leg{api.North, 4}, leg{api.East, 20}, leg{api.South, 1})
	becomes(t, w, foot, at(0, 0), path, smoothed(leg{api.East, 24}, leg{api.South, 1})...)
	path = walk(at(0, 0), leg{api.South, 4}, leg{api.East, 4}, leg{api.North, 4}, leg{api.East, 19}, leg{api.South, 1})
	becomes(t, w, foot, at(0, 0), path, smoothed(leg{api.SouthEast, 1}, leg{api.East, 22})...)
}

// TestComesBack: a path that comes back to a cell within Reach goes round no more.
func TestComesBack(t *testing.T) {
	w := open(t, 20, 20, api.Plain)
	becomes(t, w, foot, at(5, 5), cells(6, 5, 5, 5))
	becomes(t, w, foot, at(5, 5), cells(6, 5, 6, 6, 5, 6, 5, 5))
	becomes(t, w, foot, at(5, 5), cells(6, 5, 6, 6, 5, 6, 5, 5, 4, 5), 4, 5)
	becomes(t, w, foot, at(5, 5), cells(6, 5, 7, 5, 7, 6, 6, 6, 6, 5), 6, 5)
	becomes(t, w, foot, at(5, 5), cells(6, 5, 7, 5, 8, 5, 7, 5, 6, 5), 6, 5)
	// The farthest one is that by the path's order, not the one that is the most apart.
	becomes(t, w, foot, at(0, 0), walk(at(0, 0), leg{api.East, 9}, leg{api.West, 6}), 1, 0, 2, 0, 3, 0)
	// Round a building: the line to most cells of it is not legal.
	place(t, w, 1, rect(5, 5, 3, 3))
	round := walk(at(4, 4), leg{api.East, 4}, leg{api.South, 4}, leg{api.West, 4}, leg{api.North, 4})
	becomes(t, w, foot, at(4, 4), round)
	becomes(t, w, foot, at(4, 4), round[:15], 4, 5)
	becomes(t, w, foot, at(4, 4), append(round, round...))
	becomes(t, w, foot, at(4, 4), append(round, at(3, 3)), 3, 3)
	// In just Reach steps, and in one more.
	square := walk(at(0, 0), leg{api.East, 8}, leg{api.South, 8}, leg{api.West, 8}, leg{api.North, 8})
	becomes(t, open(t, 9, 9, api.Plain), foot, at(0, 0), square)
	cut := walk(at(0, 0), leg{api.East, 8}, leg{api.South, 9}, leg{api.West, 7}, leg{api.NorthWest, 1}, leg{api.North, 8})
	becomes(t, open(t, 9, 10, api.Plain), foot, at(0, 0), cut, 0, 1, 0, 0)
}

// TestCorners: a line that would cut a corner is not taken.
func TestCorners(t *testing.T) {
	around := cells(1, 0, 1, 1)
	for _, w := range []*grid.World{
		world(t, "..", "#."),
		world(t, "..", "~."),
	} {
		becomes(t, w, foot, at(0, 0), around, 1, 0, 1, 1)
		becomes(t, w, foot, at(1, 1), cells(1, 0, 0, 0), 1, 0, 0, 0)
	}
	w := open(t, 2, 2, api.Plain)
	becomes(t, w, foot, at(0, 0), around, 1, 1)
	place(t, w, 1, rect(0, 1, 1, 1))
	becomes(t, w, foot, at(0, 0), around, 1, 0, 1, 1)
	if _, code := w.Raze(1); code != api.OK {
		t.Fatal("Raze")
	}
	becomes(t, w, foot, at(0, 0), around, 1, 1)
	// A building in a line's middle, at a corner of it, and beside it.
	path := walk(at(0, 0), leg{api.South, 1}, leg{api.East, 5})
	w = open(t, 6, 3, api.Plain)
	becomes(t, w, foot, at(0, 0), path, 1, 1, 2, 1, 3, 1, 4, 1, 5, 1)
	place(t, w, 2, rect(2, 0, 2, 1))
	becomes(t, w, foot, at(0, 0), path, 1, 1, 2, 1, 3, 1, 4, 1, 5, 1)
	place(t, w, 3, rect(1, 0, 1, 1))
	becomes(t, w, foot, at(0, 0), path, 0, 1, 1, 1, 2, 1, 3, 1, 4, 1, 5, 1)
	// Water is a corner for those that do not stand on it.
	w = world(t, "...", "~..", "...")
	path = cells(1, 0, 1, 1, 1, 2)
	becomes(t, w, shape(api.Foot, 1), at(0, 0), path, 1, 0, 1, 1, 1, 2)
	becomes(t, w, shape(api.Wheel, 1), at(0, 0), path, 1, 0, 1, 1, 1, 2)
	becomes(t, w, shape(api.Hover, 1), at(0, 0), path, 1, 1, 1, 2)
}

// TestEveryShape: each smoothes by its own footprint and terrain.
func TestEveryShape(t *testing.T) {
	on := [api.Classes]byte{api.Wood, api.Plain, api.Water, api.Water}
	for _, s := range shapes() {
		w := open(t, 12, 12, on[s.Class])
		path := walk(at(0, 0), leg{api.East, 4}, leg{api.South, 4})
		becomes(t, w, s, at(0, 0), path, 1, 1, 2, 2, 3, 3, 4, 4)
		becomes(t, w, s, at(12-s.Size, 0), nil)
		refuses(t, w, s, at(13-s.Size, 0), nil)
		// The building is below the path: as near as may be, and so that the line to the path's end is not legal.
		place(t, w, 1, rect(0, s.Size, 4, 1))
		becomes(t, w, s, at(0, 0), path[:4], 1, 0, 2, 0, 3, 0, 4, 0)
		becomes(t, w, s, at(0, 0), path, 1, 0, 2, 0, 3, 0, 4, 0, 4, 1, 4, 2, 4, 3, 4, 4)
		other := shape(s.Class, s.Size%4+1)
		holds(t, w, other, at(0, 0), path)
		for c := range api.Classes {
			holds(t, w, shape(c, s.Size), at(0, 0), path)
		}
	}
}

func TestNoShape(t *testing.T) {
	w := open(t, 9, 9, api.Plain)
	for _, s := range []api.Shape{{}, shape(0, 5), shape(0, -1), shape(4, 1), shape(-1, 1), shape(math.MinInt, 1), shape(0, math.MinInt), shape(math.MaxInt, math.MaxInt), shape(1<<32, 1), shape(0, 1<<32+1)} {
		refuses(t, w, s, at(0, 0), nil)
		refuses(t, w, s, at(0, 0), cells(1, 0))
	}
}

func TestNoWorld(t *testing.T) {
	refused, _ := grid.New(api.Map{})
	for _, w := range []*grid.World{nil, {}, new(grid.World), refused, (*grid.World)(nil).Copy()} {
		for _, s := range append(shapes(), api.Shape{}) {
			refuses(t, w, s, at(0, 0), nil)
			refuses(t, w, s, at(0, 0), cells(1, 0))
			refuses(t, w, s, at(0, 0), slices.Repeat(cells(1, 0, 0, 0), api.MaxPath))
			for _, n := range ends {
				refuses(t, w, s, at(n, n), cells(n, n))
			}
		}
	}
}

// TestEdits: a path is smoothed in the world as it is; and neither world nor copy is turned.
func TestEdits(t *testing.T) {
	w := open(t, 5, 5, api.Plain)
	path := cells(1, 0, 1, 1, 2, 1, 2, 2)
	old := w.Copy()
	place(t, w, 1, rect(0, 1, 1, 1))
	becomes(t, w, foot, at(0, 0), path, 1, 0, 2, 1, 2, 2)
	becomes(t, w.Copy(), foot, at(0, 0), path, 1, 0, 2, 1, 2, 2)
	becomes(t, old, foot, at(0, 0), path, 1, 1, 2, 2)
	place(t, w, 2, rect(1, 1, 1, 1))
	refuses(t, w, foot, at(0, 0), path)
	m := w.Map()
	if w.Epoch() != 2 || old.Epoch() != 0 || len(m.Built) != 2 {
		t.Errorf("the world was turned: %v", m)
	}
}

// Sm1: turns.

func TestTurns(t *testing.T) {
	for _, c := range []struct {
		from api.Cell
		path []api.Cell
		want int
	}{
		{at(3, 3), nil, 0},
		{at(3, 3), []api.Cell{}, 0},
		{at(3, 3), walk(at(3, 3), leg{api.East, 2}), 0},
		{at(3, 3), walk(at(3, 3), leg{api.NorthWest, 50}), 0},
		{at(3, 3), walk(at(3, 3), leg{api.East, 4}, leg{api.South, 4}), 1},
		{at(3, 3), walk(at(3, 3), leg{api.East, 1}, leg{api.West, 1}), 1},
		{at(3, 3), walk(at(3, 3), leg{api.East, 1}, leg{api.SouthEast, 1}, leg{api.East, 1}), 2},
		{at(3, 3), walk(at(3, 3), leg{api.East, 3}, leg{api.SouthEast, 1}, leg{api.East, 3}), 2},
		{at(3, 3), walk(at(3, 3), leg{0, 1}, leg{1, 1}, leg{2, 1}, leg{3, 1}, leg{4, 1}, leg{5, 1}, leg{6, 1}, leg{7, 1}), 7},
		{at(3, 3), slices.Repeat(cells(4, 3, 3, 3), 10), 19},
		{at(far-1, 0), cells(far, 0, far, 1, far, 2), 1},
		{at(-far, -far), cells(1-far, 1-far, 2-far, 2-far), 0},
		// More cells than a way has: each of them is a step.
		{at(3, 3), slices.Repeat(cells(4, 3, 3, 3), api.MaxPath), 2*api.MaxPath - 1},
		// No steps: the first, a middle, the last one.
		{at(3, 3), cells(3, 3), -1},
		{at(3, 3), cells(5, 3), -1},
		{at(3, 3), cells(4, 5), -1},
		{at(3, 3), cells(3, 3, 4, 3), -1},
		{at(3, 3), cells(5, 3, 6, 3), -1},
		{at(3, 3), cells(4, 3, 4, 3, 5, 3), -1},
		{at(3, 3), cells(4, 3, 6, 3, 7, 3), -1},
		{at(3, 3), cells(4, 3, 5, 3, 5, 3), -1},
		{at(3, 3), cells(4, 3, 5, 3, 7, 4), -1},
		{at(3, 3), cells(4, 3, 4, 4, 4, 5, 2, 5), -1},
		// Cells that are not near.
		{at(far, 0), cells(far+1, 0), -1},
		{at(far+1, 0), cells(far, 0), -1},
		{at(0, -far), cells(1, -far, 1, -far-1), -1},
		{at(math.MaxInt, 0), cells(math.MinInt, 0), -1},
		{at(0, math.MinInt), cells(0, math.MaxInt), -1},
		{at(math.MaxInt-1, 5), cells(math.MaxInt, 5), -1},
		{at(0, 0), cells(1<<32+1, 0), -1},
	} {
		if got := smooth.Turns(c.from, c.path); got != c.want {
			t.Errorf("Turns(%v, %v) = %d, want %d", c.from, c.path[:min(len(c.path), 20)], got, c.want)
		}
	}
	for _, n := range ends {
		for _, c := range []api.Cell{at(n, 0), at(0, n), at(n, n)} {
			// The empty path has no step that might be none.
			if got := smooth.Turns(c, nil); got != 0 {
				t.Errorf("Turns(%v, nil) = %d", c, got)
			}
			if got := smooth.Turns(c, []api.Cell{c}); got != -1 {
				t.Errorf("Turns(%v, itself) = %d", c, got)
			}
			if got := smooth.Turns(at(0, 0), []api.Cell{at(1, 0), c}); got != -1 {
				t.Errorf("Turns to %v = %d", c, got)
			}
		}
	}
}

// TestTurnsOfTwo asks of each direction behind each other one.
func TestTurnsOfTwo(t *testing.T) {
	for a := range api.Directions {
		if got := smooth.Turns(at(-4, 9), walk(at(-4, 9), leg{a, 1})); got != 0 {
			t.Errorf("Turns of a step by %d = %d", a, got)
		}
		for b := range api.Directions {
			want := 1
			if a == b {
				want = 0
			}
			if got := smooth.Turns(at(-4, 9), walk(at(-4, 9), leg{a, 1}, leg{b, 1})); got != want {
				t.Errorf("Turns of %d and %d = %d", a, b, got)
			}
		}
	}
}

// R3: memory.

// ownMemory overwrites an answer, with its spare room: another one stays, and a later one is the same.
func ownMemory(t *testing.T, what string, ask func() []api.Cell) {
	t.Helper()
	first, second := ask(), ask()
	want := slices.Clone(first)
	room := first[:cap(first)]
	for i := range room {
		room[i] = at(-5, -5)
	}
	if len(want) == 0 || !slices.Equal(second, want) || !slices.Equal(ask(), want) {
		t.Errorf("%s's answers share memory", what)
	}
}

func TestMemory(t *testing.T) {
	ownMemory(t, "Line", func() []api.Cell { return smooth.Line(at(0, 0), at(7, 3)) })
	ownMemory(t, "Line", func() []api.Cell { return smooth.Line(at(0, 0), at(0, 1)) })
	w := world(t,
		"....#...",
		".##.....",
		"........")
	for _, path := range [][]api.Cell{
		cells(1, 0),
		cells(1, 0, 2, 0, 3, 0),
		cells(0, 1, 0, 2, 1, 2, 2, 2),
		cells(1, 0, 2, 0, 3, 0, 3, 1, 4, 1, 5, 1, 5, 0, 6, 0),
	} {
		all := append(slices.Clone(path), cells(77, 77, 78, 78)...)
		old := slices.Clone(all)
		handed := all[:len(path)]
		ownMemory(t, "Smooth", func() []api.Cell {
			l, _ := smooth.Smooth(w, foot, at(0, 0), handed)
			return l
		})
		if smooth.Turns(at(0, 0), handed) < 0 || !slices.Equal(all, old) {
			t.Errorf("the path was turned: %v", all)
		}
		// What was told stays when the caller turns the path.
		told, _ := smooth.Smooth(w, foot, at(0, 0), handed)
		kept := slices.Clone(told)
		clear(all)
		if !slices.Equal(told, kept) {
			t.Errorf("what was told was turned: %v", told)
		}
	}
	// A path that is refused stays, too.
	all := cells(1, 0, 2, 0, 2, 1, 77, 77)
	refuses(t, w, foot, at(0, 0), all[:3])
	if !slices.Equal(all, cells(1, 0, 2, 0, 2, 1, 77, 77)) {
		t.Errorf("the path was turned: %v", all)
	}
}
