package portal_test

import (
	"math"
	"slices"
	"testing"

	"phalanx/api"
	"phalanx/grid"
	"phalanx/portal"
)

const far = api.Far

// ends are numbers about which sums, products and quotients wrap.
var ends = []int{math.MinInt, math.MinInt + 1, math.MinInt + 7, math.MinInt + 8, math.MinInt32 - 1, math.MinInt32, -1 << 29, -far - 1, -far,
	far, far + 1, 1 << 29, math.MaxInt32, 1 << 32, 1<<32 + 1, 1 << 60, 1 << 61, 1<<61 + 1, math.MaxInt - 8, math.MaxInt - 7, math.MaxInt - 1, math.MaxInt}

// sides are those a world is tried with: 1, about the multiples of a cluster's side, and the greatest.
var sides = []int{1, 2, 7, 8, 9, 10, 11, 12, 15, 16, 17, 23, 24, 25, 127, 128}

func at(x, y int) api.Cell { return api.Cell{X: x, Y: y} }

func rect(x, y, w, h int) api.Rect { return api.Rect{At: at(x, y), W: w, H: h} }

func shape(class, size int) api.Shape { return api.Shape{Class: class, Size: size} }

// foot is the least shape.
var foot = shape(api.Foot, 1)

// right is the portal from a cell to the one to its right, below that to the one below it.
func right(x, y int) api.Portal { return api.Portal{A: at(x, y), B: at(x+1, y)} }

func below(x, y int) api.Portal { return api.Portal{A: at(x, y), B: at(x, y+1)} }

// cells is a list of X and Y, one behind the other.
func cells(numbers ...int) []api.Cell {
	var l []api.Cell
	for i := 0; i < len(numbers); i += 2 {
		l = append(l, at(numbers[i], numbers[i+1]))
	}
	return l
}

// tiles is a map of rows: . Plain, w Wood, ~ Water, # Rock.
func tiles(rows ...string) api.Map {
	m := api.Map{W: len(rows[0]), H: len(rows)}
	terrains := map[rune]byte{'.': api.Plain, 'w': api.Wood, '~': api.Water, '#': api.Rock}
	for _, row := range rows {
		for _, r := range row {
			m.Tiles = append(m.Tiles, terrains[r])
		}
	}
	return m
}

// plainTiles is a map of Plain alone.
func plainTiles(width, height int) api.Map {
	return api.Map{W: width, H: height, Tiles: make([]byte, width*height)}
}

// rock puts Rock on cells of a map.
func rock(m api.Map, on ...api.Cell) api.Map {
	m.Tiles = slices.Clone(m.Tiles)
	for _, c := range on {
		m.Tiles[c.Y*m.W+c.X] = api.Rock
	}
	return m
}

// turned is a map with its columns as rows: what lay to the right lies below.
func turned(m api.Map) api.Map {
	t := api.Map{W: m.H, H: m.W}
	for x := range m.W {
		for y := range m.H {
			t.Tiles = append(t.Tiles, m.Tiles[y*m.W+x])
		}
	}
	for _, b := range m.Built {
		t.Built = append(t.Built, api.Building{Id: b.Id, Foot: turnedRect(b.Foot)})
	}
	return t
}

func turnedCell(c api.Cell) api.Cell { return at(c.Y, c.X) }

func turnedRect(r api.Rect) api.Rect { return api.Rect{At: turnedCell(r.At), W: r.H, H: r.W} }

func made(t *testing.T, m api.Map) *grid.World {
	t.Helper()
	w, code := grid.New(m)
	if code != api.OK {
		t.Fatalf("New: error %d", code)
	}
	return w
}

// open is a world of Plain.
func open(t *testing.T, width, height int) *grid.World {
	t.Helper()
	return made(t, plainTiles(width, height))
}

func place(t *testing.T, w *grid.World, id int, foot api.Rect) {
	t.Helper()
	if code := w.Place(api.Building{Id: id, Foot: foot}); code != api.OK {
		t.Fatalf("Place %d at %v: error %d", id, foot, code)
	}
}

func raze(t *testing.T, w *grid.World, id int) {
	t.Helper()
	if _, code := w.Raze(id); code != api.OK {
		t.Fatalf("Raze %d: error %d", id, code)
	}
}

// noWorlds are worlds that New did not give.
func noWorlds() []*grid.World { return []*grid.World{nil, {}} }

// shapes are all that may be.
func shapes() []api.Shape {
	var l []api.Shape
	for class := range api.Classes {
		for size := 1; size <= 4; size++ {
			l = append(l, shape(class, size))
		}
	}
	return l
}

// noShapes are shapes that may not be.
func noShapes() []api.Shape {
	outside := append([]int{-256, -4, -1, 5, 6, 255, 256, 257}, ends...)
	var l []api.Shape
	for _, n := range append(outside, 4) {
		for size := 1; size <= 4; size++ {
			l = append(l, shape(n, size))
		}
	}
	for _, n := range append(outside, 0) {
		for class := range api.Classes {
			l = append(l, shape(class, n))
		}
	}
	return append(l, shape(-1, 0), shape(4, 5), shape(-1, 5), shape(4, 0), shape(math.MinInt, math.MinInt), shape(math.MaxInt, math.MaxInt))
}

func hasRuns(t *testing.T, w *grid.World, s api.Shape, k api.Cell, dir int, want ...api.Rect) {
	t.Helper()
	if got := portal.Runs(w, s, k, dir); !slices.Equal(got, want) {
		t.Fatalf("Runs of %v from %v by %d in %v = %v, want %v", s, k, dir, w.Map(), got, want)
	}
}

func hasBetween(t *testing.T, w *grid.World, s api.Shape, k api.Cell, dir int, want ...api.Portal) {
	t.Helper()
	if got := portal.Between(w, s, k, dir); !slices.Equal(got, want) {
		t.Fatalf("Between of %v from %v by %d in %v = %v, want %v", s, k, dir, w.Map(), got, want)
	}
}

func hasAll(t *testing.T, w *grid.World, s api.Shape, want ...api.Portal) {
	t.Helper()
	if got := portal.All(w, s); !slices.Equal(got, want) {
		t.Fatalf("All of %v in %v = %v, want %v", s, w.Map(), got, want)
	}
}

func hasNone(t *testing.T, w *grid.World, s api.Shape, k api.Cell, dir int) {
	t.Helper()
	hasRuns(t, w, s, k, dir)
	hasBetween(t, w, s, k, dir)
}

// run is where on a border one begins, how long it is, and where its portal lies: cells' Y.
type run struct{ from, length, portal int }

// holds asks for the runs and portals of a cluster's border to the right, and, of the map turned, for those of the border below.
func holds(t *testing.T, m api.Map, s api.Shape, k api.Cell, want ...run) {
	t.Helper()
	w, over := made(t, m), made(t, turned(m))
	x := 8*k.X + 7
	var runs, runsBelow []api.Rect
	var portals, portalsBelow []api.Portal
	for _, r := range want {
		runs = append(runs, rect(x, r.from, 1, r.length))
		runsBelow = append(runsBelow, rect(r.from, x, r.length, 1))
		portals = append(portals, right(x, r.portal))
		portalsBelow = append(portalsBelow, below(r.portal, x))
	}
	hasRuns(t, w, s, k, api.East, runs...)
	hasBetween(t, w, s, k, api.East, portals...)
	hasRuns(t, over, s, turnedCell(k), api.South, runsBelow...)
	hasBetween(t, over, s, turnedCell(k), api.South, portalsBelow...)
}

func TestExample(t *testing.T) {
	w := open(t, 16, 8)
	hasRuns(t, w, foot, at(0, 0), api.East, rect(7, 0, 1, 8))
	hasBetween(t, w, foot, at(0, 0), api.East, api.Portal{A: at(7, 3), B: at(8, 3)})
	hasAll(t, w, foot, api.Portal{A: at(7, 3), B: at(8, 3)})
}

// borders are borders of eight pairs, those that are open as points, and their runs.
var borders = []struct {
	pairs string
	runs  []run
}{
	{"########", nil},
	{"........", []run{{0, 8, 3}}},
	{".#######", []run{{0, 1, 0}}},
	{"#######.", []run{{7, 1, 7}}},
	{"###.####", []run{{3, 1, 3}}},
	{"..######", []run{{0, 2, 0}}},
	{"######..", []run{{6, 2, 6}}},
	{"##..####", []run{{2, 2, 2}}},
	{"...#####", []run{{0, 3, 1}}},
	{"#....###", []run{{1, 4, 2}}},
	{"#.....##", []run{{1, 5, 3}}},
	{"#......#", []run{{1, 6, 3}}},
	{".......#", []run{{0, 7, 3}}},
	{"#.......", []run{{1, 7, 4}}},
	{".######.", []run{{0, 1, 0}, {7, 1, 7}}},
	{"...##...", []run{{0, 3, 1}, {5, 3, 6}}},
	{"....#...", []run{{0, 4, 1}, {5, 3, 6}}},
	{"..#...#.", []run{{0, 2, 0}, {3, 3, 4}, {7, 1, 7}}},
	{"#..#..#.", []run{{1, 2, 1}, {4, 2, 4}, {7, 1, 7}}},
	{".#.#.#.#", []run{{0, 1, 0}, {2, 1, 2}, {4, 1, 4}, {6, 1, 6}}},
	{"#.#.#.#.", []run{{1, 1, 1}, {3, 1, 3}, {5, 1, 5}, {7, 1, 7}}},
}

// Pairs are barred by A's tile, by B's, by both, or by one and the other in turns.
func TestBorders(t *testing.T) {
	for _, b := range borders {
		for way := range 4 {
			m, built := plainTiles(16, 8), plainTiles(16, 8)
			for y, c := range b.pairs {
				for _, x := range [][]int{{7}, {8}, {7, 8}, {7 + y%2}}[way] {
					if c == '#' {
						m = rock(m, at(x, y))
						built.Built = append(built.Built, api.Building{Id: len(built.Built) + 1, Foot: rect(x, y, 1, 1)})
					}
				}
			}
			holds(t, m, foot, at(0, 0), b.runs...)
			holds(t, built, foot, at(0, 0), b.runs...)
		}
	}
}

// The same borders, of a cluster in the middle: none of what lies about is asked.
func TestBordersInTheMiddle(t *testing.T) {
	for _, b := range borders {
		m := plainTiles(40, 32)
		for y, c := range b.pairs {
			if c == '#' {
				m = rock(m, at(24, 16+y))
			}
		}
		m = rock(m, cells(23, 15, 24, 15, 23, 24, 24, 24, 22, 16, 22, 20, 25, 17, 25, 23)...)
		var want []run
		for _, r := range b.runs {
			want = append(want, run{16 + r.from, r.length, 16 + r.portal})
		}
		holds(t, m, foot, at(2, 2), want...)
	}
}

// A run ends where its border does, though the next cluster's border goes on.
func TestRunsEndWithTheirBorder(t *testing.T) {
	m := plainTiles(24, 27)
	for y, want := range []run{{0, 8, 3}, {8, 8, 11}, {16, 8, 19}, {24, 3, 25}} {
		for x := range 2 {
			holds(t, m, foot, at(x, y), want)
		}
	}
	holds(t, rock(m, at(7, 8)), foot, at(0, 0), run{0, 8, 3})
	holds(t, rock(m, at(7, 8)), foot, at(0, 1), run{9, 7, 12})
	holds(t, rock(m, at(8, 7)), foot, at(0, 0), run{0, 7, 3})
	holds(t, rock(m, at(8, 7)), foot, at(0, 1), run{8, 8, 11})
}

// openRun is a border's run in a world of Plain: of a cluster's k-th row, and the border behind its k-th column.
func openRun(width, height, size, column, row int) []run {
	if 8*column+8+size > width {
		return nil
	}
	n := min(8, height-size+1-8*row)
	if n < 1 {
		return nil
	}
	return []run{{8 * row, n, 8*row + (n-1)/2}}
}

func TestWorldsOfEachSide(t *testing.T) {
	for _, width := range sides {
		for _, height := range sides {
			m := plainTiles(width, height)
			for size := 1; size <= 4; size++ {
				for _, column := range []int{0, 1, 2, 14, 15} {
					for _, row := range []int{0, 1, 2, 15} {
						if 8*column < width && 8*row < height {
							holds(t, m, shape(api.Wheel, size), at(column, row), openRun(width, height, size, column, row)...)
						}
					}
				}
			}
		}
	}
}

func TestWorldsOfEachSideByHand(t *testing.T) {
	for _, side := range []int{1, 7, 8} {
		hasAll(t, open(t, side, side), foot)
		hasNone(t, open(t, side, side), foot, at(0, 0), api.East)
		hasNone(t, open(t, side, side), foot, at(0, 0), api.South)
	}
	hasAll(t, open(t, 9, 1), foot, right(7, 0))
	hasAll(t, open(t, 1, 9), foot, below(0, 7))
	hasAll(t, open(t, 9, 1), shape(api.Foot, 2))
	hasAll(t, open(t, 9, 9), foot, right(7, 3), below(3, 7), below(8, 7), right(7, 8))
	hasAll(t, open(t, 9, 9), shape(api.Foot, 2))
	hasAll(t, open(t, 10, 2), shape(api.Foot, 2), right(7, 0))
	hasAll(t, open(t, 10, 9), shape(api.Foot, 2), right(7, 3))
	hasAll(t, open(t, 12, 7), shape(api.Foot, 4), right(7, 1))
	hasAll(t, open(t, 11, 8), shape(api.Foot, 4))
	hasAll(t, open(t, 16, 15), foot, right(7, 3), below(3, 7), below(11, 7), right(7, 11))
}

func TestTheGreatestWorld(t *testing.T) {
	w := open(t, 128, 128)
	hasBetween(t, w, foot, at(14, 15), api.East, right(119, 123))
	hasBetween(t, w, foot, at(15, 14), api.South, below(123, 119))
	hasBetween(t, w, shape(api.Foot, 4), at(14, 15), api.East, right(119, 122))
	hasRuns(t, w, shape(api.Foot, 4), at(15, 14), api.South, rect(120, 119, 5, 1))
	var want []api.Portal
	for y := range 16 {
		for x := range 15 {
			want = append(want, right(8*x+7, 8*y+3))
		}
		for x := range 16 {
			if y < 15 {
				want = append(want, below(8*x+3, 8*y+7))
			}
		}
	}
	hasAll(t, w, foot, want...)
}

func TestDirections(t *testing.T) {
	w := open(t, 24, 24)
	hasRuns(t, w, foot, at(1, 1), api.East, rect(15, 8, 1, 8))
	hasBetween(t, w, foot, at(1, 1), api.East, right(15, 11))
	hasRuns(t, w, foot, at(1, 1), api.South, rect(8, 15, 8, 1))
	hasBetween(t, w, foot, at(1, 1), api.South, below(11, 15))
	for _, dir := range append([]int{-9, -8, -7, -2, -1, 2, 3, 4, 5, 6, 7, 8, 9, 10, 16, 17, 255, 256, 257, 1 << 16}, ends...) {
		for _, k := range cells(0, 0, 1, 1, 2, 2, 2, 0, 0, 2) {
			hasNone(t, w, foot, k, dir)
		}
	}
}

// The last cluster of a row has no neighbour to the right, but one below, and so on.
func TestTheLastClusters(t *testing.T) {
	for _, side := range []int{17, 23, 24} {
		w := open(t, side, side)
		n := side - 16
		for y := range 3 {
			hasNone(t, w, foot, at(2, y), api.East)
			hasNone(t, w, foot, at(y, 2), api.South)
		}
		hasBetween(t, w, foot, at(2, 1), api.South, below(16+(n-1)/2, 15))
		hasBetween(t, w, foot, at(1, 2), api.East, right(15, 16+(n-1)/2))
		hasRuns(t, w, foot, at(2, 0), api.South, rect(16, 7, n, 1))
		hasRuns(t, w, foot, at(0, 2), api.East, rect(7, 16, 1, n))
	}
}

// A cluster just beyond the world has one of the world's beside it, but no border.
func TestNoClusters(t *testing.T) {
	for _, side := range []int{1, 8, 17, 24} {
		w, last := open(t, side, side), (side+7)/8
		for _, n := range append([]int{-17, -9, -8, -7, -2, -1, last, last + 1, 8, 16, 17}, ends...) {
			for other := -1; other <= last; other++ {
				for _, k := range cells(n, other, other, n, n, n) {
					hasNone(t, w, foot, k, api.East)
					hasNone(t, w, foot, k, api.South)
				}
			}
		}
	}
	w := open(t, 128, 128)
	for _, n := range append([]int{-1, 16, 17, 128}, ends...) {
		for _, k := range cells(n, 0, 0, n, n, n, n, 15, 15, n) {
			hasNone(t, w, foot, k, api.East)
			hasNone(t, w, foot, k, api.South)
		}
	}
}

func TestClasses(t *testing.T) {
	m := tiles(
		"................",
		"wwwwwwwwwwwwwwww",
		"~~~~~~~~~~~~~~~~",
		"################",
		".......~........",
		".......w........",
		"~~~~~~~~.~~~~~~~",
		"wwwwwww.wwwwwwww",
	)
	holds(t, m, shape(api.Foot, 1), at(0, 0), run{0, 2, 0}, run{5, 1, 5}, run{7, 1, 7})
	holds(t, m, shape(api.Wheel, 1), at(0, 0), run{0, 1, 0})
	holds(t, m, shape(api.Boat, 1), at(0, 0), run{2, 1, 2})
	holds(t, m, shape(api.Hover, 1), at(0, 0), run{0, 1, 0}, run{2, 1, 2}, run{4, 1, 4}, run{6, 1, 6})
	holds(t, m, shape(api.Foot, 2), at(0, 0), run{0, 1, 0})
	holds(t, m, shape(api.Hover, 2), at(0, 0))
}

// Each class on worlds of one terrain: all pairs are open, or none.
func TestClassesOnOneTerrain(t *testing.T) {
	on := [][]bool{{true, true, false, false}, {true, false, false, false}, {false, false, true, false}, {true, false, true, false}}
	for class := range on {
		for terrain, carried := range on[class] {
			m := api.Map{W: 24, H: 24, Tiles: slices.Repeat([]byte{byte(terrain)}, 24*24)}
			for size := 1; size <= 4; size++ {
				var want []run
				if carried {
					want = []run{{8, 8, 11}}
				}
				holds(t, m, shape(class, size), at(0, 1), want...)
			}
		}
	}
}

// In open country a greater shape has the world's last rows less, and, if the neighbour is narrow, no place in it.
func TestSizes(t *testing.T) {
	m := plainTiles(16, 16)
	for size, want := range []run{{8, 8, 11}, {8, 7, 11}, {8, 6, 10}, {8, 5, 10}} {
		holds(t, m, shape(api.Hover, size+1), at(0, 1), want)
		holds(t, m, shape(api.Hover, size+1), at(0, 0), run{0, 8, 3})
	}
	for width := 9; width <= 12; width++ {
		for size := 1; size <= 4; size++ {
			var want []run
			if 8+size <= width {
				want = []run{{0, 8, 3}}
			}
			holds(t, plainTiles(width, 16), shape(api.Foot, size), at(0, 0), want...)
		}
	}
}

// One tile beside a border bars those sizes alone that have it.
func TestBesideABorder(t *testing.T) {
	all := run{0, 8, 3}
	for _, c := range []struct {
		x, y   int
		bySize [4][]run
	}{
		{6, 3, [4][]run{{all}, {all}, {all}, {all}}},
		{7, 3, [4][]run{{{0, 3, 1}, {4, 4, 5}}, {{0, 2, 0}, {4, 4, 5}}, {{0, 1, 0}, {4, 4, 5}}, {{4, 4, 5}}}},
		{8, 3, [4][]run{{{0, 3, 1}, {4, 4, 5}}, {{0, 2, 0}, {4, 4, 5}}, {{0, 1, 0}, {4, 4, 5}}, {{4, 4, 5}}}},
		{9, 3, [4][]run{{all}, {{0, 2, 0}, {4, 4, 5}}, {{0, 1, 0}, {4, 4, 5}}, {{4, 4, 5}}}},
		{10, 3, [4][]run{{all}, {all}, {{0, 1, 0}, {4, 4, 5}}, {{4, 4, 5}}}},
		{11, 3, [4][]run{{all}, {all}, {all}, {{4, 4, 5}}}},
		{12, 3, [4][]run{{all}, {all}, {all}, {all}}},
		{11, 7, [4][]run{{all}, {all}, {all}, {{0, 4, 1}}}},
		{8, 8, [4][]run{{all}, {{0, 7, 3}}, {{0, 6, 2}}, {{0, 5, 2}}}},
		{7, 9, [4][]run{{all}, {all}, {{0, 7, 3}}, {{0, 6, 2}}}},
		{10, 10, [4][]run{{all}, {all}, {all}, {{0, 7, 3}}}},
		{10, 11, [4][]run{{all}, {all}, {all}, {all}}},
	} {
		m := rock(plainTiles(24, 16), at(c.x, c.y))
		built := plainTiles(24, 16)
		built.Built = []api.Building{{Id: 5, Foot: rect(c.x, c.y, 1, 1)}}
		for i, want := range c.bySize {
			holds(t, m, shape(api.Foot, i+1), at(0, 0), want...)
			holds(t, built, shape(api.Foot, i+1), at(0, 0), want...)
		}
	}
}

func TestGreatBuildings(t *testing.T) {
	m := plainTiles(24, 24)
	m.Built = []api.Building{{Id: 3, Foot: rect(11, 6, 8, 4)}, {Id: 4, Foot: rect(0, 12, 8, 3)}}
	holds(t, m, shape(api.Foot, 1), at(0, 0), run{0, 8, 3})
	holds(t, m, shape(api.Foot, 4), at(0, 0), run{0, 3, 1})
	holds(t, m, shape(api.Foot, 1), at(0, 1), run{8, 4, 9}, run{15, 1, 15})
	holds(t, m, shape(api.Foot, 3), at(0, 1), run{8, 2, 8}, run{15, 1, 15})
	holds(t, m, shape(api.Foot, 4), at(0, 1), run{15, 1, 15})
	holds(t, m, shape(api.Foot, 1), at(1, 0), run{0, 6, 2})
	holds(t, m, shape(api.Foot, 4), at(1, 1), run{10, 6, 12})
}

func TestNoShapes(t *testing.T) {
	w := open(t, 24, 24)
	for _, s := range noShapes() {
		hasNone(t, w, s, at(0, 0), api.East)
		hasNone(t, w, s, at(1, 1), api.South)
		hasAll(t, w, s)
	}
}

func TestAll(t *testing.T) {
	// The portals of the first row of clusters to the right lie above all that lead down.
	hasAll(t, open(t, 24, 16), foot,
		right(7, 3), right(15, 3), below(3, 7), below(11, 7), below(19, 7), right(7, 11), right(15, 11))
	hasAll(t, open(t, 16, 24), foot,
		right(7, 3), below(3, 7), below(11, 7), right(7, 11), below(3, 15), below(11, 15), right(7, 19))
	hasAll(t, made(t, rock(plainTiles(16, 8), cells(7, 0, 8, 1, 7, 2, 8, 3, 7, 4, 8, 5, 7, 6, 8, 7)...)), foot)
}

// Portals of both kinds may have the same A, the last cell of its cluster: that to the right comes first, as its B lies above the other one's.
func TestAllOfOneA(t *testing.T) {
	m := rock(plainTiles(16, 16), cells(8, 0, 8, 1, 8, 2, 8, 3, 8, 4, 8, 5, 8, 6, 0, 8, 1, 8, 2, 8, 3, 8, 4, 8, 5, 8, 6, 8)...)
	want := []api.Portal{right(7, 7), below(7, 7), below(11, 7), right(7, 11)}
	hasAll(t, made(t, m), foot, want...)
	hasAll(t, made(t, turned(m)), foot, want...)
}

// Two portals may have the same B, too: then their As order them.
func TestAllOfOneB(t *testing.T) {
	m := rock(plainTiles(16, 16), cells(7, 9, 7, 10, 7, 11, 7, 12, 7, 13, 7, 14, 7, 15, 9, 7, 10, 7, 11, 7, 12, 7, 13, 7, 14, 7, 15, 7)...)
	hasAll(t, made(t, m), foot, right(7, 3), below(3, 7), below(8, 7), right(7, 8))
}

// A later cluster's portal comes ahead of an earlier one's where it lies above it, or to its left in the same row.
func TestAllOfLaterClusters(t *testing.T) {
	low := func(m api.Map, x int) api.Map {
		return rock(m, cells(x, 0, x, 1, x, 2, x, 3, x, 4, x, 5, x, 6)...)
	}
	hasAll(t, made(t, low(plainTiles(32, 8), 7)), foot, right(15, 3), right(23, 3), right(7, 7))
	hasAll(t, made(t, low(low(plainTiles(32, 8), 8), 15)), foot, right(23, 3), right(7, 7), right(15, 7))
	// The cluster's own portal below lies in the row of that to the right, and to its left.
	hasAll(t, made(t, low(plainTiles(16, 16), 8)), foot, below(3, 7), right(7, 7), below(11, 7), right(7, 11))
	hasAll(t, made(t, low(plainTiles(24, 16), 8)), foot,
		right(15, 3), below(3, 7), right(7, 7), below(11, 7), below(19, 7), right(7, 11), right(15, 11))
}

func TestEdits(t *testing.T) {
	w := open(t, 16, 16)
	whole := []api.Portal{right(7, 3), below(3, 7), below(11, 7), right(7, 11)}
	hasAll(t, w, foot, whole...)
	place(t, w, 1, rect(6, 3, 2, 1))
	hasAll(t, w, foot, right(7, 1), right(7, 5), below(3, 7), below(11, 7), right(7, 11))
	hasRuns(t, w, foot, at(0, 0), api.East, rect(7, 0, 1, 3), rect(7, 4, 1, 4))
	place(t, w, 2, rect(0, 8, 8, 8))
	hasAll(t, w, foot, right(7, 1), right(7, 5), below(11, 7))
	hasNone(t, w, foot, at(0, 0), api.South)
	hasNone(t, w, foot, at(0, 1), api.East)
	before := w.Copy()
	raze(t, w, 1)
	hasAll(t, w, foot, right(7, 3), below(11, 7))
	hasAll(t, before, foot, right(7, 1), right(7, 5), below(11, 7))
	raze(t, w, 2)
	hasAll(t, w, foot, whole...)
}

func TestNoWorld(t *testing.T) {
	for _, w := range noWorlds() {
		for _, s := range append(shapes(), noShapes()...) {
			hasAll(t, w, s)
			for dir := -1; dir <= 8; dir++ {
				hasNone(t, w, s, at(0, 0), dir)
			}
		}
		for _, n := range append([]int{-8, -1, 0, 1, 8}, ends...) {
			for _, k := range cells(n, 0, 0, n, n, n) {
				for _, dir := range []int{api.East, api.South, n} {
					hasNone(t, w, foot, k, dir)
				}
			}
		}
	}
}

// A world that is asked stays as it is.
func TestTheWorldStays(t *testing.T) {
	w := open(t, 24, 24)
	place(t, w, 9, rect(6, 6, 3, 3))
	was := w.Map()
	for _, s := range shapes() {
		portal.All(w, s)
		portal.Between(w, s, at(0, 0), api.East)
		portal.Runs(w, s, at(0, 0), api.South)
	}
	is := w.Map()
	if !slices.Equal(was.Tiles, is.Tiles) || !slices.Equal(was.Built, is.Built) || w.Epoch() != 1 {
		t.Error("the world was turned")
	}
}

// ownMemory overwrites an answer, with its spare room: another one stays, and a later one is the same.
func ownMemory[E comparable](t *testing.T, what string, other E, ask func() []E) {
	t.Helper()
	first, second := ask(), ask()
	want := slices.Clone(first)
	if len(want) < 2 {
		t.Fatalf("%s = %v", what, want)
	}
	room := first[:cap(first)]
	for i := range room {
		room[i] = other
	}
	if !slices.Equal(second, want) || !slices.Equal(ask(), want) {
		t.Errorf("%s's answers share memory", what)
	}
}

func TestMemory(t *testing.T) {
	w := open(t, 24, 24)
	place(t, w, 1, rect(7, 3, 1, 1))
	place(t, w, 2, rect(8, 6, 1, 1))
	ownMemory(t, "All", right(-5, -5), func() []api.Portal { return portal.All(w, foot) })
	ownMemory(t, "Between", right(-5, -5), func() []api.Portal { return portal.Between(w, foot, at(0, 0), api.East) })
	ownMemory(t, "Runs", rect(-5, -5, -5, -5), func() []api.Rect { return portal.Runs(w, foot, at(0, 0), api.East) })
}
