package class_test

import (
	"math"
	"slices"
	"testing"

	"phalanx/api"
	"phalanx/class"
	"phalanx/grid"
)

const far = api.Far

func at(x, y int) api.Cell { return api.Cell{X: x, Y: y} }

func rect(x, y, w, h int) api.Rect { return api.Rect{At: at(x, y), W: w, H: h} }

func shape(class, size int) api.Shape { return api.Shape{Class: class, Size: size} }

// world is one of rows: . Plain, w Wood, ~ Water, # Rock; a digit is Plain with the building of that Id, one tile each.
func world(t *testing.T, rows ...string) *grid.World {
	t.Helper()
	m := api.Map{W: len(rows[0]), H: len(rows)}
	var built []api.Building
	for y, row := range rows {
		for x, r := range row {
			terrain := byte(api.Plain)
			switch r {
			case 'w':
				terrain = api.Wood
			case '~':
				terrain = api.Water
			case '#':
				terrain = api.Rock
			case '.':
			default:
				built = append(built, api.Building{Id: int(r - '0'), Foot: rect(x, y, 1, 1)})
			}
			m.Tiles = append(m.Tiles, terrain)
		}
	}
	w, code := grid.New(m)
	if code != api.OK {
		t.Fatalf("New: error %d", code)
	}
	for _, b := range built {
		place(t, w, b.Id, b.Foot)
	}
	return w
}

func place(t *testing.T, w *grid.World, id int, foot api.Rect) {
	t.Helper()
	if code := w.Place(api.Building{Id: id, Foot: foot}); code != api.OK {
		t.Fatalf("Place %d at %v: error %d", id, foot, code)
	}
}

// open is a world of one terrain.
func open(t *testing.T, width, height int, terrain byte) *grid.World {
	t.Helper()
	w, code := grid.New(api.Map{W: width, H: height, Tiles: slices.Repeat([]byte{terrain}, width*height)})
	if code != api.OK {
		t.Fatalf("New: error %d", code)
	}
	return w
}

// shapes are all that may be.
func shapes() []api.Shape {
	var l []api.Shape
	for c := range api.Classes {
		for size := 1; size <= 4; size++ {
			l = append(l, shape(c, size))
		}
	}
	return l
}

// noNumbers are numbers that are neither a class nor a terrain.
func noNumbers() []int {
	return []int{math.MinInt, math.MinInt + 1, math.MinInt32, -64, -8, -2, -1, 4, 5, 7, 8, 31, 32, 63, 64, 65, 255, 256, 1 << 32, 1<<32 + 1, 1<<32 + 3, math.MaxInt32, math.MaxInt - 1, math.MaxInt}
}

// noShapes are those that may not be.
func noShapes() []api.Shape {
	l := []api.Shape{{}, shape(-1, 0), shape(4, 5), shape(math.MinInt, math.MinInt), shape(math.MaxInt, math.MaxInt)}
	for _, c := range noNumbers() {
		l = append(l, shape(c, 1), shape(c, 4))
	}
	for c := range api.Classes {
		for _, size := range []int{math.MinInt, math.MinInt32, -4, -1, 0, 5, 6, 8, 128, far, 1 << 32, 1<<32 + 1, math.MaxInt32, math.MaxInt} {
			l = append(l, shape(c, size))
		}
	}
	return l
}

// farCells are cells far from any world, and some that are not near.
func farCells() []api.Cell {
	l := []api.Cell{at(1<<32, 0), at(0, 1<<32), at(1<<32+1, 1<<32+1)}
	numbers := []int{math.MinInt, math.MinInt + 1, -far - 1, -far, far, far + 1, math.MaxInt - 3, math.MaxInt}
	for _, n := range numbers {
		l = append(l, at(n, 0), at(0, n), at(n, n), at(1, n), at(n, 1))
	}
	return l
}

// step is a direction, and the cell to which it leads.
type step struct {
	dir int
	to  api.Cell
}

// around is what Around tells.
func around(w *grid.World, s api.Shape, from api.Cell) []step {
	var l []step
	for dir, to := range class.Around(w, s, from) {
		l = append(l, step{dir, to})
	}
	return l
}

// dirs are the directions that Around tells.
func dirs(w *grid.World, s api.Shape, from api.Cell) []int {
	var l []int
	for dir := range class.Around(w, s, from) {
		l = append(l, dir)
	}
	return l
}

// Cl1: what may be.

func TestMay(t *testing.T) {
	for _, s := range shapes() {
		if !class.May(s) {
			t.Errorf("May(%v) = false", s)
		}
	}
	for _, s := range noShapes() {
		if class.May(s) {
			t.Errorf("May(%v) = true", s)
		}
	}
}

// TestOn asks of every class and terrain.
func TestOn(t *testing.T) {
	want := [api.Classes][api.Terrains]bool{
		api.Foot:  {api.Plain: true, api.Wood: true, api.Water: false, api.Rock: false},
		api.Wheel: {api.Plain: true, api.Wood: false, api.Water: false, api.Rock: false},
		api.Boat:  {api.Plain: false, api.Wood: false, api.Water: true, api.Rock: false},
		api.Hover: {api.Plain: true, api.Wood: false, api.Water: true, api.Rock: false},
	}
	for c := range api.Classes {
		for terrain := range api.Terrains {
			if got := class.On(c, terrain); got != want[c][terrain] {
				t.Errorf("On(%d, %d) = %v", c, terrain, got)
			}
		}
	}
}

func TestOnNone(t *testing.T) {
	for _, n := range noNumbers() {
		for c := range api.Classes {
			if class.On(c, n) {
				t.Errorf("On(%d, %d) of a terrain that is none", c, n)
			}
		}
		for terrain := range api.Terrains {
			if class.On(n, terrain) {
				t.Errorf("On(%d, %d) of a class that is none", n, terrain)
			}
		}
		for _, m := range noNumbers() {
			if class.On(n, m) {
				t.Errorf("On(%d, %d)", n, m)
			}
		}
	}
}

func TestFoot(t *testing.T) {
	for _, c := range []struct {
		s    api.Shape
		at   api.Cell
		want api.Rect
	}{
		{shape(api.Foot, 1), at(0, 0), rect(0, 0, 1, 1)},
		{shape(api.Wheel, 2), at(3, 5), rect(3, 5, 2, 2)},
		{shape(api.Boat, 3), at(-7, 9), rect(-7, 9, 3, 3)},
		{shape(api.Hover, 4), at(127, 127), rect(127, 127, 4, 4)},
		{shape(api.Hover, 4), at(-far, -far), rect(-far, -far, 4, 4)},
		{shape(api.Foot, 1), at(far, far), rect(far, far, 1, 1)},
		{shape(api.Foot, 1), at(far, -far), rect(far, -far, 1, 1)},
		{shape(api.Foot, 4), at(far-3, far-3), rect(far-3, far-3, 4, 4)},
		{shape(api.Foot, 4), at(far-2, 0), api.Rect{}},
		{shape(api.Foot, 4), at(0, far-2), api.Rect{}},
		{shape(api.Foot, 2), at(far, far), api.Rect{}},
		{shape(api.Foot, 2), at(far-1, far), api.Rect{}},
		{shape(api.Foot, 2), at(far-1, far-1), rect(far-1, far-1, 2, 2)},
		{shape(api.Foot, 1), at(far+1, 0), api.Rect{}},
		{shape(api.Foot, 1), at(0, far+1), api.Rect{}},
		{shape(api.Foot, 4), at(-far-1, 0), api.Rect{}},
		{shape(api.Foot, 4), at(0, -far-1), api.Rect{}},
		{shape(api.Foot, 4), at(math.MaxInt, 0), api.Rect{}},
		{shape(api.Foot, 4), at(0, math.MaxInt), api.Rect{}},
		{shape(api.Foot, 4), at(math.MinInt, math.MinInt), api.Rect{}},
	} {
		if got := class.Foot(c.s, c.at); got != c.want {
			t.Errorf("Foot(%v, %v) = %v, want %v", c.s, c.at, got, c.want)
		}
	}
	for _, s := range noShapes() {
		for _, c := range append(farCells(), at(0, 0), at(3, 4), at(-1, -1)) {
			if got := class.Foot(s, c); got != (api.Rect{}) {
				t.Errorf("Foot(%v, %v) of a shape that may not be = %v", s, c, got)
			}
		}
	}
}

// Cl1: where a shape stands.

// TestStandsAtEdges goes with each shape over an open world, and round it.
func TestStandsAtEdges(t *testing.T) {
	for _, s := range shapes() {
		for terrain := range byte(api.Terrains) {
			w := open(t, 7, 5, terrain)
			for y := -6; y < 12; y++ {
				for x := -6; x < 12; x++ {
					inside := x >= 0 && y >= 0 && x+s.Size <= 7 && y+s.Size <= 5
					want := inside && class.On(s.Class, int(terrain))
					if got := class.Stands(w, s, at(x, y)); got != want {
						t.Errorf("Stands(%v, %d, %d) on terrain %d = %v", s, x, y, terrain, got)
					}
				}
			}
		}
	}
}

func TestStandsInSmallWorlds(t *testing.T) {
	for side := 1; side <= 4; side++ {
		w := open(t, side, side, api.Plain)
		for size := 1; size <= 4; size++ {
			if got := class.Stands(w, shape(api.Foot, size), at(0, 0)); got != (size <= side) {
				t.Errorf("Stands of size %d in a world of side %d = %v", size, side, got)
			}
		}
	}
	great := open(t, 128, 128, api.Water)
	for size := 1; size <= 4; size++ {
		s := shape(api.Boat, size)
		if end := 128 - size; !class.Stands(great, s, at(end, end)) || class.Stands(great, s, at(end+1, end)) || class.Stands(great, s, at(end, end+1)) {
			t.Errorf("Stands of size %d at the end of a world of side 128", size)
		}
	}
}

// TestStandsWrongTile turns one tile of an open world: it stands just where its footprint has not that one.
func TestStandsWrongTile(t *testing.T) {
	for _, s := range shapes() {
		for right := range byte(api.Terrains) {
			for turned := range byte(api.Terrains) {
				if !class.On(s.Class, int(right)) {
					continue
				}
				m := open(t, 9, 9, right).Map()
				m.Tiles[4*9+4] = turned
				w, _ := grid.New(m)
				for y := range 9 - s.Size + 1 {
					for x := range 9 - s.Size + 1 {
						has := x <= 4 && 4 < x+s.Size && y <= 4 && 4 < y+s.Size
						want := !has || class.On(s.Class, int(turned))
						if got := class.Stands(w, s, at(x, y)); got != want {
							t.Errorf("Stands(%v, %d, %d) with %d at 4, 4 of %d = %v", s, x, y, turned, right, got)
						}
					}
				}
			}
		}
	}
}

// TestStandsByBuilding goes round a building, that stands, and is razed.
func TestStandsByBuilding(t *testing.T) {
	for _, s := range shapes() {
		terrain := byte(api.Plain)
		if s.Class == api.Boat {
			terrain = api.Water
		}
		w := open(t, 12, 12, terrain)
		place(t, w, 5, rect(5, 4, 2, 3))
		for _, there := range []bool{true, false} {
			for y := range 12 - s.Size + 1 {
				for x := range 12 - s.Size + 1 {
					meets := x < 7 && 5 < x+s.Size && y < 7 && 4 < y+s.Size
					if got := class.Stands(w, s, at(x, y)); got != (!meets || !there) {
						t.Errorf("Stands(%v, %d, %d) = %v, with a building %v", s, x, y, got, there)
					}
				}
			}
			w.Raze(5)
		}
	}
}

func TestStandsNowhere(t *testing.T) {
	w := open(t, 6, 6, api.Plain)
	for _, s := range noShapes() {
		for _, c := range append(farCells(), at(0, 0), at(2, 2), at(-1, 0)) {
			refuses(t, w, s, c)
		}
	}
	for _, s := range shapes() {
		for _, c := range append(farCells(), at(-1, 0), at(0, -1), at(6, 0), at(0, 6), at(6, 6), at(-1, -1)) {
			refuses(t, w, s, c)
		}
	}
}

// refuses asks that a shape does not stand at a cell, so that nothing is legal from there.
func refuses(t *testing.T, w *grid.World, s api.Shape, c api.Cell) {
	t.Helper()
	if class.Stands(w, s, c) {
		t.Errorf("Stands(%v, %v) = true", s, c)
	}
	for dir := -1; dir <= api.Directions; dir++ {
		if class.Steps(w, s, c, dir) {
			t.Errorf("Steps(%v, %v, %d) = true", s, c, dir)
		}
	}
	for _, path := range [][]api.Cell{nil, {}, {c}, {at(c.X+1, c.Y)}, {at(c.X, c.Y+1), c}, {at(1, 1)}} {
		if class.Legal(w, s, c, path) {
			t.Errorf("Legal(%v, %v, %v) = true", s, c, path)
		}
	}
	if l := around(w, s, c); len(l) != 0 {
		t.Errorf("Around(%v, %v) = %v", s, c, l)
	}
}

// A World that nobody made.
func TestNotMade(t *testing.T) {
	var zero grid.World
	for name, w := range map[string]*grid.World{"nil": nil, "zero": &zero, "new": new(grid.World)} {
		t.Run(name, func(t *testing.T) {
			for _, s := range append(shapes(), noShapes()...) {
				for _, c := range append(farCells(), at(0, 0), at(1, 1), at(-1, -1)) {
					refuses(t, w, s, c)
				}
			}
		})
	}
}

// Cl1: steps.

func TestStepsOpen(t *testing.T) {
	w := open(t, 9, 9, api.Plain)
	for size := 1; size <= 4; size++ {
		for dir := range api.Directions {
			if !class.Steps(w, shape(api.Hover, size), at(3, 3), dir) {
				t.Errorf("Steps of size %d by %d = false", size, dir)
			}
		}
	}
}

func TestStepsNoDirection(t *testing.T) {
	w := open(t, 9, 9, api.Plain)
	for _, dir := range []int{math.MinInt, math.MinInt + 1, math.MinInt32, -8, -2, -1, 8, 9, 16, 255, 256, 1 << 32, 1<<32 + 4, math.MaxInt32, math.MaxInt} {
		for _, c := range []api.Cell{at(3, 3), at(0, 0), at(8, 8), at(9, 9)} {
			if class.Steps(w, shape(api.Foot, 1), c, dir) {
				t.Errorf("Steps from %v by %d = true", c, dir)
			}
		}
	}
}

// TestStepsToSides: each side's cell alone is asked, beside the one from which it goes.
func TestStepsToSides(t *testing.T) {
	one := shape(api.Foot, 1)
	w := world(t,
		"###",
		"..#",
		"#.#")
	for c, want := range map[api.Cell][]int{
		at(1, 1): {api.South, api.West},
		at(0, 1): {api.East},
		at(1, 2): {api.North},
		at(2, 1): nil,
		at(0, 0): nil,
	} {
		if got := dirs(w, one, c); !slices.Equal(got, want) {
			t.Errorf("legal from %v: %v, want %v", c, got, want)
		}
		for dir := range api.Directions {
			if got := class.Steps(w, one, c, dir); got != slices.Contains(want, dir) {
				t.Errorf("Steps from %v by %d = %v", c, dir, got)
			}
		}
	}
}

// TestStepsFromWrongCell: where all is free but the cell itself.
func TestStepsFromWrongCell(t *testing.T) {
	for name, w := range map[string]*grid.World{
		"terrain":  world(t, "...", ".#.", "..."),
		"building": world(t, "...", ".7.", "..."),
	} {
		t.Run(name, func(t *testing.T) { refuses(t, w, shape(api.Foot, 1), at(1, 1)) })
	}
}

// corner is a step over one, where it leads to, and the two cells beside it.
type corner struct {
	dir    int
	to     api.Cell
	beside [2]api.Cell
}

// corners are those of 1, 1.
func corners() []corner {
	return []corner{
		{api.SouthEast, at(2, 2), [2]api.Cell{at(2, 1), at(1, 2)}},
		{api.SouthWest, at(0, 2), [2]api.Cell{at(0, 1), at(1, 2)}},
		{api.NorthWest, at(0, 0), [2]api.Cell{at(0, 1), at(1, 0)}},
		{api.NorthEast, at(2, 0), [2]api.Cell{at(2, 1), at(1, 0)}},
	}
}

// TestStepsOverCorner: with neither, one and both of the sides free, of terrain and of buildings, and the goal free or not.
func TestStepsOverCorner(t *testing.T) {
	one := shape(api.Foot, 1)
	for _, c := range corners() {
		for bits := range 8 {
			m := open(t, 3, 3, api.Plain).Map()
			built, _ := grid.New(m)
			for i, turned := range []api.Cell{c.beside[0], c.beside[1], c.to} {
				if bits>>i&1 == 1 {
					m.Tiles[turned.Y*3+turned.X] = api.Rock
					place(t, built, i+1, rect(turned.X, turned.Y, 1, 1))
				}
			}
			rocky, _ := grid.New(m)
			for _, w := range []*grid.World{rocky, built} {
				if got := class.Steps(w, one, at(1, 1), c.dir); got != (bits == 0) {
					t.Errorf("Steps by %d with %03b taken = %v", c.dir, bits, got)
				}
				if got := class.Legal(w, one, at(1, 1), []api.Cell{c.to}); got != (bits == 0) {
					t.Errorf("Legal to %v with %03b taken = %v", c.to, bits, got)
				}
				if got := slices.Contains(dirs(w, one, at(1, 1)), c.dir); got != (bits == 0) {
					t.Errorf("Around tells %d with %03b taken: %v", c.dir, bits, got)
				}
			}
		}
	}
}

// TestStepsAtEdges: of a great one, at the world's corners.
func TestStepsAtEdges(t *testing.T) {
	w := open(t, 6, 5, api.Water)
	for _, c := range []struct {
		size int
		at   api.Cell
		want []int
	}{
		{1, at(0, 0), []int{api.East, api.South, api.SouthEast}},
		{1, at(5, 0), []int{api.South, api.West, api.SouthWest}},
		{1, at(5, 4), []int{api.West, api.North, api.NorthWest}},
		{1, at(0, 4), []int{api.East, api.North, api.NorthEast}},
		{1, at(3, 0), []int{api.East, api.South, api.West, api.SouthEast, api.SouthWest}},
		{1, at(2, 2), []int{0, 1, 2, 3, 4, 5, 6, 7}},
		{4, at(0, 0), []int{api.East, api.South, api.SouthEast}},
		{4, at(2, 1), []int{api.West, api.North, api.NorthWest}},
		{4, at(1, 0), []int{api.East, api.South, api.West, api.SouthEast, api.SouthWest}},
		{3, at(1, 1), []int{0, 1, 2, 3, 4, 5, 6, 7}},
		{4, at(3, 1), nil},
		{4, at(0, 2), nil},
	} {
		s := shape(api.Boat, c.size)
		if got := dirs(w, s, c.at); !slices.Equal(got, c.want) {
			t.Errorf("legal for size %d from %v: %v, want %v", c.size, c.at, got, c.want)
		}
		for dir := range api.Directions {
			if got := class.Steps(w, s, c.at, dir); got != slices.Contains(c.want, dir) {
				t.Errorf("Steps for size %d from %v by %d = %v", c.size, c.at, dir, got)
			}
		}
	}
}

// Cl1: paths.

func TestLegal(t *testing.T) {
	w := world(t,
		".....",
		".#...",
		"...8.",
		".....")
	one, two := shape(api.Foot, 1), shape(api.Wheel, 2)
	for _, c := range []struct {
		why  string
		s    api.Shape
		from api.Cell
		path []api.Cell
		want bool
	}{
		{"empty, where it stands", one, at(0, 0), nil, true},
		{"empty, of no length", one, at(0, 0), []api.Cell{}, true},
		{"empty, on rock", one, at(1, 1), nil, false},
		{"empty, on a building", one, at(3, 2), nil, false},
		{"empty, outside", one, at(-1, 0), nil, false},
		{"empty, a great one that fits", two, at(1, 2), nil, true},
		{"empty, a great one that does not", two, at(2, 2), nil, false},
		{"a step", one, at(0, 0), []api.Cell{at(1, 0)}, true},
		{"over a corner", one, at(3, 0), []api.Cell{at(2, 1)}, true},
		{"round the rock", one, at(0, 0), []api.Cell{at(0, 1), at(0, 2), at(1, 2), at(2, 2), at(2, 1), at(2, 0), at(1, 0), at(0, 0)}, true},
		{"there and back", one, at(0, 0), []api.Cell{at(1, 0), at(0, 0), at(1, 0), at(0, 0)}, true},
		{"onto rock", one, at(0, 0), []api.Cell{at(1, 0), at(1, 1)}, false},
		{"over rock's corner", one, at(0, 0), []api.Cell{at(1, 0), at(0, 1)}, false},
		{"onto a building", one, at(4, 2), []api.Cell{at(3, 2)}, false},
		{"over a building's corner", one, at(4, 2), []api.Cell{at(4, 3), at(3, 3), at(2, 2)}, false},
		{"outside", one, at(0, 0), []api.Cell{at(0, -1)}, false},
		{"outside, and back", one, at(0, 0), []api.Cell{at(-1, 0), at(0, 0)}, false},
		{"from outside", one, at(-1, 0), []api.Cell{at(0, 0), at(1, 0)}, false},
		{"from rock", one, at(1, 1), []api.Cell{at(1, 0), at(2, 0)}, false},
		{"from a building", one, at(3, 2), []api.Cell{at(4, 2)}, false},
		{"two cells far", one, at(0, 0), []api.Cell{at(2, 0)}, false},
		{"two cells far, later", one, at(0, 0), []api.Cell{at(1, 0), at(2, 0), at(4, 0)}, false},
		{"a cell twice, first", one, at(0, 0), []api.Cell{at(0, 0)}, false},
		{"a cell twice", one, at(0, 0), []api.Cell{at(1, 0), at(1, 0)}, false},
		{"a cell twice, later", one, at(0, 0), []api.Cell{at(1, 0), at(2, 0), at(2, 0), at(3, 0)}, false},
		{"the last step is none", one, at(0, 0), []api.Cell{at(1, 0), at(2, 0), at(3, 2)}, false},
		{"the first step is none", one, at(0, 0), []api.Cell{at(3, 0), at(4, 0)}, false},
		{"far away", one, at(0, 0), []api.Cell{at(math.MaxInt, math.MinInt)}, false},
		{"a great one", two, at(2, 0), []api.Cell{at(3, 0)}, true},
		{"a great one onto rock", two, at(2, 0), []api.Cell{at(1, 0)}, false},
		{"a great one onto a building", two, at(2, 0), []api.Cell{at(2, 1)}, false},
		{"a great one outside", two, at(3, 0), []api.Cell{at(4, 0)}, false},
		{"of no shape", shape(api.Foot, 0), at(0, 0), []api.Cell{at(1, 0)}, false},
		{"of no shape, empty", shape(api.Foot, 5), at(0, 0), nil, false},
		{"of a class that stands elsewhere", shape(api.Boat, 1), at(0, 0), nil, false},
	} {
		if got := class.Legal(w, c.s, c.from, c.path); got != c.want {
			t.Errorf("%s: Legal(%v, %v, %v) = %v", c.why, c.s, c.from, c.path, got)
		}
	}
}

// TestLegalLong: to be legal, a path may be longer than one that has a cost.
func TestLegalLong(t *testing.T) {
	w := open(t, 2, 1, api.Plain)
	path := toAndFro(api.MaxPath+1, at(1, 0), at(0, 0))
	if !class.Legal(w, shape(api.Foot, 1), at(0, 0), path) {
		t.Error("Legal of a long path = false")
	}
	path[len(path)-1] = path[len(path)-2]
	if class.Legal(w, shape(api.Foot, 1), at(0, 0), path) {
		t.Error("Legal of a long path with a cell twice = true")
	}
}

// toAndFro are n cells, by turns a and b.
func toAndFro(n int, a, b api.Cell) []api.Cell {
	return slices.Repeat([]api.Cell{a, b}, n/2+1)[:n]
}

// TestPathStays: what is handed in, and what lies behind its end, is not changed.
func TestPathStays(t *testing.T) {
	w := open(t, 4, 4, api.Plain)
	all := []api.Cell{at(1, 0), at(2, 1), at(2, 2), at(77, 77), at(78, 78)}
	old := slices.Clone(all)
	class.Legal(w, shape(api.Foot, 1), at(0, 0), all[:3])
	class.Cost(at(0, 0), all[:3])
	if !slices.Equal(all, old) {
		t.Errorf("the path was turned: %v", all)
	}
}

// Cl2: costs.

func TestCost(t *testing.T) {
	for _, c := range []struct {
		from api.Cell
		path []api.Cell
		want int
	}{
		{at(0, 0), nil, 0},
		{at(0, 0), []api.Cell{}, 0},
		{at(5, 5), []api.Cell{at(6, 5)}, 10},
		{at(5, 5), []api.Cell{at(5, 6)}, 10},
		{at(5, 5), []api.Cell{at(4, 5)}, 10},
		{at(5, 5), []api.Cell{at(5, 4)}, 10},
		{at(5, 5), []api.Cell{at(6, 6)}, 14},
		{at(5, 5), []api.Cell{at(4, 6)}, 14},
		{at(5, 5), []api.Cell{at(4, 4)}, 14},
		{at(5, 5), []api.Cell{at(6, 4)}, 14},
		{at(5, 5), []api.Cell{at(6, 5), at(7, 6), at(7, 7), at(6, 6), at(5, 5)}, 62},
		{at(-1, -1), []api.Cell{at(-2, -2), at(-2, -3)}, 24},
		{at(far-1, far-1), []api.Cell{at(far, far), at(far, far-1)}, 24},
		{at(-far, -far), []api.Cell{at(1-far, 1-far), at(-far, 1-far)}, 24},
		{at(5, 5), []api.Cell{at(5, 5)}, -1},
		{at(5, 5), []api.Cell{at(7, 5)}, -1},
		{at(5, 5), []api.Cell{at(6, 7)}, -1},
		{at(5, 5), []api.Cell{at(6, 5), at(6, 5)}, -1},
		{at(5, 5), []api.Cell{at(6, 5), at(8, 5), at(9, 5)}, -1},
		{at(5, 5), []api.Cell{at(6, 5), at(7, 5), at(9, 5)}, -1},
		{at(5, 5), []api.Cell{at(7, 5), at(8, 5)}, -1},
		{at(far, far), []api.Cell{at(far+1, far)}, -1},
		{at(far+1, far), []api.Cell{at(far, far)}, -1},
		{at(far+1, far), []api.Cell{at(far+2, far)}, -1},
		{at(-far, 0), []api.Cell{at(-far-1, 0)}, -1},
		{at(math.MaxInt, 0), []api.Cell{at(math.MinInt, 0)}, -1},
		{at(0, math.MinInt), []api.Cell{at(0, math.MaxInt)}, -1},
		{at(0, math.MaxInt), []api.Cell{at(0, math.MaxInt-1)}, -1},
		{at(0, 0), []api.Cell{at(1<<32+1, 0)}, -1},
	} {
		if got := class.Cost(c.from, c.path); got != c.want {
			t.Errorf("Cost(%v, %v) = %d, want %d", c.from, c.path, got, c.want)
		}
	}
	// The empty path has no step that might be none, wherever it is.
	for _, c := range farCells() {
		if got := class.Cost(c, nil); got != 0 {
			t.Errorf("Cost(%v, nil) = %d", c, got)
		}
	}
}

func TestCostMaxPath(t *testing.T) {
	for n, want := range map[int]int{
		api.MaxPath - 1: 14 * (api.MaxPath - 1),
		api.MaxPath:     14 * api.MaxPath,
		api.MaxPath + 1: -1,
		2 * api.MaxPath: -1,
	} {
		if got := class.Cost(at(3, 3), toAndFro(n, at(4, 2), at(3, 3))); got != want {
			t.Errorf("Cost of %d steps over a corner = %d, want %d", n, got, want)
		}
	}
	straight := toAndFro(api.MaxPath, at(3, 2), at(3, 3))
	if got := class.Cost(at(3, 3), straight); got != 10*api.MaxPath {
		t.Errorf("Cost of MaxPath steps = %d", got)
	}
	straight[api.MaxPath-1] = straight[api.MaxPath-2]
	if got := class.Cost(at(3, 3), straight); got != -1 {
		t.Errorf("Cost of MaxPath cells, the last of which is no step = %d", got)
	}
}

// Cl2: Around.

func TestAround(t *testing.T) {
	w := world(t,
		".....",
		"..#..",
		".....",
		"~~...")
	one := shape(api.Foot, 1)
	for c, want := range map[api.Cell][]step{
		at(1, 1): {{api.South, at(1, 2)}, {api.West, at(0, 1)}, {api.North, at(1, 0)}, {api.SouthWest, at(0, 2)}, {api.NorthWest, at(0, 0)}},
		at(1, 0): {{api.East, at(2, 0)}, {api.South, at(1, 1)}, {api.West, at(0, 0)}, {api.SouthWest, at(0, 1)}},
		at(3, 1): {{api.East, at(4, 1)}, {api.South, at(3, 2)}, {api.North, at(3, 0)}, {api.SouthEast, at(4, 2)}, {api.NorthEast, at(4, 0)}},
		at(3, 2): {{api.East, at(4, 2)}, {api.South, at(3, 3)}, {api.West, at(2, 2)}, {api.North, at(3, 1)}, {api.SouthEast, at(4, 3)}, {api.SouthWest, at(2, 3)}, {api.NorthEast, at(4, 1)}},
		at(2, 1): nil,
		at(0, 3): nil,
	} {
		if got := around(w, one, c); !slices.Equal(got, want) {
			t.Errorf("Around(%v) = %v, want %v", c, got, want)
		}
	}
	two := shape(api.Hover, 2)
	if got, want := around(w, two, at(3, 1)), []step{{api.South, at(3, 2)}, {api.North, at(3, 0)}}; !slices.Equal(got, want) {
		t.Errorf("Around of a great one = %v, want %v", got, want)
	}
	if got := around(world(t, "#####", "##.##", "#####"), one, at(2, 1)); len(got) != 0 {
		t.Errorf("Around where it can't go anywhere = %v", got)
	}
	if got := around(open(t, 1, 1, api.Plain), one, at(0, 0)); len(got) != 0 {
		t.Errorf("Around in a world of one tile = %v", got)
	}
}

func TestAroundLeftEarly(t *testing.T) {
	w := open(t, 5, 5, api.Plain)
	one := shape(api.Wheel, 1)
	want := around(w, one, at(2, 2))
	if len(want) != api.Directions {
		t.Fatalf("Around = %v", want)
	}
	seq := class.Around(w, one, at(2, 2))
	for n := range want {
		var got []step
		for dir, to := range seq {
			got = append(got, step{dir, to})
			if len(got) == n+1 {
				break
			}
		}
		if !slices.Equal(got, want[:n+1]) {
			t.Errorf("the first %d: %v", n+1, got)
		}
	}
	// A loop tells what was legal when it began, not when Around was called.
	place(t, w, 1, rect(3, 2, 1, 1))
	var later []int
	for dir := range seq {
		later = append(later, dir)
	}
	if !slices.Equal(later, []int{api.South, api.West, api.North, api.SouthWest, api.NorthWest}) {
		t.Errorf("a loop that begins later: %v", later)
	}
}

// TestAroundEdited edits the world in the loop, which goes on through what was legal.
func TestAroundEdited(t *testing.T) {
	w := open(t, 5, 5, api.Plain)
	one := shape(api.Foot, 1)
	want := around(w, one, at(2, 2))
	var got []step
	for dir, to := range class.Around(w, one, at(2, 2)) {
		got = append(got, step{dir, to})
		if dir == api.East {
			place(t, w, 1, rect(1, 1, 3, 3))
		}
	}
	if !slices.Equal(got, want) {
		t.Errorf("gone through: %v", got)
	}
	if l := around(w, one, at(2, 2)); len(l) != 0 {
		t.Errorf("behind the edit: %v", l)
	}
}

// TestAroundInAround: a loop in a loop of the same function leaves the outer one as it is.
func TestAroundInAround(t *testing.T) {
	w := open(t, 3, 3, api.Plain)
	seq := class.Around(w, shape(api.Foot, 1), at(1, 1))
	n := 0
	for range seq {
		for range seq {
			n++
		}
	}
	if n != 64 {
		t.Errorf("%d steps, want 64", n)
	}
}

// The definitions, held against a world of no pattern.

// plain is a world as its map says it, and nothing else.
type plain struct{ m api.Map }

// carries tells whether a class stands on a tile.
func (p plain) carries(c int, tile api.Cell) bool {
	if tile.X < 0 || tile.Y < 0 || tile.X >= p.m.W || tile.Y >= p.m.H {
		return false
	}
	for _, b := range p.m.Built {
		if b.Foot.At.X <= tile.X && tile.X < b.Foot.At.X+b.Foot.W && b.Foot.At.Y <= tile.Y && tile.Y < b.Foot.At.Y+b.Foot.H {
			return false
		}
	}
	terrain := p.m.Tiles[tile.Y*p.m.W+tile.X]
	switch c {
	case api.Foot:
		return terrain == api.Plain || terrain == api.Wood
	case api.Wheel:
		return terrain == api.Plain
	case api.Boat:
		return terrain == api.Water
	default:
		return terrain == api.Plain || terrain == api.Water
	}
}

func (p plain) stands(s api.Shape, c api.Cell) bool {
	for y := range s.Size {
		for x := range s.Size {
			if !p.carries(s.Class, at(c.X+x, c.Y+y)) {
				return false
			}
		}
	}
	return true
}

// moves is how X and Y turn by each direction.
var moves = [8][2]int{{1, 0}, {0, 1}, {-1, 0}, {0, -1}, {1, 1}, {-1, 1}, {-1, -1}, {1, -1}}

func (p plain) steps(s api.Shape, from api.Cell, dir int) bool {
	x, y := moves[dir][0], moves[dir][1]
	// Of a step to a side both sides are its beginning or its end.
	return p.stands(s, from) && p.stands(s, at(from.X+x, from.Y+y)) && p.stands(s, at(from.X+x, from.Y)) && p.stands(s, at(from.X, from.Y+y))
}

// dice are numbers of no pattern, the same each time.
type dice uint64

// to is a number of 0 to n - 1.
func (d *dice) to(n int) int {
	*d = *d*6364136223846793005 + 1442695040888963407
	return int(uint64(*d)>>33) % n
}

// world is one with patches of terrain and a few buildings.
func (d *dice) world(t *testing.T) *grid.World {
	t.Helper()
	m := api.Map{W: 3 + d.to(12), H: 3 + d.to(12)}
	usual := []byte{api.Plain, api.Plain, api.Water, api.Wood}[d.to(4)]
	m.Tiles = slices.Repeat([]byte{usual}, m.W*m.H)
	for range d.to(m.W * m.H / 4) {
		m.Tiles[d.to(len(m.Tiles))] = byte(d.to(api.Terrains))
	}
	w, code := grid.New(m)
	if code != api.OK {
		t.Fatalf("New: error %d", code)
	}
	for id := range d.to(4) {
		w.Place(d.building(w, id+1))
	}
	return w
}

// building is one that may be placed in a world, or not.
func (d *dice) building(w *grid.World, id int) api.Building {
	return api.Building{Id: id, Foot: rect(d.to(w.All().W), d.to(w.All().H), 1+d.to(2), 1+d.to(2))}
}

// places are a world's cells, and those round it.
func places(w *grid.World) []api.Cell {
	var l []api.Cell
	for y := -2; y < w.All().H+2; y++ {
		for x := -2; x < w.All().W+2; x++ {
			l = append(l, at(x, y))
		}
	}
	return l
}

func TestModel(t *testing.T) {
	d := dice(1)
	legal, illegal := 0, 0
	for range 40 {
		w := d.world(t)
		p := plain{w.Map()}
		for _, s := range shapes() {
			for _, c := range places(w) {
				if got := class.Stands(w, s, c); got != p.stands(s, c) {
					t.Fatalf("Stands(%v, %v) = %v in %v", s, c, got, p.m)
				}
				var want []step
				for dir := range api.Directions {
					ok := p.steps(s, c, dir)
					if got := class.Steps(w, s, c, dir); got != ok {
						t.Fatalf("Steps(%v, %v, %d) = %v in %v", s, c, dir, got, p.m)
					}
					if ok {
						want = append(want, step{dir, at(c.X+moves[dir][0], c.Y+moves[dir][1])})
						legal++
					} else {
						illegal++
					}
				}
				if got := around(w, s, c); !slices.Equal(got, want) {
					t.Fatalf("Around(%v, %v) = %v, want %v in %v", s, c, got, want, p.m)
				}
			}
		}
	}
	if legal < 10000 || illegal < 10000 {
		t.Errorf("%d legal steps and %d others: too few", legal, illegal)
	}
}

// TestWalks goes by steps of no pattern, and holds Legal and Cost against the steps one by one.
func TestWalks(t *testing.T) {
	d := dice(2)
	seen := [2]int{}
	for range 60 {
		w := d.world(t)
		p := plain{w.Map()}
		for range 60 {
			s := shape(d.to(api.Classes), 1+d.to(2))
			from := at(d.to(w.All().W), d.to(w.All().H))
			legal, cost, last := p.stands(s, from), 0, from
			var path []api.Cell
			for range d.to(6) {
				dir := d.to(api.Directions)
				legal = legal && p.steps(s, last, dir)
				cost += 10 + dir/4*4
				last = at(last.X+moves[dir][0], last.Y+moves[dir][1])
				path = append(path, last)
			}
			if got := class.Legal(w, s, from, path); got != legal {
				t.Fatalf("Legal(%v, %v, %v) = %v in %v", s, from, path, got, p.m)
			}
			if got := class.Cost(from, path); got != cost {
				t.Fatalf("Cost(%v, %v) = %d, want %d", from, path, got, cost)
			}
			if legal && len(path) > 2 {
				seen[0]++
			} else if !legal {
				seen[1]++
			}
		}
	}
	if seen[0] < 50 || seen[1] < 50 {
		t.Errorf("%d long legal paths and %d others: too few", seen[0], seen[1])
	}
}

// Cl3: what follows.

// TestGoneBack: from where a legal step leads, the one back is legal, and leads to where it began.
func TestGoneBack(t *testing.T) {
	d := dice(3)
	for range 25 {
		w := d.world(t)
		for _, s := range shapes() {
			for _, c := range places(w) {
				for dir, to := range class.Around(w, s, c) {
					back := dir&4 | (dir+2)&3
					if !class.Steps(w, s, to, back) || !class.Legal(w, s, c, []api.Cell{to, c}) || !slices.Contains(around(w, s, to), step{back, c}) {
						t.Fatalf("%v: the step from %v by %d can't be gone back in %v", s, c, dir, w.Map())
					}
				}
			}
		}
	}
}

// TestSmallerStands: where a shape stands, and steps, a smaller one of its class does.
func TestSmallerStands(t *testing.T) {
	d := dice(4)
	for range 25 {
		w := d.world(t)
		for _, s := range shapes() {
			for _, c := range places(w) {
				for size := 1; size < s.Size; size++ {
					small := shape(s.Class, size)
					if class.Stands(w, s, c) && !class.Stands(w, small, c) {
						t.Fatalf("%v stands at %v, and size %d does not, in %v", s, c, size, w.Map())
					}
					for dir := range class.Around(w, s, c) {
						if !class.Steps(w, small, c, dir) {
							t.Fatalf("%v steps from %v by %d, and size %d does not, in %v", s, c, dir, size, w.Map())
						}
					}
				}
			}
		}
	}
}

// TestBuildingMakesLess: behind a building that is placed nothing is legal that was not; and razed, all is as it was.
func TestBuildingMakesLess(t *testing.T) {
	d := dice(5)
	less := 0
	for range 60 {
		w := d.world(t)
		old := w.Copy()
		if w.Place(d.building(w, 50)) != api.OK {
			continue
		}
		razed := w.Copy()
		razed.Raze(50)
		for _, s := range shapes() {
			for _, c := range places(w) {
				if class.Stands(w, s, c) && !class.Stands(old, s, c) {
					t.Fatalf("%v stands at %v behind the building alone, in %v", s, c, w.Map())
				}
				was, is := around(old, s, c), around(w, s, c)
				for _, next := range is {
					if !slices.Contains(was, next) {
						t.Fatalf("%v steps from %v to %v behind the building alone, in %v", s, c, next, w.Map())
					}
				}
				less += len(was) - len(is)
				if got := around(razed, s, c); !slices.Equal(got, was) {
					t.Fatalf("%v from %v behind Raze: %v, want %v", s, c, got, was)
				}
			}
		}
	}
	if less < 1000 {
		t.Errorf("buildings made just %d steps less", less)
	}
}

// TestExamples: the chapter's.
func TestExamples(t *testing.T) {
	two := shape(api.Foot, 2)
	if got := class.Foot(two, at(0, 0)); got != rect(0, 0, 2, 2) {
		t.Errorf("Foot = %v", got)
	}
	for _, c := range []struct {
		rows []string
		want bool
	}{
		{[]string{"....", "....", "....", "...."}, true},
		{[]string{"####", "#...", "#...", "#..."}, true},
		{[]string{"....", "...#", "....", "...."}, false}, // it does not stand at 2, 1
		{[]string{"....", "....", "....", ".#.."}, false}, // it does not stand at 1, 2
		{[]string{"....", "...#", "....", ".#.."}, false},
		{[]string{"....", "....", "....", "...#"}, false}, // it does not stand at 2, 2
		{[]string{"....", ".#..", "....", "...."}, false}, // it does not stand at 1, 1
	} {
		if got := class.Steps(world(t, c.rows...), two, at(1, 1), api.SouthEast); got != c.want {
			t.Errorf("Steps in %v = %v", c.rows, got)
		}
	}
	for tile := range 4 {
		m := open(t, 2, 2, api.Wood).Map()
		m.Tiles[tile] = api.Water
		w, _ := grid.New(m)
		if class.Stands(w, two, at(0, 0)) || !class.Stands(open(t, 2, 2, api.Wood), two, at(0, 0)) {
			t.Errorf("Stands with water at tile %d", tile)
		}
	}
}
