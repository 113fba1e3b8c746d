package cell_test

import (
	"iter"
	"math"
	"slices"
	"testing"

	"phalanx/api"
	"phalanx/cell"
)

const far = api.Far

func at(x, y int) api.Cell { return api.Cell{X: x, Y: y} }

func rect(x, y, w, h int) api.Rect { return api.Rect{At: at(x, y), W: w, H: h} }

// leads is where each direction leads to, by hand, in the chapter's order.
var leads = []api.Cell{{X: 1}, {Y: 1}, {X: -1}, {Y: -1}, {X: 1, Y: 1}, {X: -1, Y: 1}, {X: -1, Y: -1}, {X: 1, Y: -1}}

// noDirections are numbers that no direction has.
var noDirections = []int{-1, -2, -8, 8, 9, 12, 16, 256, math.MaxInt, math.MinInt, math.MinInt + 4, math.MaxInt32, math.MinInt32}

// farCells are cells that are not near.
var farCells = []api.Cell{
	at(far+1, 0), at(-far-1, 0), at(0, far+1), at(0, -far-1), at(far+1, far+1), at(-far-1, -far-1), at(far, far+1), at(-far-1, far),
	at(math.MaxInt, 0), at(math.MinInt, 0), at(0, math.MaxInt), at(0, math.MinInt),
	at(math.MaxInt, math.MaxInt), at(math.MinInt, math.MinInt), at(math.MinInt, math.MaxInt), at(1<<32, 0), at(0, 1<<32), at(1<<32, 1<<32),
}

// nearCells are cells in the middle, at the edges and at the corners of all that is near.
func nearCells() []api.Cell {
	var l []api.Cell
	for _, y := range []int{-far, -far + 1, -7, -1, 0, 1, 4, far - 1, far} {
		for _, x := range []int{-far, -far + 1, -9, -1, 0, 1, 5, far - 1, far} {
			l = append(l, at(x, y))
		}
	}
	return l
}

// isNear is the chapter's word, by the numbers themselves.
func isNear(c api.Cell) bool {
	return c.X >= -1048576 && c.X <= 1048576 && c.Y >= -1048576 && c.Y <= 1048576
}

// badRects are rectangles that may not be.
var badRects = []api.Rect{
	{}, rect(0, 0, 0, 1), rect(0, 0, 1, 0), rect(0, 0, -1, 1), rect(0, 0, 1, -1), rect(0, 0, -1, -1), rect(3, 3, -2, -2),
	rect(0, 0, far+1, 1), rect(0, 0, 1, far+1), rect(-far, -far, far+1, 1), rect(-far, -far, 1, far+1), rect(-far, -far, 2*far+1, 2*far+1),
	rect(far, 0, 2, 1), rect(0, far, 1, 2), rect(2, 0, far, 1), rect(0, 2, 1, far), rect(far-1, far-1, 3, 2), rect(far-1, far-1, 2, 3),
	rect(far+1, 0, 1, 1), rect(0, far+1, 1, 1), rect(-far-1, 0, 1, 1), rect(0, -far-1, 1, 1), rect(-far-1, 0, 2, 1), rect(0, -far-1, 1, 2), rect(far+1, 0, 0, 1), rect(far+2, 0, -1, 1),
	rect(math.MaxInt, 0, 1, 1), rect(math.MinInt, 0, 1, 1), rect(0, math.MaxInt, 1, 1), rect(0, math.MinInt, 1, 1),
	rect(0, 0, math.MaxInt, 1), rect(0, 0, 1, math.MaxInt), rect(0, 0, math.MinInt, 1), rect(0, 0, 1, math.MinInt), rect(2, 2, math.MaxInt, math.MaxInt),
	rect(math.MaxInt, math.MaxInt, math.MaxInt, math.MaxInt), rect(math.MinInt, math.MinInt, math.MinInt, math.MinInt), rect(math.MinInt, 0, math.MinInt+1, 1), rect(math.MaxInt, 0, 2, 1),
	rect(0, 0, 1<<32, 1), rect(0, 0, 1, 1<<32), rect(0, 0, 1<<32+1, 1<<32+1), rect(1<<32, 0, 1, 1),
}

// goodRects are rectangles that may just be.
var goodRects = []api.Rect{
	rect(0, 0, 1, 1), rect(5, -3, 2, 7), rect(far, far, 1, 1), rect(-far, -far, 1, 1), rect(far, -far, 1, 1), rect(-far, far, 1, 1),
	rect(far-1, far-1, 2, 2), rect(1, 0, far, 1), rect(0, 1, 1, far), rect(1, 1, far, far), rect(0, 0, far, far), rect(-far, -far, far, far), rect(-far, far, far, 1),
}

// Ce1.

func TestNear(t *testing.T) {
	for _, c := range nearCells() {
		if !cell.Near(c) {
			t.Errorf("%v is not near", c)
		}
	}
	for _, c := range farCells {
		if cell.Near(c) {
			t.Errorf("%v is near", c)
		}
	}
}

func TestStep(t *testing.T) {
	for _, c := range nearCells() {
		for dir, lead := range leads {
			want := at(c.X+lead.X, c.Y+lead.Y)
			ok := isNear(want)
			if !ok {
				want = api.Cell{}
			}
			if got, gotOk := cell.Step(c, dir); got != want || gotOk != ok {
				t.Errorf("Step(%v, %d) = %v, %v, want %v, %v", c, dir, got, gotOk, want, ok)
			}
		}
	}
}

func TestStepByHand(t *testing.T) {
	for _, s := range []struct {
		c    api.Cell
		dir  int
		want api.Cell
		ok   bool
	}{
		{at(4, 4), api.East, at(5, 4), true}, {at(4, 4), api.South, at(4, 5), true}, {at(4, 4), api.West, at(3, 4), true}, {at(4, 4), api.North, at(4, 3), true},
		{at(4, 4), api.SouthEast, at(5, 5), true}, {at(4, 4), api.SouthWest, at(3, 5), true}, {at(4, 4), api.NorthWest, at(3, 3), true}, {at(4, 4), api.NorthEast, at(5, 3), true},
		{at(far, 0), api.East, at(0, 0), false}, {at(far, 0), api.SouthEast, at(0, 0), false}, {at(far, 0), api.South, at(far, 1), true}, {at(far-1, 0), api.East, at(far, 0), true},
		{at(0, -far), api.North, at(0, 0), false}, {at(0, -far), api.NorthWest, at(0, 0), false}, {at(0, -far), api.West, at(-1, -far), true},
		{at(-1, 0), api.East, at(0, 0), true},
	} {
		if got, ok := cell.Step(s.c, s.dir); got != s.want || ok != s.ok {
			t.Errorf("Step(%v, %d) = %v, %v, want %v, %v", s.c, s.dir, got, ok, s.want, s.ok)
		}
	}
}

// TestNoStep asks for steps from cells that are not near (also such that lead to a near one), and in directions that are none.
func TestNoStep(t *testing.T) {
	refuse := func(c api.Cell, dir int) {
		t.Helper()
		if got, ok := cell.Step(c, dir); ok || got != (api.Cell{}) {
			t.Errorf("Step(%v, %d) = %v, %v", c, dir, got, ok)
		}
		if a, b, ok := cell.Sides(c, dir); ok || a != (api.Cell{}) || b != (api.Cell{}) {
			t.Errorf("Sides(%v, %d) = %v, %v, %v", c, dir, a, b, ok)
		}
	}
	for _, dir := range noDirections {
		for _, c := range append(nearCells(), farCells...) {
			refuse(c, dir)
		}
	}
	for dir := range api.Directions {
		for _, c := range farCells {
			refuse(c, dir)
		}
	}
}

func TestDir(t *testing.T) {
	for _, from := range nearCells() {
		for y := -2; y <= 2; y++ {
			for x := -2; x <= 2; x++ {
				to := at(from.X+x, from.Y+y)
				want := slices.Index(leads, at(x, y))
				if !isNear(to) {
					want = -1
				}
				if got := cell.Dir(from, to); got != want {
					t.Errorf("Dir(%v, %v) = %d, want %d", from, to, got, want)
				}
			}
		}
	}
}

func TestNoDir(t *testing.T) {
	for _, c := range farCells {
		for _, lead := range append(slices.Clone(leads), api.Cell{}) {
			next := at(c.X+lead.X, c.Y+lead.Y)
			if got := cell.Dir(c, next); got != -1 {
				t.Errorf("Dir(%v, %v) = %d", c, next, got)
			}
			if got := cell.Dir(next, c); got != -1 {
				t.Errorf("Dir(%v, %v) = %d", next, c, got)
			}
		}
	}
	for _, pair := range [][2]api.Cell{{at(0, 0), at(far, far)}, {at(0, 0), at(0, 2)}, {at(-far, 0), at(far, 0)}, {at(0, 0), at(1<<32+1, 0)}} {
		if got := cell.Dir(pair[0], pair[1]); got != -1 {
			t.Errorf("Dir(%v, %v) = %d", pair[0], pair[1], got)
		}
	}
}

func TestBack(t *testing.T) {
	for dir, want := range []int{
		api.East: api.West, api.South: api.North, api.West: api.East, api.North: api.South,
		api.SouthEast: api.NorthWest, api.SouthWest: api.NorthEast, api.NorthWest: api.SouthEast, api.NorthEast: api.SouthWest,
	} {
		if got := cell.Back(dir); got != want {
			t.Errorf("Back(%d) = %d, want %d", dir, got, want)
		}
	}
	for _, dir := range noDirections {
		if got := cell.Back(dir); got != -1 {
			t.Errorf("Back(%d) = %d", dir, got)
		}
	}
}

func TestCost(t *testing.T) {
	for dir, want := range []int{10, 10, 10, 10, 14, 14, 14, 14} {
		if got := cell.Cost(dir); got != want {
			t.Errorf("Cost(%d) = %d, want %d", dir, got, want)
		}
	}
	for _, dir := range noDirections {
		if got := cell.Cost(dir); got != 0 {
			t.Errorf("Cost(%d) = %d", dir, got)
		}
	}
}

func TestSides(t *testing.T) {
	for _, c := range nearCells() {
		for dir, lead := range leads {
			var wantA, wantB api.Cell
			over := dir >= 4 && isNear(at(c.X+lead.X, c.Y+lead.Y))
			if over {
				wantA, wantB = at(c.X+lead.X, c.Y), at(c.X, c.Y+lead.Y)
			}
			if a, b, ok := cell.Sides(c, dir); a != wantA || b != wantB || ok != over {
				t.Errorf("Sides(%v, %d) = %v, %v, %v, want %v, %v, %v", c, dir, a, b, ok, wantA, wantB, over)
			}
		}
	}
}

// Ce2.

// neighbour is what Around tells at once.
type neighbour struct {
	dir int
	c   api.Cell
}

func neighbours(seq iter.Seq2[int, api.Cell]) []neighbour {
	var l []neighbour
	for dir, c := range seq {
		l = append(l, neighbour{dir, c})
	}
	return l
}

func TestAroundByHand(t *testing.T) {
	for _, s := range []struct {
		c    api.Cell
		in   api.Rect
		want []int
	}{
		{at(1, 1), rect(0, 0, 3, 3), []int{0, 1, 2, 3, 4, 5, 6, 7}},
		{at(0, 0), rect(0, 0, 3, 3), []int{api.East, api.South, api.SouthEast}},
		{at(2, 2), rect(0, 0, 3, 3), []int{api.West, api.North, api.NorthWest}},
		{at(2, 0), rect(0, 0, 3, 3), []int{api.South, api.West, api.SouthWest}},
		{at(0, 2), rect(0, 0, 3, 3), []int{api.East, api.North, api.NorthEast}},
		{at(0, 0), rect(0, 0, 1, 1), nil},
		{at(0, 0), rect(0, 0, 2, 1), []int{api.East}},
		{at(-1, -1), rect(0, 0, 3, 3), []int{api.SouthEast}},
		{at(3, 1), rect(0, 0, 3, 3), []int{api.West, api.SouthWest, api.NorthWest}},
		{at(4, 1), rect(0, 0, 3, 3), nil},
		{at(far, far), rect(far-1, far-1, 2, 2), []int{api.West, api.North, api.NorthWest}},
		{at(-far, -far), rect(-far, -far, far, far), []int{api.East, api.South, api.SouthEast}},
		{at(far+1, far), rect(far-1, far-1, 2, 2), nil},
		{at(0, -far-1), rect(-1, -far, 3, 3), nil},
	} {
		var want []neighbour
		for _, dir := range s.want {
			want = append(want, neighbour{dir, at(s.c.X+leads[dir].X, s.c.Y+leads[dir].Y)})
		}
		if got := neighbours(cell.Around(s.c, s.in)); !slices.Equal(got, want) {
			t.Errorf("Around(%v, %v) = %v, want %v", s.c, s.in, got, want)
		}
	}
}

func TestNothingAround(t *testing.T) {
	for _, r := range badRects {
		for _, c := range append([]api.Cell{r.At, at(0, 0), at(far, far)}, farCells...) {
			if got := neighbours(cell.Around(c, r)); len(got) != 0 {
				t.Errorf("Around(%v, %v) = %v", c, r, got)
			}
		}
	}
	for _, r := range goodRects {
		for _, c := range farCells {
			if got := neighbours(cell.Around(c, r)); len(got) != 0 {
				t.Errorf("Around(%v, %v) = %v", c, r, got)
			}
		}
	}
}

// TestAroundLeft leaves the loop behind each neighbour in turn, and goes through the same iterator anew.
func TestAroundLeft(t *testing.T) {
	seq := cell.Around(at(1, 1), rect(0, 0, 3, 3))
	all := neighbours(seq)
	for n := 1; n <= len(all); n++ {
		var got []neighbour
		seq(func(dir int, c api.Cell) bool {
			got = append(got, neighbour{dir, c})
			return len(got) < n
		})
		if !slices.Equal(got, all[:n]) {
			t.Errorf("left behind %d: %v", n, got)
		}
	}
}

func TestApart(t *testing.T) {
	for _, s := range []struct {
		a, b api.Cell
		want int
	}{
		{at(0, 0), at(0, 0), 0}, {at(0, 0), at(3, 5), 5}, {at(3, 5), at(0, 0), 5}, {at(0, 0), at(5, 3), 5}, {at(-2, 4), at(3, 1), 5}, {at(2, -4), at(-1, 2), 6},
		{at(0, 0), at(0, -7), 7}, {at(0, 0), at(-7, 0), 7}, {at(1, 1), at(-3, -3), 4},
		{at(-far, -far), at(far, far), 2 * far}, {at(-far, 0), at(far, 0), 2 * far}, {at(0, far), at(0, -far), 2 * far}, {at(far, far), at(far, far), 0},
	} {
		if got := cell.Apart(s.a, s.b); got != s.want {
			t.Errorf("Apart(%v, %v) = %d, want %d", s.a, s.b, got, s.want)
		}
	}
}

func TestOctile(t *testing.T) {
	for _, s := range []struct {
		a, b api.Cell
		want int
	}{
		{at(0, 0), at(0, 0), 0}, {at(0, 0), at(3, 5), 62}, {at(3, 5), at(0, 0), 62}, {at(0, 0), at(5, 3), 62}, {at(1, 2), at(-2, 7), 62}, {at(0, 0), at(-3, 5), 62},
		{at(0, 0), at(4, 0), 40}, {at(0, 0), at(0, -4), 40}, {at(4, 4), at(0, 0), 56}, {at(-1, 1), at(1, -1), 28},
		{at(-far, -far), at(far, far), 28 * far}, {at(-far, 0), at(far, 0), 20 * far}, {at(-far, 0), at(far, far), 24 * far},
	} {
		if got := cell.Octile(s.a, s.b); got != s.want {
			t.Errorf("Octile(%v, %v) = %d, want %d", s.a, s.b, got, s.want)
		}
	}
}

func TestApartAndOctileOfFarCells(t *testing.T) {
	for _, a := range farCells {
		for _, b := range append(nearCells(), farCells...) {
			for _, got := range []int{cell.Apart(a, b), cell.Apart(b, a), cell.Octile(a, b), cell.Octile(b, a)} {
				if got != 0 {
					t.Errorf("Apart, Octile of %v, %v: %d", a, b, got)
				}
			}
		}
	}
}

// Ce3.

func TestMay(t *testing.T) {
	for _, r := range goodRects {
		if !cell.May(r) {
			t.Errorf("%v may not be", r)
		}
	}
	for _, r := range badRects {
		if cell.May(r) {
			t.Errorf("%v may be", r)
		}
	}
}

func TestHas(t *testing.T) {
	for _, s := range []struct {
		r    api.Rect
		c    api.Cell
		want bool
	}{
		{rect(2, 3, 4, 5), at(2, 3), true}, {rect(2, 3, 4, 5), at(5, 7), true}, {rect(2, 3, 4, 5), at(5, 3), true}, {rect(2, 3, 4, 5), at(2, 7), true}, {rect(2, 3, 4, 5), at(3, 4), true},
		{rect(2, 3, 4, 5), at(1, 3), false}, {rect(2, 3, 4, 5), at(2, 2), false}, {rect(2, 3, 4, 5), at(6, 7), false}, {rect(2, 3, 4, 5), at(5, 8), false}, {rect(2, 3, 4, 5), at(3, 8), false},
		{rect(0, 0, 1, 1), at(0, 0), true}, {rect(0, 0, 1, 1), at(1, 0), false}, {rect(0, 0, 1, 1), at(0, 1), false}, {rect(0, 0, 1, 1), at(-1, 0), false},
		{rect(far, far, 1, 1), at(far, far), true}, {rect(far, far, 1, 1), at(far+1, far), false}, {rect(-far, -far, far, far), at(-1, -1), true}, {rect(-far, -far, far, far), at(0, -1), false},
		{rect(far-1, far, 2, 1), at(far, far), true}, {rect(far-1, far, 3, 1), at(far, far), false},
	} {
		if got := cell.Has(s.r, s.c); got != s.want {
			t.Errorf("Has(%v, %v) = %v", s.r, s.c, got)
		}
	}
	for _, c := range farCells {
		for _, r := range append(slices.Clone(goodRects), badRects...) {
			if cell.Has(r, c) {
				t.Errorf("Has(%v, %v)", r, c)
			}
		}
	}
	for _, r := range badRects {
		for _, c := range append(nearCells(), r.At) {
			if cell.Has(r, c) {
				t.Errorf("Has(%v, %v)", r, c)
			}
		}
	}
}

func TestCells(t *testing.T) {
	for _, s := range []struct {
		r    api.Rect
		want []api.Cell
	}{
		{rect(2, 3, 3, 2), []api.Cell{at(2, 3), at(3, 3), at(4, 3), at(2, 4), at(3, 4), at(4, 4)}},
		{rect(-1, -1, 2, 2), []api.Cell{at(-1, -1), at(0, -1), at(-1, 0), at(0, 0)}},
		{rect(7, -7, 1, 1), []api.Cell{at(7, -7)}},
		{rect(far, far-1, 1, 2), []api.Cell{at(far, far-1), at(far, far)}},
		{rect(-far, -far, 2, 1), []api.Cell{at(-far, -far), at(-far+1, -far)}},
	} {
		if got := slices.Collect(cell.Cells(s.r)); !slices.Equal(got, s.want) {
			t.Errorf("Cells(%v) = %v, want %v", s.r, got, s.want)
		}
	}
	for _, r := range badRects {
		for c := range cell.Cells(r) {
			t.Fatalf("Cells(%v) tells %v", r, c)
		}
	}
}

// TestLongCells goes through the widest row and the highest column whole.
func TestLongCells(t *testing.T) {
	for _, s := range []struct {
		r    api.Rect
		last api.Cell
	}{
		{rect(1, -5, far, 1), at(far, -5)}, {rect(9, 1, 1, far), at(9, far)}, {rect(-far, -far, far, 2), at(-1, -far+1)},
	} {
		n, last := 0, api.Cell{}
		for c := range cell.Cells(s.r) {
			if n > 0 && !cell.Less(last, c) {
				t.Fatalf("Cells(%v): %v behind %v", s.r, c, last)
			}
			n, last = n+1, c
		}
		if n != s.r.W*s.r.H || last != s.last {
			t.Errorf("Cells(%v): %d, the last %v", s.r, n, last)
		}
	}
}

// TestCellsLeft leaves loops early, also that through a rectangle that nobody could go through whole.
func TestCellsLeft(t *testing.T) {
	first := []api.Cell{at(1, 1), at(2, 1), at(3, 1), at(1, 2), at(2, 2), at(3, 2)}
	seq := cell.Cells(rect(1, 1, 3, 2))
	for n := 1; n <= len(first); n++ {
		var got []api.Cell
		seq(func(c api.Cell) bool {
			got = append(got, c)
			return len(got) < n
		})
		if !slices.Equal(got, first[:n]) {
			t.Errorf("left behind %d: %v", n, got)
		}
	}
	n := 0
	for c := range cell.Cells(rect(1, 1, far, far)) {
		if n++; n > far {
			if c != at(1, 2) {
				t.Errorf("the second row begins with %v", c)
			}
			break
		}
	}
}

func TestMeetByHand(t *testing.T) {
	for _, s := range []struct {
		a, b, want api.Rect
		ok         bool
	}{
		{rect(0, 0, 3, 3), rect(2, 1, 4, 1), rect(2, 1, 1, 1), true},
		{rect(0, 0, 3, 3), rect(2, 2, 3, 3), rect(2, 2, 1, 1), true},
		{rect(0, 0, 3, 3), rect(1, 1, 1, 1), rect(1, 1, 1, 1), true},
		{rect(0, 0, 4, 4), rect(1, 0, 2, 3), rect(1, 0, 2, 3), true},
		{rect(0, 0, 4, 4), rect(0, 0, 4, 4), rect(0, 0, 4, 4), true},
		{rect(0, 1, 5, 1), rect(2, 0, 1, 3), rect(2, 1, 1, 1), true},
		{rect(0, 0, 3, 3), rect(3, 0, 3, 3), api.Rect{}, false},
		{rect(0, 0, 3, 3), rect(0, 3, 3, 3), api.Rect{}, false},
		{rect(0, 0, 3, 3), rect(3, 3, 3, 3), api.Rect{}, false},
		{rect(0, 0, 3, 3), rect(9, 1, 1, 1), api.Rect{}, false},
		{rect(0, 0, 1, 1), rect(-1, -1, 1, 1), api.Rect{}, false},
		{rect(-far, -far, far, far), rect(0, 0, far, far), api.Rect{}, false},
		{rect(-far, -far, far, far), rect(-1, -1, far, far), rect(-1, -1, 1, 1), true},
		{rect(1, 1, far, far), rect(far, far, 1, 1), rect(far, far, 1, 1), true},
		{rect(-far, 0, 1, 1), rect(far, 0, 1, 1), api.Rect{}, false},
	} {
		if got, ok := cell.Meet(s.a, s.b); got != s.want || ok != s.ok {
			t.Errorf("Meet(%v, %v) = %v, %v, want %v, %v", s.a, s.b, got, ok, s.want, s.ok)
		}
		if got, ok := cell.Meet(s.b, s.a); got != s.want || ok != s.ok {
			t.Errorf("Meet(%v, %v) = %v, %v, want %v, %v", s.b, s.a, got, ok, s.want, s.ok)
		}
	}
}

func TestHullByHand(t *testing.T) {
	for _, s := range []struct{ a, b, want api.Rect }{
		{rect(0, 0, 1, 1), rect(0, 0, 1, 1), rect(0, 0, 1, 1)},
		{rect(0, 0, 3, 3), rect(2, 1, 4, 1), rect(0, 0, 6, 3)},
		{rect(0, 0, 4, 4), rect(1, 1, 2, 2), rect(0, 0, 4, 4)},
		{rect(5, 0, 1, 1), rect(0, 7, 1, 2), rect(0, 0, 6, 9)},
		{rect(-2, -3, 1, 1), rect(1, 1, 1, 1), rect(-2, -3, 4, 5)},
		{rect(-far, 0, 1, 1), rect(-1, 0, 1, 1), rect(-far, 0, far, 1)},
		{rect(-far, 0, 1, 1), rect(0, 0, 1, 1), api.Rect{}},
		{rect(0, far, 1, 1), rect(0, 1, 1, 1), rect(0, 1, 1, far)},
		{rect(0, far, 1, 1), rect(0, 0, 1, 1), api.Rect{}},
		{rect(-far, -far, 1, 1), rect(far, far, 1, 1), api.Rect{}},
		{rect(0, 0, far, far), rect(1, 1, far, far), api.Rect{}},
		{rect(0, 0, far, 1), rect(1, 0, far, 1), api.Rect{}},
	} {
		if got := cell.Hull(s.a, s.b); got != s.want {
			t.Errorf("Hull(%v, %v) = %v, want %v", s.a, s.b, got, s.want)
		}
		if got := cell.Hull(s.b, s.a); got != s.want {
			t.Errorf("Hull(%v, %v) = %v, want %v", s.b, s.a, got, s.want)
		}
	}
}

func TestWithinByHand(t *testing.T) {
	for _, s := range []struct {
		r, all api.Rect
		want   bool
	}{
		{rect(0, 0, 1, 1), rect(0, 0, 1, 1), true}, {rect(1, 1, 2, 2), rect(0, 0, 4, 4), true}, {rect(0, 0, 4, 4), rect(0, 0, 4, 4), true}, {rect(2, 2, 2, 2), rect(0, 0, 4, 4), true},
		{rect(0, 0, 4, 4), rect(1, 1, 2, 2), false}, {rect(2, 2, 3, 2), rect(0, 0, 4, 4), false}, {rect(2, 2, 2, 3), rect(0, 0, 4, 4), false}, {rect(-1, 0, 2, 2), rect(0, 0, 4, 4), false}, {rect(0, -1, 2, 2), rect(0, 0, 4, 4), false},
		{rect(-1, 1, 6, 1), rect(0, 0, 4, 4), false}, {rect(9, 9, 1, 1), rect(0, 0, 4, 4), false},
		{rect(far, far, 1, 1), rect(1, 1, far, far), true}, {rect(far, far, 1, 1), rect(0, 0, far, far), false}, {rect(1, 1, far, far), rect(1, 1, far, far), true},
	} {
		if got := cell.Within(s.r, s.all); got != s.want {
			t.Errorf("Within(%v, %v) = %v", s.r, s.all, got)
		}
	}
}

func TestPairsWithBadRects(t *testing.T) {
	for _, bad := range badRects {
		for _, other := range append(slices.Clone(goodRects), badRects...) {
			for _, pair := range [][2]api.Rect{{bad, other}, {other, bad}} {
				if r, ok := cell.Meet(pair[0], pair[1]); ok || r != (api.Rect{}) {
					t.Errorf("Meet(%v, %v) = %v, %v", pair[0], pair[1], r, ok)
				}
				if r := cell.Hull(pair[0], pair[1]); r != (api.Rect{}) {
					t.Errorf("Hull(%v, %v) = %v", pair[0], pair[1], r)
				}
				if cell.Within(pair[0], pair[1]) {
					t.Errorf("Within(%v, %v)", pair[0], pair[1])
				}
			}
		}
	}
}

func TestLess(t *testing.T) {
	// Rising, row by row; cells that are not near have their place, too.
	rising := []api.Cell{
		at(math.MinInt, math.MinInt), at(math.MaxInt, math.MinInt), at(0, -far-1), at(far, -far), at(5, -1), at(math.MinInt, 0), at(-far-1, 0), at(-1, 0), at(0, 0), at(1, 0),
		at(1<<32, 0), at(math.MaxInt, 0), at(-9, 1), at(0, 1), at(-far, far), at(0, far+1), at(0, 1<<32), at(math.MinInt, math.MaxInt), at(math.MaxInt, math.MaxInt),
	}
	for i, a := range rising {
		for j, b := range rising {
			if got := cell.Less(a, b); got != (i < j) {
				t.Errorf("Less(%v, %v) = %v", a, b, got)
			}
		}
	}
}

// Ce3, held against the cells themselves.

// isRect is the chapter's word, by the numbers themselves; only for rectangles whose numbers are small beside an int's.
func isRect(r api.Rect) bool {
	return isNear(r.At) && r.W >= 1 && r.W <= 1048576 && r.H >= 1 && r.H <= 1048576 && isNear(at(r.At.X+r.W-1, r.At.Y+r.H-1))
}

// listed is all cells of a rectangle, row by row.
func listed(r api.Rect) []api.Cell {
	if !isRect(r) {
		return nil
	}
	var l []api.Cell
	for y := r.At.Y; y < r.At.Y+r.H; y++ {
		for x := r.At.X; x < r.At.X+r.W; x++ {
			l = append(l, at(x, y))
		}
	}
	return l
}

// fitted is the least rectangle that has some cells; zero of none.
func fitted(l []api.Cell) api.Rect {
	if len(l) == 0 {
		return api.Rect{}
	}
	low, high := l[0], l[0]
	for _, c := range l {
		low = at(min(low.X, c.X), min(low.Y, c.Y))
		high = at(max(high.X, c.X), max(high.Y, c.Y))
	}
	return rect(low.X, low.Y, high.X-low.X+1, high.Y-low.Y+1)
}

// smallRects are rectangles around a cell, with sides of 0 too; at an edge of what is near some may not be.
func smallRects(middle api.Cell) []api.Rect {
	var l []api.Rect
	for y := -1; y <= 2; y++ {
		for x := -1; x <= 2; x++ {
			for h := range 4 {
				for w := range 4 {
					l = append(l, rect(middle.X+x, middle.Y+y, w, h))
				}
			}
		}
	}
	return l
}

// middles are cells around which small rectangles are laid.
var middles = []api.Cell{at(0, 0), at(far-1, far-1), at(-far, -far), at(far-1, -far), at(-far, 3)}

func TestOneRectByItsCells(t *testing.T) {
	for _, middle := range middles {
		for _, r := range smallRects(middle) {
			cells := listed(r)
			if got := cell.May(r); got != isRect(r) {
				t.Errorf("May(%v) = %v", r, got)
			}
			if got := slices.Collect(cell.Cells(r)); !slices.Equal(got, cells) {
				t.Errorf("Cells(%v) = %v", r, got)
			}
			for y := -3; y <= 6; y++ {
				for x := -3; x <= 6; x++ {
					c := at(middle.X+x, middle.Y+y)
					if got := cell.Has(r, c); got != slices.Contains(cells, c) {
						t.Errorf("Has(%v, %v) = %v", r, c, got)
					}
					if got := neighbours(cell.Around(c, r)); !slices.Equal(got, around(c, cells)) {
						t.Errorf("Around(%v, %v) = %v", c, r, got)
					}
				}
			}
		}
	}
}

// around is the plain definition of Around.
func around(c api.Cell, cells []api.Cell) []neighbour {
	var l []neighbour
	for dir, lead := range leads {
		next := at(c.X+lead.X, c.Y+lead.Y)
		if isNear(c) && slices.Contains(cells, next) {
			l = append(l, neighbour{dir, next})
		}
	}
	return l
}

func TestTwoRectsByTheirCells(t *testing.T) {
	for _, middle := range middles {
		rects := smallRects(middle)
		lists := make([][]api.Cell, len(rects))
		for i, r := range rects {
			lists[i] = listed(r)
		}
		for i, a := range rects {
			for j, b := range rects {
				checkPair(t, a, b, lists[i], lists[j])
			}
		}
	}
}

// checkPair holds two rectangles against their cells.
func checkPair(t *testing.T, a, b api.Rect, cellsA, cellsB []api.Cell) {
	t.Helper()
	var both []api.Cell
	for _, c := range cellsA {
		if slices.Contains(cellsB, c) {
			both = append(both, c)
		}
	}
	if got, ok := cell.Meet(a, b); got != fitted(both) || ok != (len(both) > 0) {
		t.Errorf("Meet(%v, %v) = %v, %v", a, b, got, ok)
	}
	var hull api.Rect
	if len(cellsA) > 0 && len(cellsB) > 0 {
		hull = fitted(append(slices.Clone(cellsA), cellsB...))
	}
	if got := cell.Hull(a, b); got != hull {
		t.Errorf("Hull(%v, %v) = %v, want %v", a, b, got, hull)
	}
	if got := cell.Within(a, b); got != (len(cellsA) > 0 && len(both) == len(cellsA)) {
		t.Errorf("Within(%v, %v) = %v", a, b, got)
	}
}

// Ce4.

func TestStepAndBack(t *testing.T) {
	for _, c := range nearCells() {
		for dir := range api.Directions {
			next, ok := cell.Step(c, dir)
			if !ok {
				continue
			}
			if back, ok := cell.Step(next, cell.Back(dir)); !ok || back != c {
				t.Errorf("from %v by %d and back: %v, %v", c, dir, back, ok)
			}
			if got := cell.Dir(c, next); got != dir {
				t.Errorf("Dir(%v, %v) = %d, want %d", c, next, got, dir)
			}
			if got := cell.Dir(next, c); got != cell.Back(dir) {
				t.Errorf("Dir(%v, %v) = %d, want %d", next, c, got, cell.Back(dir))
			}
			if got := cell.Octile(c, next); got != cell.Cost(dir) || cell.Apart(c, next) != 1 {
				t.Errorf("Octile(%v, %v) = %d, want %d", c, next, got, cell.Cost(dir))
			}
		}
	}
}

func TestApartAndOctileBothWays(t *testing.T) {
	for _, a := range nearCells() {
		for _, b := range nearCells() {
			apart, octile := cell.Apart(a, b), cell.Octile(a, b)
			if cell.Apart(b, a) != apart || cell.Octile(b, a) != octile {
				t.Errorf("%v and %v: Apart %d and %d, Octile %d and %d", a, b, apart, cell.Apart(b, a), octile, cell.Octile(b, a))
			}
			if octile < api.Straight*apart || octile > api.Diagonal*apart {
				t.Errorf("%v and %v: Octile %d, Apart %d", a, b, octile, apart)
			}
			if (apart == 0) != (a == b) {
				t.Errorf("Apart(%v, %v) = %d", a, b, apart)
			}
		}
	}
}

func TestMeetBothWays(t *testing.T) {
	for _, middle := range middles {
		rects := smallRects(middle)
		for _, a := range rects {
			for _, b := range rects {
				meet, ok := cell.Meet(a, b)
				if other, otherOk := cell.Meet(b, a); other != meet || otherOk != ok {
					t.Errorf("Meet of %v and %v: %v, %v, the other way %v, %v", a, b, meet, ok, other, otherOk)
				}
				for c := range cell.Cells(a) {
					if cell.Has(meet, c) != cell.Has(b, c) {
						t.Errorf("Meet(%v, %v) = %v: %v", a, b, meet, c)
					}
				}
				if ok && (!cell.Within(meet, a) || !cell.Within(meet, b)) {
					t.Errorf("Meet(%v, %v) = %v is not within both", a, b, meet)
				}
			}
		}
	}
}

// The chapter's example.

func TestExamples(t *testing.T) {
	if c, ok := cell.Step(at(4, 4), api.SouthWest); c != at(3, 5) || !ok {
		t.Errorf("SouthWest of 4, 4: %v, %v", c, ok)
	}
	if a, b, ok := cell.Sides(at(4, 4), api.SouthWest); a != at(3, 4) || b != at(4, 5) || !ok {
		t.Errorf("its sides: %v, %v, %v", a, b, ok)
	}
	if got := cell.Octile(at(0, 0), at(3, 5)); got != 62 {
		t.Errorf("Octile of 0, 0 and 3, 5: %d", got)
	}
}
