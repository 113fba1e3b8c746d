package slots_test

import (
	"math"
	"slices"
	"testing"

	"phalanx/api"
	"phalanx/cell"
	"phalanx/class"
	"phalanx/slots"
)

// ends are numbers about which sums and products wrap, or that are alike in their lower 32 bits with such as may be.
var ends = []int{math.MinInt, math.MinInt + 1, math.MinInt / 2, math.MinInt/4 + 1, math.MinInt32 - 1, math.MinInt32, -1 << 32, -1<<32 + 1, -api.Far - 1, -api.Far,
	api.Far, api.Far + 1, math.MaxInt32, math.MaxInt32 + 1, 1 << 32, 1<<32 + 1, 1<<32 + 4, 1 << 62, math.MaxInt/2 + 2, math.MaxInt - 1, math.MaxInt}

// places are X or Y of places where a group may be laid out: at both bounds, next to them, and between.
var places = []int{-128, -127, -64, -1, 0, 1, 10, 127, 128, 129, 255, 256}

// beyond are X or Y of places where none may be.
var beyond = append([]int{-1000, -257, -256, -130, -129, 257, 258, 384, 512, 1000}, ends...)

func at(x, y int) api.Cell { return api.Cell{X: x, Y: y} }

func rect(x, y, w, h int) api.Rect { return api.Rect{At: at(x, y), W: w, H: h} }

func shape(class, size int) api.Shape { return api.Shape{Class: class, Size: size} }

// cells is a list of X and Y, one behind the other.
func cells(numbers ...int) []api.Cell {
	var l []api.Cell
	for i := 0; i < len(numbers); i += 2 {
		l = append(l, at(numbers[i], numbers[i+1]))
	}
	return l
}

// alike are so many units of a size.
func alike(n, size int) []api.Shape {
	return slices.Repeat([]api.Shape{shape(api.Foot, size)}, n)
}

// sized are units of these sizes, of all classes by turns.
func sized(sizes ...int) []api.Shape {
	l := make([]api.Shape, len(sizes))
	for i, size := range sizes {
		l[i] = shape(i%api.Classes, size)
	}
	return l
}

// broken are shapes that may not be.
func broken() []api.Shape {
	l := []api.Shape{{}, shape(0, 0), shape(0, -1), shape(0, 5), shape(3, 0), shape(3, 5), shape(-1, 1), shape(-1, 4), shape(4, 1), shape(4, 4), shape(5, 1), shape(-1, 0), shape(4, 5)}
	for _, n := range ends {
		l = append(l, shape(n, 1), shape(0, n), shape(n, n))
	}
	return l
}

// laid is a layout, that is to be told.
func laid(t *testing.T, l []api.Shape, to api.Cell) []api.Cell {
	t.Helper()
	got, code := slots.Layout(l, to)
	if code != api.OK || len(got) != len(l) {
		t.Fatalf("Layout(%v, %v) = %v, error %d", l, to, got, code)
	}
	return got
}

// lays asks for a layout.
func lays(t *testing.T, l []api.Shape, to api.Cell, want ...int) {
	t.Helper()
	if got := laid(t, l, to); !slices.Equal(got, cells(want...)) {
		t.Errorf("Layout(%v, %v) = %v, want %v", l, to, got, cells(want...))
	}
}

// boxed is a box, that is to be told.
func boxed(t *testing.T, l []api.Shape, to api.Cell) api.Rect {
	t.Helper()
	got, code := slots.Box(l, to)
	if code != api.OK {
		t.Fatalf("Box(%v, %v) = %v, error %d", l, to, got, code)
	}
	return got
}

// boxes asks for a box.
func boxes(t *testing.T, l []api.Shape, to api.Cell, want api.Rect) {
	t.Helper()
	if got := boxed(t, l, to); got != want {
		t.Errorf("Box(%v, %v) = %v, want %v", l, to, got, want)
	}
}

// refuses asks that there is neither a layout nor a box.
func refuses(t *testing.T, l []api.Shape, to api.Cell, want api.Errno) {
	t.Helper()
	if got, code := slots.Layout(l, to); code != want || len(got) > 0 {
		t.Errorf("Layout of %d, %v at %v = %v, error %d, want %d", len(l), l, to, got, code, want)
	}
	if got, code := slots.Box(l, to); code != want || got != (api.Rect{}) {
		t.Errorf("Box of %d, %v at %v = %v, error %d, want %d", len(l), l, to, got, code, want)
	}
}

// The chapter's example.

func TestExample(t *testing.T) {
	lays(t, alike(5, 1), at(10, 10), 9, 9, 10, 9, 11, 9, 9, 10, 10, 10)
	boxes(t, alike(5, 1), at(10, 10), rect(9, 9, 3, 2))
}

// Sl1: columns.

func TestColumns(t *testing.T) {
	// The greatest number of units of 0, 1, 2, and so on columns.
	most := []int{0, 1, 4, 9, 16, 25, 36, 49, 64}
	for columns := 1; columns < len(most); columns++ {
		for n := most[columns-1] + 1; n <= most[columns]; n++ {
			if got := slots.Columns(n); got != columns {
				t.Errorf("Columns(%d) = %d, want %d", n, got, columns)
			}
		}
	}
}

func TestColumnsOfNone(t *testing.T) {
	numbers := slices.Clone(ends)
	for n := -300; n <= 0; n++ {
		numbers = append(numbers, n)
	}
	for n := 65; n <= 300; n++ {
		numbers = append(numbers, n)
	}
	for _, n := range numbers {
		if got := slots.Columns(n); got != 0 {
			t.Errorf("Columns(%d) = %d, want 0", n, got)
		}
	}
}

// Sl1: layouts.

func TestFew(t *testing.T) {
	lays(t, alike(1, 1), at(10, 20), 10, 20)
	lays(t, alike(2, 1), at(10, 20), 9, 20, 10, 20)
	lays(t, alike(3, 1), at(10, 20), 9, 19, 10, 19, 9, 20)
	lays(t, alike(4, 1), at(10, 20), 9, 19, 10, 19, 9, 20, 10, 20)
	lays(t, alike(6, 1), at(10, 20), 9, 19, 10, 19, 11, 19, 9, 20, 10, 20, 11, 20)
	lays(t, alike(7, 1), at(10, 20), 9, 19, 10, 19, 11, 19, 9, 20, 10, 20, 11, 20, 9, 21)
	lays(t, alike(9, 1), at(0, 0), -1, -1, 0, -1, 1, -1, -1, 0, 0, 0, 1, 0, -1, 1, 0, 1, 1, 1)
	lays(t, alike(10, 1), at(0, 0), -2, -1, -1, -1, 0, -1, 1, -1, -2, 0, -1, 0, 0, 0, 1, 0, -2, 1, -1, 1)
}

// TestCorners asks for the first and the last unit of groups with odd and even numbers of columns and rows, with last rows that are full, and that are not.
func TestCorners(t *testing.T) {
	for _, x := range []struct{ n, firstX, firstY, lastX, lastY int }{
		{8, -1, -1, 0, 1},   // 3 columns, 3 rows
		{11, -2, -1, 0, 1},  // 4 columns, 3 rows
		{12, -2, -1, 1, 1},  // 4 columns, 3 rows
		{13, -2, -2, -2, 1}, // 4 columns, 4 rows
		{16, -2, -2, 1, 1},  // 4 columns, 4 rows
		{17, -2, -2, -1, 1}, // 5 columns, 4 rows
		{20, -2, -2, 2, 1},  // 5 columns, 4 rows
		{21, -2, -2, -2, 2}, // 5 columns, 5 rows
		{25, -2, -2, 2, 2},  // 5 columns, 5 rows
		{26, -3, -2, -2, 2}, // 6 columns, 5 rows
		{30, -3, -2, 2, 2},  // 6 columns, 5 rows
		{31, -3, -3, -3, 2}, // 6 columns, 6 rows
		{36, -3, -3, 2, 2},  // 6 columns, 6 rows
		{37, -3, -3, -2, 2}, // 7 columns, 6 rows
		{42, -3, -3, 3, 2},  // 7 columns, 6 rows
		{43, -3, -3, -3, 3}, // 7 columns, 7 rows
		{49, -3, -3, 3, 3},  // 7 columns, 7 rows
		{50, -4, -3, -3, 3}, // 8 columns, 7 rows
		{56, -4, -3, 3, 3},  // 8 columns, 7 rows
		{57, -4, -4, -4, 3}, // 8 columns, 8 rows
		{63, -4, -4, 2, 3},  // 8 columns, 8 rows
		{64, -4, -4, 3, 3},  // 8 columns, 8 rows
	} {
		for pitch := 1; pitch <= 4; pitch++ {
			l := laid(t, alike(x.n, pitch), at(100, 50))
			if want := at(100+pitch*x.firstX, 50+pitch*x.firstY); l[0] != want {
				t.Errorf("the first of %d of size %d stands at %v, want %v", x.n, pitch, l[0], want)
			}
			if want := at(100+pitch*x.lastX, 50+pitch*x.lastY); l[x.n-1] != want {
				t.Errorf("the last of %d of size %d stands at %v, want %v", x.n, pitch, l[x.n-1], want)
			}
		}
	}
}

// TestPitch: the greatest size is the pitch, wherever it stands.
func TestPitch(t *testing.T) {
	for great := 2; great <= 4; great++ {
		for place := range 5 {
			for less := 1; less < great; less++ {
				sizes := slices.Repeat([]int{less}, 5)
				sizes[place] = great
				lays(t, sized(sizes...), at(10, 10), 10-great, 10-great, 10, 10-great, 10+great, 10-great, 10-great, 10, 10, 10)
			}
		}
	}
	lays(t, sized(1, 2, 3, 4), at(0, 0), -4, -4, 0, -4, -4, 0, 0, 0)
	lays(t, sized(4, 3, 2, 1), at(0, 0), -4, -4, 0, -4, -4, 0, 0, 0)
	lays(t, sized(2, 3, 1), at(0, 0), -3, -3, 0, -3, -3, 0)
}

// TestPitchOfMany: one that is greater, in a whole group, at each place.
func TestPitchOfMany(t *testing.T) {
	for place := range 64 {
		l := alike(64, 1)
		l[place] = shape(api.Boat, 3)
		if got := laid(t, l, at(0, 0)); got[0] != at(-12, -12) || got[63] != at(9, 9) || got[1] != at(-9, -12) || got[8] != at(-12, -9) {
			t.Errorf("with one of size 3 at place %d Layout = %v", place, got)
		}
	}
}

// TestClass: what class units are of turns nothing.
func TestClass(t *testing.T) {
	for first := range api.Classes {
		for second := range api.Classes {
			lays(t, []api.Shape{shape(first, 2), shape(second, 1)}, at(5, 5), 3, 5, 5, 5)
			boxes(t, []api.Shape{shape(first, 2), shape(second, 1)}, at(5, 5), rect(3, 5, 3, 2))
		}
	}
}

// TestPlaces: all places up to the bounds do, and those beyond are refused.
func TestPlaces(t *testing.T) {
	for _, x := range places {
		for _, y := range places {
			lays(t, sized(4), at(x, y), x, y)
			lays(t, sized(1, 4), at(x, y), x-4, y, x, y)
			boxes(t, sized(4), at(x, y), rect(x, y, 4, 4))
			// Its units may stand beyond the bounds.
			boxes(t, alike(64, 4), at(x, y), rect(x-16, y-16, 32, 32))
		}
		for _, far := range beyond {
			for _, l := range [][]api.Shape{sized(4), sized(1, 2, 3), alike(64, 4)} {
				refuses(t, l, at(x, far), api.ErrArg)
				refuses(t, l, at(far, x), api.ErrArg)
			}
		}
	}
	for _, x := range beyond {
		for _, y := range beyond {
			refuses(t, sized(1), at(x, y), api.ErrArg)
		}
	}
}

func TestNone(t *testing.T) {
	room := alike(3, 1)
	for _, l := range [][]api.Shape{nil, {}, room[:0]} {
		refuses(t, l, at(10, 10), api.ErrArg)
		refuses(t, l, at(257, 10), api.ErrArg)
		refuses(t, l, at(10, math.MinInt), api.ErrArg)
	}
}

func TestBroken(t *testing.T) {
	for _, s := range broken() {
		for _, n := range []int{1, 2, 3, 5, 63, 64} {
			for _, place := range []int{0, n / 2, n - 1} {
				l := alike(n, 2)
				l[place] = s
				refuses(t, l, at(10, 10), api.ErrArg)
				refuses(t, l, at(-129, 10), api.ErrArg)
			}
			refuses(t, slices.Repeat([]api.Shape{s}, n), at(10, 10), api.ErrArg)
		}
	}
}

// TestBrokenAnywhere: one that may not be, at each place of a whole group.
func TestBrokenAnywhere(t *testing.T) {
	for place := range 64 {
		for _, s := range []api.Shape{shape(-1, 1), shape(4, 1), shape(0, 0), shape(0, 5)} {
			l := alike(64, 1)
			l[place] = s
			refuses(t, l, at(10, 10), api.ErrArg)
		}
	}
}

// TestMany: more than there may be are refused as such, whatever else may not be.
func TestMany(t *testing.T) {
	for _, n := range []int{65, 66, 81, 128, 129, 1000} {
		refuses(t, alike(n, 1), at(10, 10), api.ErrLong)
		refuses(t, make([]api.Shape, n), at(10, 10), api.ErrLong)
		for _, x := range beyond {
			refuses(t, alike(n, 4), at(x, 10), api.ErrLong)
			refuses(t, alike(n, 4), at(10, x), api.ErrLong)
			refuses(t, make([]api.Shape, n), at(x, x), api.ErrLong)
		}
		for _, s := range broken() {
			for _, place := range []int{0, n / 2, 63, 64, n - 1} {
				l := alike(n, 1)
				l[place] = s
				refuses(t, l, at(10, 10), api.ErrLong)
				refuses(t, l, at(257, -129), api.ErrLong)
			}
		}
	}
	// The most that may be are laid out.
	boxes(t, alike(64, 1), at(10, 10), rect(6, 6, 8, 8))
}

// Sl2: boxes.

func TestBoxOfOne(t *testing.T) {
	for _, x := range places {
		for size := 1; size <= 4; size++ {
			boxes(t, alike(1, size), at(x, -x/2), rect(x, -x/2, size, size))
		}
	}
}

func TestBoxOfOneSize(t *testing.T) {
	for size := 1; size <= 4; size++ {
		boxes(t, alike(2, size), at(10, 20), rect(10-size, 20, 2*size, size))
		boxes(t, alike(3, size), at(10, 20), rect(10-size, 20-size, 2*size, 2*size))
		boxes(t, alike(5, size), at(10, 20), rect(10-size, 20-size, 3*size, 2*size))
		boxes(t, alike(9, size), at(10, 20), rect(10-size, 20-size, 3*size, 3*size))
		boxes(t, alike(10, size), at(10, 20), rect(10-2*size, 20-size, 4*size, 3*size))
		boxes(t, alike(17, size), at(10, 20), rect(10-2*size, 20-2*size, 5*size, 4*size))
		boxes(t, alike(63, size), at(10, 20), rect(10-4*size, 20-4*size, 8*size, 8*size))
		boxes(t, alike(64, size), at(10, 20), rect(10-4*size, 20-4*size, 8*size, 8*size))
	}
}

func TestBoxOfUnlikeSizes(t *testing.T) {
	// One that is less ends ahead of where the pitch does.
	boxes(t, sized(2, 1, 1, 1, 1), at(10, 10), rect(8, 8, 5, 3))
	boxes(t, sized(1, 2, 1, 1, 1), at(10, 10), rect(8, 8, 5, 3))
	boxes(t, sized(1, 1, 2, 1, 1), at(10, 10), rect(8, 8, 6, 3))
	boxes(t, sized(1, 1, 1, 2, 1), at(10, 10), rect(8, 8, 5, 4))
	boxes(t, sized(1, 1, 1, 1, 2), at(10, 10), rect(8, 8, 5, 4))
	boxes(t, sized(4, 1), at(0, 0), rect(-4, 0, 5, 4))
	boxes(t, sized(1, 4), at(0, 0), rect(-4, 0, 8, 4))
	boxes(t, sized(4, 1, 1, 1), at(0, 0), rect(-4, -4, 5, 5))
	boxes(t, sized(1, 1, 1, 4), at(0, 0), rect(-4, -4, 8, 8))
	boxes(t, sized(1, 2, 3), at(0, 0), rect(-3, -3, 5, 6))
	boxes(t, sized(3, 2, 1), at(0, 0), rect(-3, -3, 5, 4))
	// The last row is not full: the greatest one stands ahead of where a column would end.
	boxes(t, sized(1, 1, 1, 1, 1, 1, 4), at(0, 0), rect(-4, -4, 9, 12))
	boxes(t, sized(1, 1, 4, 1, 1, 1, 1), at(0, 0), rect(-4, -4, 12, 9))
}

// TestBoxIsLeast: the footprints lie in the box, and each of its sides is met by one.
func TestBoxIsLeast(t *testing.T) {
	for n := 1; n <= 64; n++ {
		for turn := range 4 {
			l := mixed(n, turn)
			spots, box := laid(t, l, at(40, -3)), boxed(t, l, at(40, -3))
			var left, up, right, down bool
			for i, c := range spots {
				foot := class.Foot(l[i], c)
				if !cell.Within(foot, box) {
					t.Errorf("%d units, turn %d: %v is not within %v", n, turn, foot, box)
				}
				left = left || foot.At.X == box.At.X
				up = up || foot.At.Y == box.At.Y
				right = right || foot.At.X+foot.W == box.At.X+box.W
				down = down || foot.At.Y+foot.H == box.At.Y+box.H
			}
			if !left || !up || !right || !down {
				t.Errorf("%d units, turn %d: a side of %v is met by none of %v", n, turn, box, spots)
			}
		}
	}
}

// Sl3.

// mixed are so many units of unlike sizes and classes: they differ from turn to turn, and the first turns' greatest size is not always 4.
func mixed(n, turn int) []api.Shape {
	l := make([]api.Shape, n)
	for i := range l {
		l[i] = shape((i+turn)%api.Classes, 1+(i*(turn+3)+turn)%(turn+1))
	}
	return l
}

// TestDisjoint: at each number of units.
func TestDisjoint(t *testing.T) {
	for n := 1; n <= 64; n++ {
		groups := [][]api.Shape{alike(n, 1), alike(n, 2), alike(n, 3), alike(n, 4)}
		for turn := range 4 {
			groups = append(groups, mixed(n, turn))
		}
		for _, l := range groups {
			stood := map[api.Cell]int{}
			for i, c := range laid(t, l, at(3, 250)) {
				for tile := range cell.Cells(class.Foot(l[i], c)) {
					if _, ok := stood[tile]; ok {
						t.Fatalf("of %v two stand on %v: %d and %d", l, tile, stood[tile], i)
					}
					stood[tile] = i
				}
			}
		}
	}
}

// TestMoved: at another place a layout and its box are the same, moved.
func TestMoved(t *testing.T) {
	for n := 1; n <= 64; n++ {
		l := mixed(n, n%4)
		spots, box := laid(t, l, at(0, 0)), boxed(t, l, at(0, 0))
		for _, x := range places {
			for _, y := range places {
				for i, c := range laid(t, l, at(x, y)) {
					if c != at(spots[i].X+x, spots[i].Y+y) {
						t.Fatalf("unit %d of %d: at %v, want %v moved by %d, %d", i, n, c, spots[i], x, y)
					}
				}
				boxes(t, l, at(x, y), rect(box.At.X+x, box.At.Y+y, box.W, box.H))
			}
		}
	}
}

// R3: memory.

func TestHandedIn(t *testing.T) {
	for n := 1; n <= 65; n++ {
		// What lies in the room behind the list's end is nobody's: there may be anything.
		room := append(mixed(n, 3), shape(-7, 99), shape(api.Boat, 4), shape(8, -8))
		was := slices.Clone(room)
		for _, to := range []api.Cell{at(10, 10), at(257, 0)} {
			slots.Layout(room[:n], to)
			slots.Box(room[:n], to)
			if !slices.Equal(room, was) {
				t.Fatalf("of %d: %v became %v", n, was, room)
			}
		}
	}
	// A greater one in that room is not of the group.
	room := alike(3, 1)
	room[2].Size = 4
	lays(t, room[:2], at(10, 10), 9, 10, 10, 10)
	boxes(t, room[:2], at(10, 10), rect(9, 10, 2, 1))
}

func TestTold(t *testing.T) {
	l := mixed(10, 2)
	first, second := laid(t, l, at(10, 10)), laid(t, l, at(10, 10))
	want := slices.Clone(first)
	for i := range first[:cap(first)] {
		first[:cap(first)][i] = at(-9, -9)
	}
	if !slices.Equal(second, want) {
		t.Errorf("what was told became %v, want %v", second, want)
	}
	if third := laid(t, l, at(10, 10)); !slices.Equal(third, want) {
		t.Errorf("what is told became %v, want %v", third, want)
	}
	// Nor is what was handed in kept: what comes of it later turns nothing that was told.
	for i := range l {
		l[i] = shape(api.Hover, 4)
	}
	if !slices.Equal(second, want) {
		t.Errorf("what was told became %v, want %v", second, want)
	}
}
