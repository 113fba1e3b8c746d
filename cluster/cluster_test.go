package cluster_test

import (
	"iter"
	"math"
	"slices"
	"testing"

	"phalanx/api"
	"phalanx/cluster"
	"phalanx/grid"
)

const far = api.Far

// ends are numbers about which sums, products and quotients wrap.
var ends = []int{math.MinInt, math.MinInt + 1, math.MinInt + 7, math.MinInt + 8, math.MinInt32 - 1, math.MinInt32, -1 << 29, -far - 1, -far,
	far, far + 1, 1 << 29, math.MaxInt32, 1 << 32, 1<<32 + 1, 1 << 60, 1 << 61, 1<<61 + 1, math.MaxInt - 8, math.MaxInt - 7, math.MaxInt - 1, math.MaxInt}

// sides are those a world is tried with: 1, about the multiples of a cluster's side, and the greatest.
var sides = []int{1, 2, 7, 8, 9, 15, 16, 17, 23, 24, 25, 119, 120, 121, 127, 128}

func at(x, y int) api.Cell { return api.Cell{X: x, Y: y} }

func rect(x, y, w, h int) api.Rect { return api.Rect{At: at(x, y), W: w, H: h} }

// cells is a list of X and Y, one behind the other.
func cells(numbers ...int) []api.Cell {
	var l []api.Cell
	for i := 0; i < len(numbers); i += 2 {
		l = append(l, at(numbers[i], numbers[i+1]))
	}
	return l
}

// open is a world of Plain.
func open(t *testing.T, width, height int) *grid.World {
	t.Helper()
	w, code := grid.New(api.Map{W: width, H: height, Tiles: make([]byte, width*height)})
	if code != api.OK {
		t.Fatalf("New of %d, %d: error %d", width, height, code)
	}
	return w
}

// noWorlds are worlds that New did not give.
func noWorlds() []*grid.World { return []*grid.World{nil, {}} }

// step is a neighbour, and where it lies.
type step struct {
	dir int
	to  api.Cell
}

func steps(all iter.Seq2[int, api.Cell]) []step {
	var l []step
	for dir, to := range all {
		l = append(l, step{dir, to})
	}
	return l
}

func hasRect(t *testing.T, w *grid.World, k api.Cell, want api.Rect) {
	t.Helper()
	if got, ok := cluster.Rect(w, k); !ok || got != want {
		t.Fatalf("Rect of %v in %v = %v, %t, want %v", k, w.All(), got, ok, want)
	}
}

func hasNoRect(t *testing.T, w *grid.World, k api.Cell) {
	t.Helper()
	if got, ok := cluster.Rect(w, k); ok || got != (api.Rect{}) {
		t.Fatalf("Rect of %v in %v = %v, %t, want none", k, w.All(), got, ok)
	}
}

func hasAll(t *testing.T, w *grid.World, want ...api.Cell) {
	t.Helper()
	if got := slices.Collect(cluster.All(w)); !slices.Equal(got, want) {
		t.Fatalf("All of %v = %v, want %v", w.All(), got, want)
	}
}

func hasAround(t *testing.T, w *grid.World, k api.Cell, want ...step) {
	t.Helper()
	if got := steps(cluster.Around(w, k)); !slices.Equal(got, want) {
		t.Fatalf("Around %v in %v = %v, want %v", k, w.All(), got, want)
	}
}

func crosses(t *testing.T, from api.Cell, want int, path ...api.Cell) {
	t.Helper()
	if got := cluster.Crossed(from, path); got != want {
		t.Fatalf("Crossed from %v by %v = %d, want %d", from, path, got, want)
	}
}

func touches(t *testing.T, w *grid.World, r api.Rect, want ...api.Cell) {
	t.Helper()
	if got := cluster.Touched(w, r); !slices.Equal(got, want) {
		t.Fatalf("Touched of %v in %v = %v, want %v", r, w.All(), got, want)
	}
}

func TestExample(t *testing.T) {
	w := open(t, 10, 8)
	hasAll(t, w, at(0, 0), at(1, 0))
	hasRect(t, w, at(0, 0), rect(0, 0, 8, 8))
	hasRect(t, w, at(1, 0), rect(8, 0, 2, 8))
	crosses(t, at(7, 7), 2, at(8, 8))
}

func TestOf(t *testing.T) {
	const least, most = math.MinInt / 8, math.MaxInt / 8
	for _, c := range []struct{ n, want int }{
		{-17, -3}, {-16, -2}, {-9, -2}, {-8, -1}, {-7, -1}, {-1, -1}, {0, 0}, {1, 0}, {7, 0}, {8, 1}, {9, 1}, {15, 1}, {16, 2}, {127, 15}, {128, 16},
		{-far, -1 << 17}, {-far - 1, -1<<17 - 1}, {far - 1, 1<<17 - 1}, {far, 1 << 17}, {1 << 32, 1 << 29}, {-1<<32 - 1, -1<<29 - 1},
		{math.MinInt, least}, {math.MinInt + 1, least}, {math.MinInt + 7, least}, {math.MinInt + 8, least + 1}, {math.MinInt + 9, least + 1},
		{math.MaxInt, most}, {math.MaxInt - 7, most}, {math.MaxInt - 8, most - 1},
	} {
		for _, other := range []struct{ n, want int }{{0, 0}, {-9, -2}, {8, 1}, {math.MinInt, least}, {math.MaxInt, most}} {
			if got := cluster.Of(at(c.n, other.n)); got != at(c.want, other.want) {
				t.Errorf("Of %d, %d = %v, want %d, %d", c.n, other.n, got, c.want, other.want)
			}
			if got := cluster.Of(at(other.n, c.n)); got != at(other.want, c.want) {
				t.Errorf("Of %d, %d = %v, want %d, %d", other.n, c.n, got, other.want, c.want)
			}
		}
	}
}

func TestOfIsTheSquareThatHasTheCell(t *testing.T) {
	for x := -300; x <= 300; x++ {
		for _, y := range []int{-65, -1, 0, 31, 64} {
			k := cluster.Of(at(x, y))
			if x < k.X*8 || x >= k.X*8+8 || y < k.Y*8 || y >= k.Y*8+8 {
				t.Fatalf("Of %d, %d = %v", x, y, k)
			}
		}
	}
}

// lengths is how long the clusters of a side are, one behind the other.
func lengths(side int) []int {
	var l []int
	for ; side > 8; side -= 8 {
		l = append(l, 8)
	}
	return append(l, side)
}

func TestRect(t *testing.T) {
	for _, width := range sides {
		for _, height := range sides {
			w := open(t, width, height)
			for y, h := range lengths(height) {
				for x, wide := range lengths(width) {
					hasRect(t, w, at(x, y), rect(8*x, 8*y, wide, h))
				}
			}
			right, below := len(lengths(width)), len(lengths(height))
			for _, k := range cells(-1, 0, 0, -1, -1, -1, right, 0, 0, below, right, below, right-1, below, right, below-1, -1, below-1, right-1, -1, right+1, 0, 0, below+1) {
				hasNoRect(t, w, k)
			}
		}
	}
}

func TestRectByHand(t *testing.T) {
	hasRect(t, open(t, 1, 1), at(0, 0), rect(0, 0, 1, 1))
	hasRect(t, open(t, 8, 8), at(0, 0), rect(0, 0, 8, 8))
	w := open(t, 17, 15)
	hasRect(t, w, at(2, 0), rect(16, 0, 1, 8))
	hasRect(t, w, at(1, 1), rect(8, 8, 8, 7))
	hasRect(t, w, at(2, 1), rect(16, 8, 1, 7))
	hasNoRect(t, w, at(3, 0))
	hasNoRect(t, w, at(0, 2))
	w = open(t, 128, 128)
	hasRect(t, w, at(15, 15), rect(120, 120, 8, 8))
	hasNoRect(t, w, at(16, 15))
	hasNoRect(t, w, at(15, 16))
}

func TestRectFarAway(t *testing.T) {
	for _, w := range []*grid.World{open(t, 1, 1), open(t, 20, 9), open(t, 128, 128)} {
		for _, n := range ends {
			for _, k := range cells(n, 0, 0, n, n, n, n, 1, 1, n) {
				hasNoRect(t, w, k)
				hasAround(t, w, k)
			}
		}
	}
}

func TestAll(t *testing.T) {
	hasAll(t, open(t, 1, 1), at(0, 0))
	hasAll(t, open(t, 8, 8), at(0, 0))
	hasAll(t, open(t, 9, 1), at(0, 0), at(1, 0))
	hasAll(t, open(t, 1, 9), at(0, 0), at(0, 1))
	hasAll(t, open(t, 17, 16), at(0, 0), at(1, 0), at(2, 0), at(0, 1), at(1, 1), at(2, 1))
	for _, width := range sides {
		for _, height := range sides {
			var want []api.Cell
			for y := range lengths(height) {
				for x := range lengths(width) {
					want = append(want, at(x, y))
				}
			}
			hasAll(t, open(t, width, height), want...)
		}
	}
}

// Each length at which a loop may be left is tried; what is told is told again when it is gone through anew.
func TestAllIsLeftEarly(t *testing.T) {
	w := open(t, 20, 20)
	all := cluster.All(w)
	whole := slices.Collect(all)
	if len(whole) != 9 {
		t.Fatalf("All = %v", whole)
	}
	for n := 1; n <= len(whole); n++ {
		var got []api.Cell
		for k := range all {
			if got = append(got, k); len(got) == n {
				break
			}
		}
		if !slices.Equal(got, whole[:n]) {
			t.Errorf("All, left behind %d: %v", n, got)
		}
	}
}

func TestAround(t *testing.T) {
	w := open(t, 24, 17)
	hasAround(t, w, at(0, 0), step{api.East, at(1, 0)}, step{api.South, at(0, 1)})
	hasAround(t, w, at(2, 0), step{api.South, at(2, 1)}, step{api.West, at(1, 0)})
	hasAround(t, w, at(0, 2), step{api.East, at(1, 2)}, step{api.North, at(0, 1)})
	hasAround(t, w, at(2, 2), step{api.West, at(1, 2)}, step{api.North, at(2, 1)})
	hasAround(t, w, at(1, 0), step{api.East, at(2, 0)}, step{api.South, at(1, 1)}, step{api.West, at(0, 0)})
	hasAround(t, w, at(1, 1), step{api.East, at(2, 1)}, step{api.South, at(1, 2)}, step{api.West, at(0, 1)}, step{api.North, at(1, 0)})
	hasAround(t, open(t, 8, 8), at(0, 0))
	hasAround(t, open(t, 1, 1), at(0, 0))
	hasAround(t, open(t, 128, 128), at(15, 15), step{api.West, at(14, 15)}, step{api.North, at(15, 14)})
}

func TestAroundOfNoneOfTheWorlds(t *testing.T) {
	w := open(t, 24, 17)
	for n := -1; n <= 3; n++ {
		for _, k := range cells(n, -1, n, 3, -1, n, 3, n) {
			hasAround(t, w, k)
		}
	}
}

// A neighbour is one of all clusters, just one farther to a side; to come back is the other one's direction.
func TestAroundByDefinition(t *testing.T) {
	turns := []api.Cell{at(1, 0), at(0, 1), at(-1, 0), at(0, -1)}
	for _, width := range sides[:11] {
		for _, height := range sides[:11] {
			w := open(t, width, height)
			all := slices.Collect(cluster.All(w))
			for _, k := range all {
				var want []step
				for dir, turn := range turns {
					if next := at(k.X+turn.X, k.Y+turn.Y); slices.Contains(all, next) {
						want = append(want, step{dir, next})
					}
				}
				hasAround(t, w, k, want...)
			}
		}
	}
}

func TestAroundIsLeftEarly(t *testing.T) {
	around := cluster.Around(open(t, 24, 24), at(1, 1))
	whole := steps(around)
	if len(whole) != 4 {
		t.Fatalf("Around = %v", whole)
	}
	for n := 1; n <= 4; n++ {
		var got []step
		for dir, k := range around {
			if got = append(got, step{dir, k}); len(got) == n {
				break
			}
		}
		if !slices.Equal(got, whole[:n]) {
			t.Errorf("Around, left behind %d: %v", n, got)
		}
	}
}

func TestCrossed(t *testing.T) {
	crosses(t, at(0, 0), 0)
	crosses(t, at(math.MinInt, math.MaxInt), 0)
	crosses(t, at(3, 3), 0, at(3, 3), at(4, 3), at(7, 7), at(0, 0))
	crosses(t, at(7, 0), 1, at(8, 0))
	crosses(t, at(8, 0), 1, at(7, 0))
	crosses(t, at(0, 7), 1, at(0, 8))
	crosses(t, at(0, 8), 1, at(1, 7))
	crosses(t, at(7, 7), 1, at(8, 7), at(9, 6))
	crosses(t, at(7, 7), 2, at(8, 8), at(9, 8))
	crosses(t, at(8, 8), 2, at(7, 7))
	crosses(t, at(7, 8), 2, at(8, 7))
	crosses(t, at(7, 7), 4, at(8, 8), at(7, 7))
	crosses(t, at(7, 0), 3, at(8, 0), at(7, 0), at(8, 0))
	crosses(t, at(0, 0), 5, at(24, 16))
	crosses(t, at(0, 0), 9, at(24, 16), at(8, 0))
}

func TestCrossedBelowZero(t *testing.T) {
	crosses(t, at(0, 0), 1, at(-1, 0))
	crosses(t, at(-1, -1), 2, at(0, 0))
	crosses(t, at(-1, -1), 0, at(-8, -8))
	crosses(t, at(-8, -8), 2, at(-9, -9))
	crosses(t, at(-8, 3), 1, at(-9, 3))
	crosses(t, at(7, 7), 3, at(-7, 7), at(-8, 0), at(7, -1))
}

// Cells need not be near, nor a path's: how far its steps are apart is what counts.
func TestCrossedFarAway(t *testing.T) {
	crosses(t, at(0, 0), 1<<17, at(far, 0))
	crosses(t, at(0, 0), 1<<17, at(0, -far))
	crosses(t, at(-far/2, far/2), 1<<18, at(far/2, -far/2))
	crosses(t, at(math.MaxInt, math.MinInt), 0, at(math.MaxInt-7, math.MinInt+7))
	crosses(t, at(math.MaxInt, math.MinInt), 2, at(math.MaxInt-8, math.MinInt+8))
	crosses(t, at(math.MinInt, math.MaxInt), 1<<18, at(math.MinInt+far, math.MaxInt-far))
	crosses(t, at(math.MinInt+far, math.MaxInt-far), 1<<18, at(math.MinInt, math.MaxInt))
}

// A long path: the sum is greater than any of the world's own.
func TestCrossedOfALongPath(t *testing.T) {
	path := make([]api.Cell, 1<<16)
	for i := range path {
		path[i] = at(i%2*far, (i+1)%2*far)
	}
	crosses(t, at(far, 0), 1<<34, path...)
}

// Of steps that are farther apart than Far it is to end, and to tell the same again.
func TestCrossedEnds(t *testing.T) {
	for _, a := range ends {
		for _, b := range ends {
			path := cells(a, b, b, a, a, a, b, b, 0, a, b, 0)
			if first := cluster.Crossed(at(b, a), path); cluster.Crossed(at(b, a), path) != first {
				t.Fatalf("Crossed of %v", path)
			}
		}
	}
}

// Over a border and back is as much as there; a path's parts are added.
func TestCrossedAdds(t *testing.T) {
	d := dice(1)
	for range 200 {
		path := d.walk(40)
		sum, from := 0, path[0]
		for _, c := range path[1:] {
			k, next := cluster.Of(from), cluster.Of(c)
			sum += max(k.X, next.X) - min(k.X, next.X) + max(k.Y, next.Y) - min(k.Y, next.Y)
			from = c
		}
		crosses(t, path[0], sum, path[1:]...)
		slices.Reverse(path)
		crosses(t, path[0], sum, path[1:]...)
	}
}

func TestTouched(t *testing.T) {
	w := open(t, 40, 40)
	touches(t, w, rect(0, 0, 1, 1), cells(0, 0, 1, 0, 0, 1, 1, 1)...)
	touches(t, w, rect(39, 39, 1, 1), cells(3, 3, 4, 3, 3, 4, 4, 4)...)
	touches(t, w, rect(39, 0, 1, 1), cells(3, 0, 4, 0, 3, 1, 4, 1)...)
	touches(t, w, rect(0, 39, 1, 1), cells(0, 3, 1, 3, 0, 4, 1, 4)...)
	touches(t, w, rect(20, 20, 1, 1), cells(1, 1, 2, 1, 3, 1, 1, 2, 2, 2, 3, 2, 1, 3, 2, 3, 3, 3)...)
	touches(t, w, rect(20, 4, 1, 1), cells(1, 0, 2, 0, 3, 0, 1, 1, 2, 1, 3, 1)...)
	touches(t, open(t, 10, 2), rect(0, 0, 1, 1), cells(0, 0, 1, 0)...)
	touches(t, open(t, 1, 1), rect(0, 0, 1, 1), at(0, 0))
	touches(t, open(t, 8, 8), rect(0, 0, 8, 8), at(0, 0))
}

// The first cells of a cluster are met from the one ahead of it, too: three cells of it.
func TestTouchedAtABorder(t *testing.T) {
	w := open(t, 128, 1)
	touches(t, w, rect(63, 0, 1, 1), cells(6, 0, 7, 0, 8, 0)...)
	for x := 64; x <= 66; x++ {
		touches(t, w, rect(x, 0, 1, 1), cells(6, 0, 7, 0, 8, 0, 9, 0)...)
	}
	for x := 67; x <= 71; x++ {
		touches(t, w, rect(x, 0, 1, 1), cells(7, 0, 8, 0, 9, 0)...)
	}
	touches(t, w, rect(67, 0, 5, 1), cells(7, 0, 8, 0, 9, 0)...)
	touches(t, w, rect(67, 0, 6, 1), cells(7, 0, 8, 0, 9, 0, 10, 0)...)
	w = open(t, 1, 128)
	touches(t, w, rect(0, 63, 1, 1), cells(0, 6, 0, 7, 0, 8)...)
	touches(t, w, rect(0, 66, 1, 1), cells(0, 6, 0, 7, 0, 8, 0, 9)...)
	touches(t, w, rect(0, 67, 1, 5), cells(0, 7, 0, 8, 0, 9)...)
	touches(t, w, rect(0, 67, 1, 6), cells(0, 7, 0, 8, 0, 9, 0, 10)...)
}

// An edit of the whole world touches all; a great one is not to be held against a building's bounds.
func TestTouchedOfTheWholeWorld(t *testing.T) {
	for _, width := range sides {
		for _, height := range sides {
			w := open(t, width, height)
			touches(t, w, w.All(), slices.Collect(cluster.All(w))...)
		}
	}
}

func TestTouchedOfNone(t *testing.T) {
	for _, w := range []*grid.World{open(t, 1, 1), open(t, 20, 9), open(t, 128, 128)} {
		all := w.All()
		for _, n := range append([]int{-128, -8, -1, 0}, ends...) {
			for _, r := range []api.Rect{rect(0, 0, n, 1), rect(0, 0, 1, n), rect(0, 0, n, n), rect(0, 0, n, all.H), rect(0, 0, all.W, n)} {
				touches(t, w, r)
			}
		}
		for _, n := range append([]int{-8, -4, -3, -1, 128, 129}, ends...) {
			for _, r := range []api.Rect{rect(n, 0, 1, 1), rect(0, n, 1, 1), rect(n, n, 1, 1), rect(n, 0, math.MaxInt, 1), rect(0, n, 1, math.MaxInt), rect(n, n, n, n), rect(n, n, 4, 4), rect(n, 0, -n, 1), rect(0, n, 1, -n)} {
				touches(t, w, r)
			}
		}
		for _, r := range []api.Rect{{}, rect(-1, 0, 2, 1), rect(0, -1, 1, 2), rect(all.W-1, 0, 2, 1), rect(0, all.H-1, 1, 2), rect(all.W, 0, 1, 1), rect(0, all.H, 1, 1),
			rect(0, 0, all.W+1, all.H), rect(0, 0, all.W, all.H+1), rect(-1, -1, all.W+2, all.H+2), rect(-3, -3, 4, 4), rect(-1, 0, all.W, all.H), rect(0, 1, all.W, all.H)} {
			touches(t, w, r)
		}
	}
}

func TestNoWorld(t *testing.T) {
	for _, w := range noWorlds() {
		for _, n := range append([]int{-8, -1, 0, 1, 8}, ends...) {
			for _, k := range cells(n, 0, 0, n, n, n) {
				hasNoRect(t, w, k)
				hasAround(t, w, k)
				touches(t, w, api.Rect{At: k, W: 1, H: 1})
			}
			touches(t, w, rect(0, 0, n, n))
		}
		hasAll(t, w)
	}
}

// Each cell is in the rectangle of its own cluster, and in no other one; and no rectangle has another cell.
func TestEachCellIsInOneCluster(t *testing.T) {
	for _, width := range sides {
		for _, height := range []int{1, 7, 8, 9, 17, 128} {
			w := open(t, width, height)
			seen := map[api.Cell]int{}
			for k := range cluster.All(w) {
				r, ok := cluster.Rect(w, k)
				if !ok {
					t.Fatalf("%v has no rectangle in %v", k, w.All())
				}
				for y := r.At.Y; y < r.At.Y+r.H; y++ {
					for x := r.At.X; x < r.At.X+r.W; x++ {
						seen[at(x, y)]++
						if cluster.Of(at(x, y)) != k {
							t.Fatalf("Of %d, %d is not %v", x, y, k)
						}
					}
				}
			}
			for y := range height {
				for x := range width {
					if seen[at(x, y)] != 1 {
						t.Fatalf("%d, %d of %v is in %d clusters", x, y, w.All(), seen[at(x, y)])
					}
				}
			}
			if len(seen) != width*height {
				t.Fatalf("%d cells of %v", len(seen), w.All())
			}
		}
	}
}

// Nothing hangs on tiles, buildings or edits.
func TestEditsTurnNothing(t *testing.T) {
	w, bare := open(t, 20, 20), open(t, 20, 20)
	around := cluster.Around(w, at(1, 1))
	for id := 1; id <= 3; id++ {
		if code := w.Place(api.Building{Id: id, Foot: rect(6*id-6, 3, 4, 8)}); code != api.OK {
			t.Fatalf("Place: error %d", code)
		}
		hasAll(t, w, slices.Collect(cluster.All(bare))...)
		hasAround(t, w, at(1, 1), steps(around)...)
		for k := range cluster.All(bare) {
			want, _ := cluster.Rect(bare, k)
			hasRect(t, w, k, want)
		}
		touches(t, w, rect(9, 9, 2, 2), cluster.Touched(bare, rect(9, 9, 2, 2))...)
	}
	if w.Epoch() != 3 {
		t.Error("an edit was made")
	}
}

// What is handed in stays, and what lies behind a list's end; an answer is the caller's.
func TestMemory(t *testing.T) {
	room := cells(7, 7, 8, 8, 9, 9, 1, 1)
	path := room[1:2]
	crosses(t, room[0], 2, path...)
	if !slices.Equal(room, cells(7, 7, 8, 8, 9, 9, 1, 1)) {
		t.Errorf("Crossed turned its path: %v", room)
	}
	w := open(t, 40, 40)
	first, second := cluster.Touched(w, rect(9, 9, 1, 1)), cluster.Touched(w, rect(9, 9, 1, 1))
	want := slices.Clone(first)
	for i := range first[:cap(first)] {
		first[:cap(first)][i] = at(-5, -5)
	}
	if !slices.Equal(second, want) || !slices.Equal(cluster.Touched(w, rect(9, 9, 1, 1)), want) {
		t.Error("Touched's answers share memory")
	}
}
