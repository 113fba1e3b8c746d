package clear

import (
	"slices"
	"testing"

	"phalanx/api"
	"phalanx/grid"
)

// reachedOf is what an edit on rectangles lets a field of an open world reckon anew.
func reachedOf(t *testing.T, w, h int, edited ...api.Rect) []api.Cell {
	t.Helper()
	world, _ := grid.New(api.Map{W: w, H: h, Tiles: make([]byte, w*h)})
	f, code := New(world, api.Foot)
	if code != api.OK {
		t.Fatalf("New: error %d", code)
	}
	return slices.Collect(f.reached(edited))
}

// hangs tells whether the greatest shape at a cell would have a tile of a rectangle.
func hangs(c api.Cell, r api.Rect) bool {
	return c.X < r.At.X+r.W && r.At.X < c.X+api.MaxSize && c.Y < r.At.Y+r.H && r.At.Y < c.Y+api.MaxSize
}

// TestReached: just the cells that edits can turn are reckoned anew, each once, from the last one back.
func TestReached(t *testing.T) {
	const w, h = 20, 18
	rect := func(x, y, w, h int) api.Rect { return api.Rect{At: api.Cell{X: x, Y: y}, W: w, H: h} }
	for _, edited := range [][]api.Rect{
		nil,
		{},
		{rect(9, 9, 1, 1)},
		{rect(9, 9, 1, 1), rect(9, 9, 1, 1)},
		{rect(0, 0, 1, 1)},
		{rect(w-1, h-1, 1, 1)},
		{rect(w-1, 0, 1, 1), rect(0, h-1, 1, 1)},
		{rect(5, 6, 8, 8)},
		{rect(2, 3, 2, 1), rect(4, 3, 1, 2), rect(15, 12, 3, 3)},
		{rect(15, 12, 3, 3), rect(4, 3, 1, 2), rect(2, 3, 2, 1)},
		{rect(0, 0, w, h)},
	} {
		var want []api.Cell
		for y := h - 1; y >= 0; y-- {
			for x := w - 1; x >= 0; x-- {
				c := api.Cell{X: x, Y: y}
				if slices.ContainsFunc(edited, func(r api.Rect) bool { return hangs(c, r) }) {
					want = append(want, c)
				}
			}
		}
		if got := reachedOf(t, w, h, edited...); !slices.Equal(got, want) {
			t.Errorf("behind edits on %v: %v, want %v", edited, got, want)
		}
	}
}

// TestReachedLeftEarly: the loop may be left.
func TestReachedLeftEarly(t *testing.T) {
	world, _ := grid.New(api.Map{W: 5, H: 5, Tiles: make([]byte, 25)})
	f, _ := New(world, api.Foot)
	n := 0
	for range f.reached([]api.Rect{{W: 5, H: 5}}) {
		n++
		if n == 3 {
			break
		}
	}
	if n != 3 {
		t.Errorf("%d cells", n)
	}
}
