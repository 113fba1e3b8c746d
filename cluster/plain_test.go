package cluster_test

import (
	"slices"
	"testing"

	"phalanx/api"
	"phalanx/cell"
	"phalanx/class"
	"phalanx/cluster"
	"phalanx/grid"
	"phalanx/route"
)

// dice are numbers that are the same in each run.
type dice uint64

func (d *dice) to(n int) int {
	*d = *d*6364136223846793005 + 1442695040888963407
	return int(uint64(*d)>>33) % n
}

// walk is a path about 0, whose first cell is where it begins.
func (d *dice) walk(n int) []api.Cell {
	var l []api.Cell
	c := at(d.to(40)-20, d.to(40)-20)
	for range n {
		l = append(l, c)
		c = at(c.X+d.to(27)-13, c.Y+d.to(27)-13)
	}
	return l
}

// rect is one within a world.
func (d *dice) rect(w *grid.World) api.Rect {
	all := w.All()
	r := api.Rect{At: at(d.to(all.W), d.to(all.H))}
	r.W, r.H = 1+d.to(min(8, all.W-r.At.X)), 1+d.to(min(8, all.H-r.At.Y))
	return r
}

// mottled is a world of all terrains, in which much hangs together.
func (d *dice) mottled(t *testing.T, width, height int) *grid.World {
	t.Helper()
	m := api.Map{W: width, H: height}
	for range width * height {
		m.Tiles = append(m.Tiles, []byte{0, 0, 0, 0, 0, 0, 0, 0, 1, 2, 3}[d.to(11)])
	}
	w, code := grid.New(m)
	if code != api.OK {
		t.Fatalf("New: error %d", code)
	}
	return w
}

// plainTouched is Touched by its words: cell by cell, and then neighbour by neighbour.
func plainTouched(width, height int, r api.Rect) []api.Cell {
	met := map[api.Cell]bool{}
	for y := range height {
		for x := range width {
			if x < r.At.X+r.W && r.At.X < x+4 && y < r.At.Y+r.H && r.At.Y < y+4 {
				met[at(x/8, y/8)] = true
			}
		}
	}
	var l []api.Cell
	for y := range (height + 7) / 8 {
		for x := range (width + 7) / 8 {
			if met[at(x, y)] || nextTo(met, x, y) {
				l = append(l, at(x, y))
			}
		}
	}
	return l
}

func nextTo(met map[api.Cell]bool, x, y int) bool {
	for _, turn := range cells(1, 0, 0, 1, -1, 0, 0, -1, 1, 1, -1, 1, -1, -1, 1, -1) {
		if met[at(x+turn.X, y+turn.Y)] {
			return true
		}
	}
	return false
}

func TestTouchedByDefinition(t *testing.T) {
	d := dice(2)
	for _, width := range []int{1, 7, 8, 9, 15, 16, 17, 25, 33, 40} {
		for _, height := range []int{1, 7, 8, 9, 16, 17, 25, 40} {
			w := open(t, width, height)
			for range 60 {
				r := d.rect(w)
				touches(t, w, r, plainTouched(width, height, r)...)
			}
		}
	}
}

// All rectangles of a small world are gone through.
func TestTouchedOfAllRectangles(t *testing.T) {
	const width, height = 27, 11
	w := open(t, width, height)
	for c := range cell.Cells(w.All()) {
		for wide := range width - c.X {
			for _, high := range []int{1, height - c.Y} {
				r := api.Rect{At: c, W: wide + 1, H: high}
				touches(t, w, r, plainTouched(width, height, r)...)
			}
		}
	}
}

// look is all that is asked of a cluster: how far its cells are from each other within it, and where one comes across its borders.
func look(w *grid.World, s api.Shape, k api.Cell) []int {
	in, _ := cluster.Rect(w, k)
	var l []int
	for c := range cell.Cells(in) {
		far, _ := route.Costs(w, s, c, in)
		l = append(l, far...)
		for dir := range api.Directions {
			next, _ := cell.Step(c, dir)
			l = append(l, cluster.Crossed(c, []api.Cell{next}))
			if !cell.Has(in, next) && class.Steps(w, s, c, dir) {
				l = append(l, dir)
			}
		}
	}
	return l
}

// What an edit turns, turns in clusters that are touched, for the greatest shape, too.
func TestOthersAreNotTurned(t *testing.T) {
	d := dice(3)
	turned := 0
	for id := 1; id <= 12; id++ {
		w := d.mottled(t, 44, 36)
		s := api.Shape{Class: d.to(2), Size: 1 + id%4}
		was := map[api.Cell][]int{}
		for k := range cluster.All(w) {
			was[k] = look(w, s, k)
		}
		r := d.rect(w)
		if code := w.Place(api.Building{Id: id, Foot: r}); code != api.OK {
			t.Fatalf("Place: error %d", code)
		}
		touched := cluster.Touched(w, r)
		for k := range cluster.All(w) {
			if slices.Equal(was[k], look(w, s, k)) {
				continue
			}
			turned++
			if !slices.Contains(touched, k) {
				t.Fatalf("%v turned by %v in %v; Touched = %v", k, r, w.Map(), touched)
			}
		}
	}
	if turned == 0 {
		t.Error("no edit turned anything")
	}
}
