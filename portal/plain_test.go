package portal_test

import (
	"slices"
	"testing"

	"phalanx/api"
	"phalanx/cell"
	"phalanx/class"
	"phalanx/cluster"
	"phalanx/grid"
	"phalanx/portal"
)

// field is where a shape stands in a map, row by row, by the words alone.
type field struct {
	w, h   int
	stands []bool
}

// plain is a map's field.
func plain(m api.Map, s api.Shape) field {
	f := field{w: m.W, h: m.H}
	free := make([]bool, m.W*m.H)
	on := [][]byte{{api.Plain, api.Wood}, {api.Plain}, {api.Water}, {api.Plain, api.Water}}[s.Class]
	for i, terrain := range m.Tiles {
		free[i] = slices.Contains(on, terrain)
	}
	for _, b := range m.Built {
		for y := range b.Foot.H {
			for x := range b.Foot.W {
				free[(b.Foot.At.Y+y)*m.W+b.Foot.At.X+x] = false
			}
		}
	}
	for y := range m.H {
		for x := range m.W {
			f.stands = append(f.stands, fits(free, m, s.Size, x, y))
		}
	}
	return f
}

func fits(free []bool, m api.Map, size, x, y int) bool {
	for down := range size {
		for right := range size {
			if x+right >= m.W || y+down >= m.H || !free[(y+down)*m.W+x+right] {
				return false
			}
		}
	}
	return true
}

func (f field) at(x, y int) bool {
	return 0 <= x && x < f.w && 0 <= y && y < f.h && f.stands[y*f.w+x]
}

// columns and rows are how many of the world's clusters lie one beside, and one below the other.
func (f field) columns() int { return (f.w + 7) / 8 }

func (f field) rows() int { return (f.h + 7) / 8 }

// pairs is a border's, from above or from the left, and which of them are open; none, if there is no such border.
func (f field) pairs(k api.Cell, dir int) ([]api.Portal, []bool) {
	var l []api.Portal
	switch {
	case k.X < 0 || k.X >= f.columns() || k.Y < 0 || k.Y >= f.rows():
	case dir == api.East && k.X+1 < f.columns():
		for y := 8 * k.Y; y < 8*k.Y+8 && y < f.h; y++ {
			l = append(l, right(8*k.X+7, y))
		}
	case dir == api.South && k.Y+1 < f.rows():
		for x := 8 * k.X; x < 8*k.X+8 && x < f.w; x++ {
			l = append(l, below(x, 8*k.Y+7))
		}
	}
	var open []bool
	for _, p := range l {
		open = append(open, f.at(p.A.X, p.A.Y) && f.at(p.B.X, p.B.Y))
	}
	return l, open
}

// between is a border's runs and portals: of all stretches of pairs, those that are open, and are not within a longer such one.
func (f field) between(k api.Cell, dir int) (runs []api.Rect, portals []api.Portal) {
	pairs, open := f.pairs(k, dir)
	for from := range pairs {
		for to := from; to < len(pairs); to++ {
			if slices.Contains(open[from:to+1], false) || from > 0 && open[from-1] || to+1 < len(pairs) && open[to+1] {
				continue
			}
			first, last := pairs[from].A, pairs[to].A
			runs = append(runs, rect(first.X, first.Y, last.X-first.X+1, last.Y-first.Y+1))
			portals = append(portals, pairs[from+(to-from)/2])
		}
	}
	return runs, portals
}

// all is all portals: those of each A, row by row, as the borders' lists have them.
func (f field) all() []api.Portal {
	seen := map[api.Portal]bool{}
	for y := range f.rows() {
		for x := range f.columns() {
			for _, dir := range []int{api.East, api.South} {
				_, l := f.between(at(x, y), dir)
				for _, p := range l {
					seen[p] = true
				}
			}
		}
	}
	var l []api.Portal
	for y := range f.h {
		for x := range f.w {
			for _, p := range []api.Portal{right(x, y), below(x, y)} {
				if seen[p] {
					l = append(l, p)
				}
			}
		}
	}
	return l
}

// dice are numbers of no pattern, the same each time.
type dice uint64

// to is a number of 0 to n - 1.
func (d *dice) to(n int) int {
	*d = *d*6364136223846793005 + 1442695040888963407
	return int(uint64(*d)>>33) % n
}

// side is one of those at which borders begin, end, or are cut off, or any.
func (d *dice) side() int {
	some := []int{1, 7, 8, 9, 10, 11, 12, 15, 16, 17, 18, 20, 24, 25, 28}
	if i := d.to(len(some) + 5); i < len(some) {
		return some[i]
	}
	return 1 + d.to(34)
}

// mottled is a map of all terrains, one of which is usual.
func (d *dice) mottled(width, height int) api.Map {
	m := api.Map{W: width, H: height}
	usual := []byte{api.Plain, api.Plain, api.Water, api.Wood}[d.to(4)]
	m.Tiles = slices.Repeat([]byte{usual}, m.W*m.H)
	for range d.to(m.W*m.H/3 + 1) {
		m.Tiles[d.to(len(m.Tiles))] = byte(d.to(api.Terrains))
	}
	return m
}

// world is one with patches of terrain and a few buildings.
func (d *dice) world(t *testing.T) *grid.World {
	t.Helper()
	w := made(t, d.mottled(d.side(), d.side()))
	for range d.to(6) {
		d.edit(w)
	}
	return w
}

// edit places a building, razes one, or is refused.
func (d *dice) edit(w *grid.World) {
	if d.to(3) == 0 {
		w.Raze(1 + d.to(8))
		return
	}
	w.Place(api.Building{Id: 1 + d.to(8), Foot: rect(d.to(w.All().W), d.to(w.All().H), 1+d.to(5), 1+d.to(5))})
}

// isPlain holds all three calls against the plain definition, at clusters about the world, and at directions about those that are: how many runs there are.
func isPlain(t *testing.T, w *grid.World, s api.Shape) int {
	t.Helper()
	f, found := plain(w.Map(), s), 0
	for y := -1; y <= f.rows(); y++ {
		for x := -1; x <= f.columns(); x++ {
			for dir := -1; dir <= api.Directions; dir++ {
				runs, portals := f.between(at(x, y), dir)
				hasRuns(t, w, s, at(x, y), dir, runs...)
				hasBetween(t, w, s, at(x, y), dir, portals...)
				found += len(runs)
			}
		}
	}
	hasAll(t, w, s, f.all()...)
	return found
}

func TestByDefinition(t *testing.T) {
	d, found := dice(1), map[api.Shape]int{}
	for range 150 {
		w := d.world(t)
		for _, s := range shapes() {
			found[s] += isPlain(t, w, s)
		}
	}
	for _, s := range shapes() {
		if found[s] < 20 {
			t.Errorf("there are %d runs of %v", found[s], s)
		}
	}
}

// All borders of eight pairs there are, to the right and below.
func TestAllBorders(t *testing.T) {
	for mask := range 256 {
		m := plainTiles(16, 8)
		for y := range 8 {
			if mask>>y&1 == 1 {
				m = rock(m, at(7+y%2, y))
			}
		}
		isPlain(t, made(t, m), foot)
		isPlain(t, made(t, turned(m)), foot)
	}
}

// Behind each edit all is as of a world that is made anew, and of a copy; a world that came back to its map tells what it told.
func TestBehindEdits(t *testing.T) {
	d := dice(2)
	for range 12 {
		w := d.world(t)
		for range 12 {
			d.edit(w)
			s := shapes()[d.to(16)]
			anew := made(t, w.Map())
			for _, other := range []*grid.World{anew, w.Copy()} {
				hasAll(t, w, s, portal.All(other, s)...)
				for k := range cluster.All(w) {
					for _, dir := range []int{api.East, api.South} {
						hasRuns(t, w, s, k, dir, portal.Runs(other, s, k, dir)...)
						hasBetween(t, w, s, k, dir, portal.Between(other, s, k, dir)...)
					}
				}
			}
			isPlain(t, w, s)
		}
	}
}

// All is what Between tells of all clusters, in another order, and each portal lies in its run.
func TestAllIsWhatBetweenTells(t *testing.T) {
	d := dice(3)
	for range 60 {
		w, s := d.world(t), shapes()[d.to(16)]
		all := portal.All(w, s)
		n := 0
		for k := range cluster.All(w) {
			for _, dir := range []int{api.East, api.South} {
				runs, portals := portal.Runs(w, s, k, dir), portal.Between(w, s, k, dir)
				if len(runs) != len(portals) {
					t.Fatalf("%d runs, and %d portals", len(runs), len(portals))
				}
				for i, p := range portals {
					if !slices.Contains(all, p) || !cell.Has(runs[i], p.A) || cluster.Of(p.A) != k || cell.Dir(p.A, p.B) != dir || !class.Steps(w, s, p.A, dir) {
						t.Fatalf("%v of %v in %v", p, runs[i], w.Map())
					}
				}
				n += len(portals)
			}
		}
		if n != len(all) {
			t.Fatalf("All has %d portals, the borders %d", len(all), n)
		}
	}
}

// borderOf is whose border, and which, lies between two clusters; false: they are no neighbours.
func borderOf(k, next api.Cell) (api.Cell, int, bool) {
	switch next {
	case at(k.X+1, k.Y):
		return k, api.East, true
	case at(k.X, k.Y+1):
		return k, api.South, true
	case at(k.X-1, k.Y):
		return next, api.East, true
	case at(k.X, k.Y-1):
		return next, api.South, true
	}
	return api.Cell{}, 0, false
}

// Where a shape steps from a cluster to a neighbour, straight or over a corner, there is a run; a step's own pair is one of it.
func TestStepsHaveRuns(t *testing.T) {
	d := dice(4)
	straight, overCorner, overBoth := 0, 0, 0
	for range 80 {
		w, s := d.world(t), shapes()[d.to(16)]
		for c := range cell.Cells(w.All()) {
			for dir, next := range class.Around(w, s, c) {
				from, to := cluster.Of(c), cluster.Of(next)
				k, side, ok := borderOf(from, to)
				if from != to && !ok {
					overBoth++
				}
				if !ok {
					continue
				}
				runs := portal.Runs(w, s, k, side)
				if len(runs) == 0 || len(portal.Between(w, s, k, side)) == 0 {
					t.Fatalf("%v steps from %v to %v in %v, and there is no run", s, c, next, w.Map())
				}
				if dir > api.North {
					overCorner++
					continue
				}
				straight++
				a := c
				if k != from {
					a = next
				}
				if !slices.ContainsFunc(runs, func(r api.Rect) bool { return cell.Has(r, a) }) {
					t.Fatalf("%v steps from %v to %v in %v, and that is in none of %v", s, c, next, w.Map(), runs)
				}
			}
		}
	}
	if straight < 1000 || overCorner < 1000 || overBoth < 20 {
		t.Errorf("%d, %d and %d steps", straight, overCorner, overBoth)
	}
}

// Where all pairs are closed nobody steps across, not over a corner either, though each side of the border has free cells.
func TestNoRunsNoSteps(t *testing.T) {
	m := rock(plainTiles(16, 8), cells(7, 0, 8, 1, 7, 2, 8, 3, 7, 4, 8, 5, 7, 6, 8, 7)...)
	for _, m := range []api.Map{m, turned(m)} {
		w := made(t, m)
		hasAll(t, w, foot)
		for c := range cell.Cells(w.All()) {
			for _, next := range class.Around(w, foot, c) {
				if cluster.Of(c) != cluster.Of(next) {
					t.Fatalf("from %v to %v", c, next)
				}
			}
		}
	}
}
