package settle_test

import (
	"slices"
	"testing"

	"phalanx/api"
	"phalanx/grid"
	"phalanx/parts"
	"phalanx/settle"
)

// plain is a world as its map says it, and a shape: nothing else is asked.
type plain struct {
	m api.Map
	s api.Shape
}

func plainOf(w *grid.World, s api.Shape) plain { return plain{w.Map(), s} }

// plainHas tells whether a rectangle that may be has a cell.
func plainHas(r api.Rect, c api.Cell) bool {
	return r.At.X <= c.X && c.X-r.At.X < r.W && r.At.Y <= c.Y && c.Y-r.At.Y < r.H
}

// plainMay tells whether a rectangle may be.
func plainMay(r api.Rect) bool {
	return r.At.X >= -far && r.At.X <= far && r.At.Y >= -far && r.At.Y <= far &&
		r.W >= 1 && r.W <= far && r.H >= 1 && r.H <= far && r.At.X+r.W-1 <= far && r.At.Y+r.H-1 <= far
}

// carries tells whether the shape's class stands on a tile, and no building does.
func (p plain) carries(tile api.Cell) bool {
	if tile.X < 0 || tile.Y < 0 || tile.X >= p.m.W || tile.Y >= p.m.H {
		return false
	}
	for _, b := range p.m.Built {
		if plainHas(b.Foot, tile) {
			return false
		}
	}
	switch p.m.Tiles[tile.Y*p.m.W+tile.X] {
	case api.Plain:
		return p.s.Class != api.Boat
	case api.Wood:
		return p.s.Class == api.Foot
	case api.Water:
		return p.s.Class == api.Boat || p.s.Class == api.Hover
	}
	return false
}

// foot are the tiles on which the shape stands at a cell.
func (p plain) foot(c api.Cell) []api.Cell {
	var l []api.Cell
	for y := range p.s.Size {
		for x := range p.s.Size {
			l = append(l, at(c.X+x, c.Y+y))
		}
	}
	return l
}

// stands tells whether the shape stands at a cell.
func (p plain) stands(c api.Cell) bool {
	for _, tile := range p.foot(c) {
		if !p.carries(tile) {
			return false
		}
	}
	return true
}

// reached are all cells to which legal steps lead: 1 of each.
func (p plain) reached(from api.Cell) map[api.Cell]int {
	come := map[api.Cell]int{}
	if !p.stands(from) {
		return come
	}
	come[from] = 1
	for next := []api.Cell{from}; len(next) > 0; next = next[1:] {
		c := next[0]
		for y := -1; y <= 1; y++ {
			for x := -1; x <= 1; x++ {
				to := at(c.X+x, c.Y+y)
				if come[to] == 0 && p.stands(to) && p.stands(at(c.X+x, c.Y)) && p.stands(at(c.X, c.Y+y)) {
					come[to] = 1
					next = append(next, to)
				}
			}
		}
	}
	return come
}

// takes tells whether one of the rectangles has a tile of the footprint.
func (p plain) takes(taken []api.Rect, c api.Cell) bool {
	for _, r := range taken {
		if plainMay(r) && slices.ContainsFunc(p.foot(c), func(tile api.Cell) bool { return plainHas(r, tile) }) {
			return true
		}
	}
	return false
}

// plainFar is what steps over corners as far as both sides ask for them, and then straight ones, cost.
func plainFar(a, b api.Cell) int {
	x, y := max(a.X-b.X, b.X-a.X), max(a.Y-b.Y, b.Y-a.Y)
	if x < y {
		return 14*x + 10*(y-x)
	}
	return 14*y + 10*(x-y)
}

// doing are all cells that will do, row by row.
func (p plain) doing(from api.Cell, taken []api.Rect) []api.Cell {
	var l []api.Cell
	come := p.reached(from)
	for y := range p.m.H {
		for x := range p.m.W {
			if c := at(x, y); come[c] == 1 && !p.takes(taken, c) {
				l = append(l, c)
			}
		}
	}
	return l
}

// plainNearest is the one of some cells, that come row by row, that comes first when they are sorted by how far they are.
func plainNearest(l []api.Cell, want api.Cell) api.Cell {
	l = slices.Clone(l)
	slices.SortStableFunc(l, func(a, b api.Cell) int { return plainFar(a, want) - plainFar(b, want) })
	return l[0]
}

// holds holds all that is told against the plain reckoning, for some wanted cells.
func holds(t *testing.T, l land, from api.Cell, taken []api.Rect, wanted ...api.Cell) {
	t.Helper()
	p := plainOf(l.w, l.s)
	doing := p.doing(from, taken)
	for _, want := range wanted {
		if len(doing) == 0 {
			l.refuses(t, from, want, taken, api.ErrNone)
			continue
		}
		l.tells(t, from, want, taken, plainNearest(doing, want))
		// What follows: what is wanted is told, if it will do.
		if c, _ := l.nearest(from, want, taken); l.will(from, want, taken) && c != want {
			t.Errorf("Nearest of %v from %v to %v, taken %v: %v, but that one will do", l.s, from, want, taken, c)
		}
	}
	for y := -2; y < p.m.H+2; y++ {
		for x := -2; x < p.m.W+2; x++ {
			if got := l.will(from, at(x, y), taken); got != slices.Contains(doing, at(x, y)) {
				t.Errorf("Will of %v from %v to %v, taken %v: %v", l.s, from, at(x, y), taken, got)
			}
		}
	}
}

// dice are numbers of no pattern, the same ones each time.
type dice uint64

func (d *dice) to(n int) int {
	*d = *d*6364136223846793005 + 1442695040888963407
	return int(uint64(*d)>>33) % n
}

// between draws a number of low to high.
func (d *dice) between(low, high int) int { return low + d.to(high-low+1) }

// world draws one: of one terrain mostly, with some of the others, and some buildings.
func (d *dice) world(t *testing.T, width, height int) *grid.World {
	t.Helper()
	m := api.Map{W: width, H: height}
	most, among := byte(d.to(3)), d.between(2, 12)
	for range width * height {
		tile := most
		if d.to(among) == 0 {
			tile = byte(d.to(api.Terrains))
		}
		m.Tiles = append(m.Tiles, tile)
	}
	w := made(t, m)
	for range d.to(4) {
		d.edit(w)
	}
	return w
}

// edit draws a building, that is placed, or razed if it is there; a building that may not be turns nothing.
func (d *dice) edit(w *grid.World) {
	id := d.between(1, 5)
	if _, code := w.Raze(id); code != api.OK {
		all := w.All()
		w.Place(api.Building{Id: id, Foot: rect(d.to(all.W), d.to(all.H), d.between(1, 3), d.between(1, 3))})
	}
}

// shape draws one, small ones oftener.
func (d *dice) shape() api.Shape {
	return shape(d.to(api.Classes), min(d.between(1, 4), d.between(1, 4)))
}

// cell draws one about a world: beyond it, too.
func (d *dice) cell(all api.Rect) api.Cell {
	switch d.to(12) {
	case 0:
		return at(d.between(-far, far), d.between(-far, far))
	case 1, 2:
		return at(d.between(-4, all.W+3), d.between(-4, all.H+3))
	}
	return at(d.to(all.W), d.to(all.H))
}

// from draws a cell where the shape stands, if it finds one.
func (d *dice) from(p plain) api.Cell {
	c := at(0, 0)
	for range 30 {
		c = at(d.between(-1, p.m.W), d.between(-1, p.m.H))
		if p.stands(c) {
			break
		}
	}
	return c
}

// rect draws one about a world: at times one that lies beside it, or may not be.
func (d *dice) rect(all api.Rect) api.Rect {
	switch d.to(16) {
	case 0:
		l := noRects()
		return l[d.to(len(l))]
	case 1:
		return rect(d.between(-far, 2), d.between(-far, 2), d.between(far-1, far+1), d.between(far-1, far+1))
	case 2:
		return rect(d.to(all.W), d.to(all.H), d.between(-1, 1), d.between(-1, 1))
	case 3, 4:
		return rect(d.between(-3, all.W), d.between(-3, all.H), d.between(1, all.W), d.between(1, all.H))
	}
	return rect(d.between(-3, all.W), d.between(-3, all.H), d.between(1, 4), d.between(1, 4))
}

// rects draws a list of them, at times a long one.
func (d *dice) rects(all api.Rect) []api.Rect {
	n := d.to(6)
	if d.to(8) == 0 {
		n = d.between(10, 40)
	}
	l := make([]api.Rect, n)
	for i := range l {
		l[i] = d.rect(all)
	}
	return l
}

// TestDrawn holds drawn worlds, shapes, cells and rectangles against the plain reckoning, behind edits as well.
func TestDrawn(t *testing.T) {
	var d dice = 19
	for range 3000 {
		w := d.world(t, d.between(1, 14), d.between(1, 14))
		s := d.shape()
		old := landOf(t, w, s)
		for range 4 {
			if _, code := old.p.Update(); code != api.OK {
				t.Fatalf("Update: error %d", code)
			}
			for _, l := range []land{old, landOf(t, w, s)} {
				from, taken := d.from(plainOf(w, s)), d.rects(w.All())
				holds(t, l, from, taken, from, d.cell(w.All()), d.cell(w.All()), d.cell(w.All()))
			}
			d.edit(w)
		}
	}
}

// TestDrawnGreat holds some few greater worlds against the plain reckoning.
func TestDrawnGreat(t *testing.T) {
	var d dice = 190
	for _, side := range [][2]int{{128, 128}, {128, 1}, {1, 128}, {128, 5}, {3, 128}, {40, 60}} {
		for range 20 {
			w := d.world(t, side[0], side[1])
			l := landOf(t, w, d.shape())
			holds(t, l, d.from(plainOf(w, l.s)), d.rects(w.All()), d.cell(w.All()), d.cell(w.All()))
		}
	}
}

// TestDrawnRefused spoils what is handed in: the first error that fits is told.
func TestDrawnRefused(t *testing.T) {
	var d dice = 1900
	wrong := noShapes()
	for range 4000 {
		w := d.world(t, d.between(1, 6), d.between(1, 6))
		l := landOf(t, w, d.shape())
		from, want, taken := d.cell(w.All()), d.cell(w.All()), d.rects(w.All())
		code := api.ErrNone
		if d.to(2) == 0 {
			l.s, code = wrong[d.to(len(wrong))], api.ErrArg
		}
		if d.to(2) == 0 {
			want, code = at(beyond[d.to(len(beyond))], d.between(-far, far)), api.ErrArg
		}
		if d.to(2) == 0 {
			want.X, want.Y = want.Y, want.X
		}
		if d.to(2) == 0 || code == api.ErrNone {
			from = at(w.All().W+d.to(9), d.between(-9, 9))
		}
		l.refuses(t, from, want, taken, code)
	}
}

// TestAllSmall goes through all worlds of Plain and Rock of some few cells, all cells, and all rectangles of one cell.
func TestAllSmall(t *testing.T) {
	for _, side := range [][2]int{{1, 1}, {4, 1}, {1, 4}, {2, 3}, {3, 2}, {3, 3}} {
		width, height := side[0], side[1]
		for bits := range 1 << (width * height) {
			m := api.Map{W: width, H: height}
			for i := range width * height {
				m.Tiles = append(m.Tiles, []byte{api.Plain, api.Rock}[bits>>i&1])
			}
			w := made(t, m)
			for size := 1; size <= 2; size++ {
				l := landOf(t, w, shape(api.Foot, size))
				for i := range width * height {
					one := rects((i+bits)%width, (i+bits)/width%height, 1, 1)
					holds(t, l, at(i%width, i/width), nil, at(0, 0), at(width-1, height-1), at(bits%width, height/2))
					holds(t, l, at(i%width, i/width), one, at(width/2, height/2), one[0].At, at(-1, bits%4))
				}
			}
		}
	}
}

// TestEveryDistance asks for all cells about the only two that are free, all pairs of a small world.
func TestEveryDistance(t *testing.T) {
	const side = 5
	for a := range side * side {
		for b := range a {
			first, last := at(b%side, b/side), at(a%side, a/side)
			var taken []api.Rect
			for n := range side * side {
				if n != a && n != b {
					taken = append(taken, rect(n%side, n/side, 1, 1))
				}
			}
			l := open(t, foot1, side, side, api.Plain)
			for y := -3; y < side+3; y++ {
				for x := -3; x < side+3; x++ {
					nearest := first
					if plainFar(last, at(x, y)) < plainFar(first, at(x, y)) {
						nearest = last
					}
					l.tells(t, at(2, 2), at(x, y), taken, nearest)
				}
			}
		}
	}
}

// TestSameCalls asks the same again, among other calls and by other objects of the same world: the answers are the same.
func TestSameCalls(t *testing.T) {
	var d dice = 119
	for range 200 {
		w := d.world(t, d.between(1, 9), d.between(1, 9))
		l := landOf(t, w, d.shape())
		from, want, taken := d.from(plainOf(w, l.s)), d.cell(w.All()), d.rects(w.All())
		c, code := l.nearest(from, want, taken)
		will := l.will(from, want, taken)
		settle.Nearest(w, l.p, l.s, want, from, nil)
		settle.Will(w, l.p, l.s, want, from, d.rects(w.All()))
		var nobody *parts.Parts
		settle.Nearest(nil, nobody, l.s, from, want, taken)
		twin := w.Copy()
		for _, again := range []land{l, landOf(t, w, l.s), landOf(t, twin, l.s)} {
			if got, is := again.nearest(from, want, slices.Clone(taken)); got != c || is != code {
				t.Errorf("Nearest again: %v, error %d; it was %v, error %d", got, is, c, code)
			}
			if again.will(from, want, append(slices.Clone(taken), taken...)) != will {
				t.Errorf("Will again: %v", !will)
			}
		}
	}
}

// TestOrderOfTaken asks with the same rectangles in another order: it is all the same.
func TestOrderOfTaken(t *testing.T) {
	var d dice = 1119
	for range 300 {
		w := d.world(t, d.between(2, 9), d.between(2, 9))
		l := landOf(t, w, shape(d.to(api.Classes), 1))
		from, want, taken := d.from(plainOf(w, l.s)), d.cell(w.All()), d.rects(w.All())
		c, code := l.nearest(from, want, taken)
		slices.Reverse(taken)
		if got, is := l.nearest(from, want, taken); got != c || is != code {
			t.Errorf("Nearest, taken %v: %v, error %d; the other way round %v, error %d", taken, got, is, c, code)
		}
	}
}
