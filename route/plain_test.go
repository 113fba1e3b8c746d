package route_test

import (
	"slices"
	"testing"

	"phalanx/api"
	"phalanx/cell"
	"phalanx/class"
	"phalanx/grid"
	"phalanx/route"
)

// turns are the directions, by their numbers, and what they cost.
var turns = []struct{ x, y, cost int }{{1, 0, 10}, {0, 1, 10}, {-1, 0, 10}, {0, -1, 10}, {1, 1, 14}, {-1, 1, 14}, {-1, -1, 14}, {1, -1, 14}}

// field is where a shape stands in a map, row by row, by the words alone.
type field struct {
	w, h   int
	stands []bool
}

// plain is a map's field.
func plain(m api.Map, s api.Shape) field {
	f := field{w: m.W, h: m.H}
	for y := range m.H {
		for x := range m.W {
			f.stands = append(f.stands, standsAt(m, s, x, y))
		}
	}
	return f
}

func standsAt(m api.Map, s api.Shape, x, y int) bool {
	if s.Size < 1 || s.Size > 4 || x+s.Size > m.W || y+s.Size > m.H {
		return false
	}
	for down := range s.Size {
		for right := range s.Size {
			if !carries(m, s.Class, x+right, y+down) {
				return false
			}
		}
	}
	return true
}

func carries(m api.Map, of, x, y int) bool {
	for _, b := range m.Built {
		if b.Foot.At.X <= x && x < b.Foot.At.X+b.Foot.W && b.Foot.At.Y <= y && y < b.Foot.At.Y+b.Foot.H {
			return false
		}
	}
	on := [][]byte{{api.Plain, api.Wood}, {api.Plain}, {api.Water}, {api.Plain, api.Water}}
	return slices.Contains(on[of], m.Tiles[y*m.W+x])
}

func (f field) at(x, y int) bool {
	return 0 <= x && x < f.w && 0 <= y && y < f.h && f.stands[y*f.w+x]
}

// has tells whether the shape stands at a cell of a rectangle.
func (f field) has(in api.Rect, x, y int) bool {
	return in.At.X <= x && x < in.At.X+in.W && in.At.Y <= y && y < in.At.Y+in.H && f.at(x, y)
}

// goes tells whether a way within a rectangle may take a step.
func (f field) goes(in api.Rect, x, y, dir int) bool {
	turn := turns[dir]
	return f.has(in, x, y) && f.has(in, x+turn.x, y+turn.y) && f.at(x+turn.x, y) && f.at(x, y+turn.y)
}

// costs is the distances of all of the world's cells from one, -1 of those to which none leads: steps are taken till none is cheaper.
func (f field) costs(from api.Cell, in api.Rect) []int {
	l := slices.Repeat([]int{-1}, f.w*f.h)
	if !f.has(in, from.X, from.Y) {
		return l
	}
	l[from.Y*f.w+from.X] = 0
	for turned := true; turned; {
		turned = false
		for i := range l {
			turned = f.cheapen(l, in, i) || turned
		}
		for i := range l {
			turned = f.cheapen(l, in, len(l)-1-i) || turned
		}
	}
	return l
}

func (f field) cheapen(l []int, in api.Rect, i int) bool {
	turned := false
	for dir, turn := range turns {
		to := i + turn.y*f.w + turn.x
		if l[i] >= 0 && f.goes(in, i%f.w, i/f.w, dir) && (l[to] < 0 || l[to] > l[i]+turn.cost) {
			l[to], turned = l[i]+turn.cost, true
		}
	}
	return turned
}

// find is the way, by the distances to its end.
func (f field) find(from, to api.Cell, in api.Rect) (api.Way, int) {
	if !f.has(in, from.X, from.Y) || !f.has(in, to.X, to.Y) {
		return api.Way{Outcome: api.RouteNone}, 0
	}
	left := f.costs(to, in)
	whole := left[from.Y*f.w+from.X]
	if whole < 0 {
		return api.Way{Outcome: api.RouteNone}, 0
	}
	way := api.Way{Outcome: api.RouteFound}
	for from != to {
		dir := slices.IndexFunc([]int{0, 1, 2, 3, 4, 5, 6, 7}, func(dir int) bool {
			turn := turns[dir]
			return f.goes(in, from.X, from.Y, dir) && left[(from.Y+turn.y)*f.w+from.X+turn.x]+turn.cost == left[from.Y*f.w+from.X]
		})
		from = at(from.X+turns[dir].x, from.Y+turns[dir].y)
		way.Cells = append(way.Cells, from)
	}
	return way, whole
}

// best is a way to each of the world's cells.
type best struct {
	cost  int
	cells []api.Cell
	found bool
}

// walk goes through all ways from a cell that come nowhere twice, by rising directions, and keeps the first of the cheapest to each cell.
func (f field) walk(in api.Rect, on []api.Cell, cost int, l []best) {
	c := on[len(on)-1]
	if b := &l[c.Y*f.w+c.X]; !b.found || b.cost > cost {
		*b = best{cost: cost, cells: slices.Clone(on[1:]), found: true}
	}
	for dir, turn := range turns {
		if next := at(c.X+turn.x, c.Y+turn.y); f.goes(in, c.X, c.Y, dir) && !slices.Contains(on, next) {
			f.walk(in, append(on, next), cost+turn.cost, l)
		}
	}
}

// walks is the way from a cell to each of the world's, by going through all ways.
func (f field) walks(in api.Rect, from api.Cell) []best {
	l := make([]best, f.w*f.h)
	if f.has(in, from.X, from.Y) {
		f.walk(in, []api.Cell{from}, 0, l)
	}
	return l
}

// dice are numbers of no pattern, the same each time.
type dice uint64

// to is a number of 0 to n - 1.
func (d *dice) to(n int) int {
	*d = *d*6364136223846793005 + 1442695040888963407
	return int(uint64(*d)>>33) % n
}

// tiles are patches of terrain.
func (d *dice) tiles(width, height int) api.Map {
	m := api.Map{W: width, H: height}
	usual := []byte{api.Plain, api.Plain, api.Water, api.Wood}[d.to(4)]
	m.Tiles = slices.Repeat([]byte{usual}, m.W*m.H)
	for range d.to(m.W*m.H/2 + 1) {
		m.Tiles[d.to(len(m.Tiles))] = byte(d.to(api.Terrains))
	}
	return m
}

// world is one with patches of terrain and a few buildings.
func (d *dice) world(t *testing.T) *grid.World {
	t.Helper()
	w := made(t, d.tiles(1+d.to(12), 1+d.to(12)))
	for range d.to(4) {
		d.edit(w)
	}
	return w
}

// edit places a building, razes one, or is refused.
func (d *dice) edit(w *grid.World) {
	if d.to(3) == 0 {
		w.Raze(1 + d.to(6))
		return
	}
	w.Place(api.Building{Id: 1 + d.to(6), Foot: rect(d.to(w.All().W), d.to(w.All().H), 1+d.to(3), 1+d.to(3))})
}

// cell is one of a world's.
func (d *dice) cell(w *grid.World) api.Cell { return at(d.to(w.All().W), d.to(w.All().H)) }

// rect is one that may reach beyond a world, or lie beside it.
func (d *dice) rect(w *grid.World) api.Rect {
	return rect(d.to(w.All().W+2)-2, d.to(w.All().H+2)-2, 1+d.to(14), 1+d.to(14))
}

// holds asks Find and Costs for all of a rectangle's ways from a cell, and the plain definition as well: how many there are.
func holds(t *testing.T, w *grid.World, s api.Shape, from api.Cell, in api.Rect) int {
	t.Helper()
	f := plain(w.Map(), s)
	inside, _ := cell.Meet(in, w.All())
	want := f.costs(from, in)
	found := 0
	for to := range cell.Cells(w.All()) {
		way, sum := f.find(from, to, in)
		finds(t, w, s, from, to, in, inside.W*inside.H, way, sum)
		if way.Outcome == api.RouteFound {
			found++
		}
		if told := want[to.Y*f.w+to.X]; way.Outcome == api.RouteFound && told != sum || way.Outcome == api.RouteNone && told != -1 {
			t.Fatalf("the definition tells %d and %d", told, sum)
		}
	}
	if inside != in || !cell.Has(in, from) {
		costsRefuses(t, w, s, from, in)
		return found
	}
	got := costs(t, w, s, from, in)
	for to := range cell.Cells(in) {
		if n := got[(to.Y-in.At.Y)*in.W+to.X-in.At.X]; n != want[to.Y*f.w+to.X] {
			t.Fatalf("Costs of %v from %v to %v in %v: %d, want %d", s, from, to, in, n, want[to.Y*f.w+to.X])
		}
	}
	return found
}

// rects are all that have a cell of a world, and reach beyond it by one at most.
func rects(w *grid.World) []api.Rect {
	var l []api.Rect
	all := w.All()
	for y := -1; y <= all.H; y++ {
		for x := -1; x <= all.W; x++ {
			for h := 1; y+h <= all.H+1; h++ {
				for width := 1; x+width <= all.W+1; width++ {
					l = append(l, rect(x, y, width, h))
				}
			}
		}
	}
	return l
}

// masked is a map of Plain, with Rock where a number has bits.
func masked(width, height, mask int) api.Map {
	m := api.Map{W: width, H: height, Tiles: make([]byte, width*height)}
	for i := range m.Tiles {
		if mask>>i&1 == 1 {
			m.Tiles[i] = api.Rock
		}
	}
	return m
}

// TestSmallWorldsWhole: all worlds of 3 times 3 of two terrains, all ways between all cells, gone through one by one.
func TestSmallWorldsWhole(t *testing.T) {
	for mask := range 1 << 9 {
		w := made(t, masked(3, 3, mask))
		f := plain(w.Map(), shape(api.Foot, 1))
		for from := range cell.Cells(w.All()) {
			for i, b := range f.walks(w.All(), from) {
				want := api.Way{Outcome: api.RouteNone}
				if b.found {
					want = api.Way{Outcome: api.RouteFound, Cells: b.cells}
				}
				finds(t, w, shape(api.Foot, 1), from, at(i%3, i/3), w.All(), 9, want, b.cost)
			}
			holds(t, w, shape(api.Foot, 1), from, w.All())
		}
	}
}

// TestSmallWorldsRectangles: all worlds of 3 times 2 and 2 times 3 of two terrains, within all rectangles about them.
func TestSmallWorldsRectangles(t *testing.T) {
	for _, side := range [][2]int{{3, 2}, {2, 3}, {4, 1}, {1, 4}} {
		for mask := range 1 << (side[0] * side[1]) {
			w := made(t, masked(side[0], side[1], mask))
			for _, in := range rects(w) {
				for from := range cell.Cells(w.All()) {
					holds(t, w, shape(api.Foot, 1), from, in)
				}
			}
		}
	}
}

// TestSmallWorldsWalked: greater worlds, within rectangles, by all ways that there are.
func TestSmallWorldsWalked(t *testing.T) {
	d := dice(5)
	for range 400 {
		w := made(t, masked(5, 4, d.to(1<<20)))
		in := rect(d.to(3)-1, d.to(3)-1, 2+d.to(4), 2+d.to(4))
		f := plain(w.Map(), shape(api.Foot, 1))
		from := d.cell(w)
		for i, b := range f.walks(in, from) {
			want := api.Way{Outcome: api.RouteNone}
			if b.found {
				want = api.Way{Outcome: api.RouteFound, Cells: b.cells}
			}
			finds(t, w, shape(api.Foot, 1), from, at(i%5, i/5), in, 20, want, b.cost)
		}
	}
}

// TestWorlds: worlds of all kinds, for all shapes, within rectangles of all kinds.
func TestWorlds(t *testing.T) {
	d := dice(6)
	ways := 0
	for range 60 {
		w := d.world(t)
		for _, s := range shapes() {
			holds(t, w, s, d.cell(w), d.rect(w))
			ways += holds(t, w, s, d.cell(w), w.All())
			in, _ := cell.Meet(d.rect(w), w.All())
			ways += holds(t, w, s, d.cell(w), in)
		}
	}
	if ways < 5000 {
		t.Errorf("just %d ways", ways)
	}
}

// TestEdits: ways are those of the world as it is, while buildings come and go.
func TestEdits(t *testing.T) {
	d := dice(7)
	for range 12 {
		w := d.world(t)
		s := shape(d.to(4), 1+d.to(2))
		for range 12 {
			d.edit(w)
			holds(t, w, s, d.cell(w), w.All())
			holds(t, w, s, d.cell(w), d.rect(w))
		}
	}
	w := open(t, 5, 3, api.Plain)
	foot := shape(api.Foot, 1)
	findsAll(t, w, foot, at(0, 1), at(4, 1), 40, 1, 1, 2, 1, 3, 1, 4, 1)
	place(t, w, 1, rect(2, 1, 1, 2))
	findsAll(t, w, foot, at(0, 1), at(4, 1), 48, 1, 0, 2, 0, 3, 0, 4, 1)
	place(t, w, 2, rect(2, 0, 1, 1))
	findsNone(t, w, foot, at(0, 1), at(4, 1), w.All(), 15)
	raze(t, w, 1)
	findsAll(t, w, foot, at(0, 1), at(4, 1), 40, 1, 1, 2, 1, 3, 1, 4, 1)
}

// TestWhatFollows (Ro3): distances both ways, sums of two, parts of a way, and Octile.
func TestWhatFollows(t *testing.T) {
	d := dice(8)
	for range 60 {
		w := d.world(t)
		in, ok := cell.Meet(d.rect(w), w.All())
		if !ok {
			in = w.All()
		}
		s := shape(d.to(4), 1+d.to(2))
		var far [][]int
		for c := range cell.Cells(in) {
			far = append(far, costs(t, w, s, c, in))
		}
		for a := range far {
			for b := range far {
				follows(t, w, s, in, far, a, b)
			}
		}
		partsFollow(t, w, s, in, far, &d)
	}
}

// follows asks what follows of the distance of two cells.
func follows(t *testing.T, w *grid.World, s api.Shape, in api.Rect, far [][]int, a, b int) {
	t.Helper()
	first, last := at(in.At.X+a%in.W, in.At.Y+a/in.W), at(in.At.X+b%in.W, in.At.Y+b/in.W)
	n := far[a][b]
	if n != far[b][a] {
		t.Fatalf("from %v to %v it is %d, and %d back", first, last, n, far[b][a])
	}
	if n >= 0 && n < cell.Octile(first, last) {
		t.Fatalf("from %v to %v it is just %d", first, last, n)
	}
	if got := far[a][a]; got != 0 && got != -1 || (got == 0) != class.Stands(w, s, first) {
		t.Fatalf("from %v to itself it is %d", first, got)
	}
	for c := range far {
		if far[a][c] >= 0 && far[c][b] >= 0 && (n < 0 || n > far[a][c]+far[c][b]) {
			t.Fatalf("from %v to %v it is %d, by another one %d and %d", first, last, n, far[a][c], far[c][b])
		}
	}
}

// partsFollow asks whether each part of a way is the way between its ends, and costs their distance.
func partsFollow(t *testing.T, w *grid.World, s api.Shape, in api.Rect, far [][]int, d *dice) {
	t.Helper()
	a, b := d.to(len(far)), d.to(len(far))
	from := at(in.At.X+a%in.W, in.At.Y+a/in.W)
	x, cost := route.Find(w, s, from, at(in.At.X+b%in.W, in.At.Y+b/in.W), in, in.W*in.H)
	if x.Outcome != api.RouteFound {
		return
	}
	if !class.Legal(w, s, from, x.Cells) || class.Cost(from, x.Cells) != cost || cost != far[a][b] {
		t.Fatalf("Find from %v = %v, %d", from, x, cost)
	}
	whole := append([]api.Cell{from}, x.Cells...)
	for i := range whole {
		for j := i; j < len(whole); j++ {
			first, last := whole[i], whole[j]
			sum := far[(first.Y-in.At.Y)*in.W+first.X-in.At.X][(last.Y-in.At.Y)*in.W+last.X-in.At.X]
			if part := class.Cost(first, whole[i+1:j+1]); part != sum {
				t.Fatalf("the part from %v to %v costs %d, and they are %d apart", first, last, part, sum)
			}
			finds(t, w, s, first, last, in, in.W*in.H, api.Way{Outcome: api.RouteFound, Cells: whole[i+1 : j+1]}, sum)
		}
	}
}

// winding is a map of the greatest side with one way to and fro through all of it.
func winding() api.Map {
	m := api.Map{W: 128, H: 128, Tiles: make([]byte, 128*128)}
	for y := 1; y < 128; y += 2 {
		for x := range 128 {
			// The gap is at the right end, then at the left one, and so on.
			if gap := 127 * (1 - y/2%2); x != gap {
				m.Tiles[y*128+x] = api.Rock
			}
		}
	}
	return m
}

func TestGreatestSide(t *testing.T) {
	foot := shape(api.Foot, 1)
	w := made(t, winding())
	x, cost := route.Find(w, foot, at(0, 0), at(0, 127), w.All(), 128*128)
	// 64 rows of 127 steps, 63 times two steps down, and one more.
	if steps := 64*127 + 2*63 + 1; x.Outcome != api.RouteFound || len(x.Cells) != steps || cost != steps*10 || !class.Legal(w, foot, at(0, 0), x.Cells) || x.Cells[steps-1] != at(0, 127) {
		t.Errorf("Find through all of it = %d, %d cells, %d", x.Outcome, len(x.Cells), cost)
	}
	if got, want := costs(t, w, foot, at(0, 0), w.All()), plain(w.Map(), foot).costs(at(0, 0), w.All()); !slices.Equal(got, want) {
		t.Errorf("Costs through all of it are others")
	}

	w = open(t, 128, 128, api.Plain)
	for _, s := range []api.Shape{foot, shape(api.Hover, 4)} {
		last := 128 - s.Size
		x, cost = route.Find(w, s, at(0, 0), at(last, last), w.All(), 128*128)
		if x.Outcome != api.RouteFound || len(x.Cells) != last || cost != 14*last {
			t.Errorf("Find from corner to corner = %v, %d", x, cost)
		}
		findsNone(t, w, s, at(0, 0), at(last+1, last), rect(0, 0, 127, 128), 127*128)
		for i, n := range costs(t, w, s, at(5, 77), w.All()) {
			c := at(i%128, i/128)
			if want := cell.Octile(at(5, 77), c); class.Stands(w, s, c) && n != want || !class.Stands(w, s, c) && n != -1 {
				t.Fatalf("%v is %d from 5, 77", c, n)
			}
		}
	}
}

func TestGreatestSideOfNoPattern(t *testing.T) {
	d := dice(9)
	for range 4 {
		w := made(t, d.tiles(128, 128))
		for range 200 {
			d.edit(w)
		}
		for _, s := range []api.Shape{shape(api.Foot, 1), shape(api.Hover, 2)} {
			from := d.cell(w)
			f := plain(w.Map(), s)
			if got, want := costs(t, w, s, from, w.All()), f.costs(from, w.All()); !slices.Equal(got, want) {
				t.Fatalf("Costs of %v from %v are others", s, from)
			}
			for range 4 {
				to := d.cell(w)
				way, sum := f.find(from, to, w.All())
				finds(t, w, s, from, to, w.All(), 128*128, way, sum)
			}
		}
	}
}
