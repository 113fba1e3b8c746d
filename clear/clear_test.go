package clear_test

import (
	"math"
	"slices"
	"testing"

	"phalanx/api"
	"phalanx/class"
	"phalanx/clear"
	"phalanx/grid"
)

const far = api.Far

func at(x, y int) api.Cell { return api.Cell{X: x, Y: y} }

func rect(x, y, w, h int) api.Rect { return api.Rect{At: at(x, y), W: w, H: h} }

// world is one of rows: . Plain, w Wood, ~ Water, # Rock.
func world(t *testing.T, rows ...string) *grid.World {
	t.Helper()
	m := api.Map{W: len(rows[0]), H: len(rows)}
	terrains := map[rune]byte{'.': api.Plain, 'w': api.Wood, '~': api.Water, '#': api.Rock}
	for _, row := range rows {
		for _, r := range row {
			m.Tiles = append(m.Tiles, terrains[r])
		}
	}
	return made(t, m)
}

// open is a world of one terrain.
func open(t *testing.T, width, height int, terrain byte) *grid.World {
	t.Helper()
	return made(t, api.Map{W: width, H: height, Tiles: slices.Repeat([]byte{terrain}, width*height)})
}

func made(t *testing.T, m api.Map) *grid.World {
	t.Helper()
	w, code := grid.New(m)
	if code != api.OK {
		t.Fatalf("New: error %d", code)
	}
	return w
}

func place(t *testing.T, w *grid.World, id int, foot api.Rect) {
	t.Helper()
	if code := w.Place(api.Building{Id: id, Foot: foot}); code != api.OK {
		t.Fatalf("Place %d at %v: error %d", id, foot, code)
	}
}

func raze(t *testing.T, w *grid.World, id int) {
	t.Helper()
	if _, code := w.Raze(id); code != api.OK {
		t.Fatalf("Raze %d: error %d", id, code)
	}
}

func field(t *testing.T, w *grid.World, class int) *clear.Field {
	t.Helper()
	f, code := clear.New(w, class)
	if code != api.OK || f == nil {
		t.Fatalf("New of class %d: error %d", class, code)
	}
	return f
}

// update is what Update tells, which must be no error.
func update(t *testing.T, f *clear.Field) int {
	t.Helper()
	n, code := f.Update()
	if code != api.OK {
		t.Fatalf("Update: error %d", code)
	}
	return n
}

// noClasses are numbers that are no class.
func noClasses() []int {
	return []int{math.MinInt, math.MinInt + 1, math.MinInt32, -256, -4, -2, -1, 4, 5, 8, 255, 256, 257, 1 << 32, 1<<32 + 1, math.MaxInt32, math.MaxInt - 1, math.MaxInt}
}

// noCells are cells that are none of a world that is w wide and h high.
func noCells(w, h int) []api.Cell {
	l := []api.Cell{at(-1, -1), at(-1, h), at(w, -1), at(w, h), at(w-1, h), at(w, h-1), at(w, 0), at(0, h)}
	for _, n := range []int{math.MinInt, math.MinInt + 1, math.MinInt32, -far - 1, -far, -128, -w, -4, -3, -2, -1, 128, 1 << 16, far - 1, far, far + 1, 1 << 32, 1<<32 + 1, math.MaxInt32, math.MaxInt - 3, math.MaxInt - 1, math.MaxInt} {
		l = append(l, at(n, 0), at(0, n), at(n, n), at(n, h-1), at(w-1, n), at(n, 1), at(1, n))
	}
	return l
}

// plain is a world as its map says it, and nothing else.
type plain struct{ m api.Map }

func (p plain) carries(of int, tile api.Cell) bool {
	if tile.X < 0 || tile.Y < 0 || tile.X >= p.m.W || tile.Y >= p.m.H {
		return false
	}
	for _, b := range p.m.Built {
		if b.Foot.At.X <= tile.X && tile.X < b.Foot.At.X+b.Foot.W && b.Foot.At.Y <= tile.Y && tile.Y < b.Foot.At.Y+b.Foot.H {
			return false
		}
	}
	terrain := p.m.Tiles[tile.Y*p.m.W+tile.X]
	switch of {
	case api.Foot:
		return terrain == api.Plain || terrain == api.Wood
	case api.Wheel:
		return terrain == api.Plain
	case api.Boat:
		return terrain == api.Water
	default:
		return terrain == api.Plain || terrain == api.Water
	}
}

func (p plain) stands(of, size int, c api.Cell) bool {
	for y := range size {
		for x := range size {
			if !p.carries(of, at(c.X+x, c.Y+y)) {
				return false
			}
		}
	}
	return true
}

// clearance is the greatest size that stands, each of them asked for.
func (p plain) clearance(of int, c api.Cell) int {
	most := 0
	for size := 1; size <= 4; size++ {
		if p.stands(of, size, c) {
			most = size
		}
	}
	return most
}

// all are the clearances of the whole world, row by row.
func (p plain) all(of int) []int {
	var l []int
	for y := range p.m.H {
		for x := range p.m.W {
			l = append(l, p.clearance(of, at(x, y)))
		}
	}
	return l
}

// shown are the clearances that a field tells, row by row.
func shown(f *clear.Field, all api.Rect) []int {
	var l []int
	for y := range all.H {
		for x := range all.W {
			l = append(l, f.At(at(x, y)))
		}
	}
	return l
}

// shows asks by every call whether a field has just these clearances, as of an epoch.
func shows(t *testing.T, f *clear.Field, all api.Rect, want []int, epoch int) {
	t.Helper()
	if got := shown(f, all); !slices.Equal(got, want) {
		t.Fatalf("At tells %v, want %v (%d wide)", got, want, all.W)
	}
	if got := f.Epoch(); got != epoch {
		t.Fatalf("Epoch = %d, want %d", got, epoch)
	}
	for size := -1; size <= 6; size++ {
		n := 0
		for _, has := range want {
			if has >= size {
				n++
			}
		}
		if got := f.Count(size); got != n {
			t.Fatalf("Count(%d) = %d, want %d", size, got, n)
		}
	}
	for _, c := range noCells(all.W, all.H) {
		if got := f.At(c); got != 0 {
			t.Fatalf("At(%v) = %d of a cell that is none", c, got)
		}
	}
}

// showsNow asks whether a field is of the world as it is.
func showsNow(t *testing.T, f *clear.Field, w *grid.World, of int) {
	t.Helper()
	shows(t, f, w.All(), plain{w.Map()}.all(of), w.Epoch())
}

// unlike is how many places two lists have that are unlike.
func unlike(a, b []int) int {
	n := 0
	for i := range a {
		if a[i] != b[i] {
			n++
		}
	}
	return n
}

// updates calls Update, and asks whether it counts what turned, and turns all that it must.
func updates(t *testing.T, f *clear.Field, w *grid.World, of int) int {
	t.Helper()
	was := shown(f, w.All())
	n := update(t, f)
	showsNow(t, f, w, of)
	if want := unlike(was, shown(f, w.All())); n != want {
		t.Fatalf("Update = %d, want %d", n, want)
	}
	return n
}

// dice are numbers of no pattern, the same each time.
type dice uint64

// to is a number of 0 to n - 1.
func (d *dice) to(n int) int {
	*d = *d*6364136223846793005 + 1442695040888963407
	return int(uint64(*d)>>33) % n
}

// tiles are patches of terrain.
func (d *dice) tiles(width, height int) api.Map {
	m := api.Map{W: width, H: height}
	usual := []byte{api.Plain, api.Plain, api.Water, api.Wood}[d.to(4)]
	m.Tiles = slices.Repeat([]byte{usual}, m.W*m.H)
	for range d.to(m.W*m.H/4 + 1) {
		m.Tiles[d.to(len(m.Tiles))] = byte(d.to(api.Terrains))
	}
	return m
}

// world is one with patches of terrain and a few buildings.
func (d *dice) world(t *testing.T) *grid.World {
	t.Helper()
	w := made(t, d.tiles(1+d.to(14), 1+d.to(14)))
	for range d.to(4) {
		d.edit(w)
	}
	return w
}

// edit places a building, razes one, or is refused.
func (d *dice) edit(w *grid.World) {
	if d.to(3) == 0 {
		w.Raze(1 + d.to(12))
		return
	}
	w.Place(api.Building{Id: 1 + d.to(12), Foot: rect(d.to(w.All().W), d.to(w.All().H), 1+d.to(3), 1+d.to(3))})
}

// Cr1: a cell's clearance.

// TestOf asks at every cell of worlds of no pattern, and round them, for every class.
func TestOf(t *testing.T) {
	d := dice(1)
	var seen [5]int
	for range 60 {
		w := d.world(t)
		p := plain{w.Map()}
		for of := range api.Classes {
			for y := -3; y < p.m.H+3; y++ {
				for x := -3; x < p.m.W+3; x++ {
					want := p.clearance(of, at(x, y))
					if got := clear.Of(w, of, at(x, y)); got != want {
						t.Fatalf("Of(%d, %d, %d) = %d, want %d in %v", of, x, y, got, want, p.m)
					}
					seen[want]++
				}
			}
		}
	}
	for size, n := range seen {
		if n < 100 {
			t.Errorf("clearance %d just %d times", size, n)
		}
	}
}

// TestOfMaxSize: a shape may be no greater, so the clearance is not.
func TestOfMaxSize(t *testing.T) {
	w := open(t, 128, 128, api.Plain)
	for _, c := range []struct {
		at   api.Cell
		want int
	}{
		{at(0, 0), 4}, {at(60, 60), 4}, {at(124, 124), 4}, {at(124, 0), 4}, {at(0, 124), 4},
		{at(125, 0), 3}, {at(0, 125), 3}, {at(125, 124), 3}, {at(126, 125), 2}, {at(125, 126), 2},
		{at(127, 0), 1}, {at(0, 127), 1}, {at(127, 127), 1}, {at(124, 127), 1},
	} {
		if got := clear.Of(w, api.Hover, c.at); got != c.want {
			t.Errorf("Of(%v) = %d, want %d", c.at, got, c.want)
		}
	}
}

func TestOfNoClass(t *testing.T) {
	// Each class stands on one of these.
	for _, w := range []*grid.World{open(t, 6, 6, api.Plain), open(t, 6, 6, api.Wood), open(t, 6, 6, api.Water), open(t, 6, 6, api.Rock)} {
		for _, of := range noClasses() {
			for _, c := range []api.Cell{at(0, 0), at(3, 3), at(5, 5), at(-1, 0), at(far, far)} {
				if got := clear.Of(w, of, c); got != 0 {
					t.Errorf("Of(%d, %v) = %d of a class that is none", of, c, got)
				}
			}
		}
	}
	// The last one is one.
	if got := clear.Of(open(t, 6, 6, api.Water), api.Hover, at(0, 0)); got != 4 {
		t.Errorf("Of the last class = %d", got)
	}
}

func TestOfNoCell(t *testing.T) {
	w := open(t, 6, 5, api.Plain)
	for _, c := range noCells(6, 5) {
		if got := clear.Of(w, api.Foot, c); got != 0 {
			t.Errorf("Of(%v) = %d of a cell that is none", c, got)
		}
	}
}

func TestOfNoWorld(t *testing.T) {
	for _, w := range []*grid.World{nil, {}} {
		for of := -1; of <= api.Classes; of++ {
			for _, c := range append(noCells(6, 6), at(0, 0), at(1, 1)) {
				if got := clear.Of(w, of, c); got != 0 {
					t.Errorf("Of(%d, %v) = %d in a world that nobody made", of, c, got)
				}
			}
		}
	}
}

// TestOfAsItIs: Of keeps nothing.
func TestOfAsItIs(t *testing.T) {
	w := open(t, 6, 6, api.Plain)
	for range 3 {
		if got := clear.Of(w, api.Foot, at(0, 0)); got != 4 {
			t.Errorf("Of = %d", got)
		}
		place(t, w, 1, rect(2, 3, 1, 1))
		if got := clear.Of(w, api.Foot, at(0, 0)); got != 3 {
			t.Errorf("Of behind a building = %d", got)
		}
		raze(t, w, 1)
	}
}

// Cr1: fields.

func TestNewRefuses(t *testing.T) {
	good := open(t, 3, 3, api.Plain)
	refused := func(w *grid.World, of int) {
		t.Helper()
		if f, code := clear.New(w, of); f != nil || code != api.ErrArg {
			t.Errorf("New of class %d: %v, error %d", of, f, code)
		}
	}
	for _, of := range noClasses() {
		refused(good, of)
		refused(nil, of)
		refused(&grid.World{}, of)
	}
	for of := range api.Classes {
		refused(nil, of)
		refused(new(grid.World), of)
		refused((&grid.World{}).Copy(), of)
		field(t, good, of)
	}
	if n := good.Epoch(); n != 0 {
		t.Errorf("New edits the world: epoch %d", n)
	}
}

// TestNew: worlds of all sides, of no pattern, with buildings of the map and of edits.
func TestNew(t *testing.T) {
	d := dice(2)
	for range 60 {
		w := d.world(t)
		for of := range api.Classes {
			showsNow(t, field(t, w, of), w, of)
			showsNow(t, field(t, w.Copy(), of), w, of)
			// Of the map's world there were no edits, and all else is the same.
			young := made(t, w.Map())
			showsNow(t, field(t, young, of), young, of)
		}
	}
}

func TestNewAtLimits(t *testing.T) {
	d := dice(3)
	for _, side := range [][2]int{{1, 1}, {1, 128}, {128, 1}, {2, 128}, {128, 3}, {128, 128}, {4, 4}, {5, 4}, {3, 3}} {
		for of := range api.Classes {
			w := made(t, d.tiles(side[0], side[1]))
			f := field(t, w, of)
			showsNow(t, f, w, of)
			place(t, w, 1, rect(side[0]-1, side[1]-1, 1, 1))
			updates(t, f, w, of)
		}
	}
}

// Cr2: what a field tells ahead of Update, and behind it.

// TestTillUpdate: edits turn nothing till Update comes, and a second one turns nothing more.
func TestTillUpdate(t *testing.T) {
	w := open(t, 9, 7, api.Plain)
	place(t, w, 1, rect(8, 6, 1, 1))
	f := field(t, w, api.Foot)
	old := plain{w.Map()}.all(api.Foot)
	shows(t, f, w.All(), old, 1)

	place(t, w, 2, rect(3, 3, 2, 1))
	shows(t, f, w.All(), old, 1)
	raze(t, w, 1)
	shows(t, f, w.All(), old, 1)
	if n := updates(t, f, w, api.Foot); n == 0 {
		t.Error("Update = 0")
	}
	if f.Epoch() != 3 {
		t.Errorf("Epoch = %d", f.Epoch())
	}
	for range 3 {
		if n := updates(t, f, w, api.Foot); n != 0 {
			t.Errorf("Update once more = %d", n)
		}
	}
	raze(t, w, 2)
	if n := updates(t, f, w, api.Foot); n == 0 {
		t.Error("Update behind Raze = 0")
	}
	shows(t, f, w.All(), plain{open(t, 9, 7, api.Plain).Map()}.all(api.Foot), 4)
}

// TestRefusedEdits turn nothing, and count as none.
func TestRefusedEdits(t *testing.T) {
	w := open(t, 6, 6, api.Plain)
	place(t, w, 1, rect(2, 2, 2, 2))
	f := field(t, w, api.Foot)
	w.Place(api.Building{Id: 1, Foot: rect(0, 0, 1, 1)})
	w.Place(api.Building{Id: 2, Foot: rect(3, 3, 1, 1)})
	w.Place(api.Building{Id: 3, Foot: rect(5, 5, 2, 1)})
	w.Raze(9)
	if n := updates(t, f, w, api.Foot); n != 0 || f.Epoch() != 1 {
		t.Errorf("Update = %d, Epoch = %d", n, f.Epoch())
	}
}

// TestUndone: what is placed and razed at once turned nothing, but is behind.
func TestUndone(t *testing.T) {
	w := open(t, 8, 8, api.Plain)
	f := field(t, w, api.Foot)
	for i := range 5 {
		place(t, w, 1, rect(i, i, 2, 3))
		raze(t, w, 1)
		if n := updates(t, f, w, api.Foot); n != 0 || f.Epoch() != 2*i+2 {
			t.Errorf("Update = %d, Epoch = %d", n, f.Epoch())
		}
	}
	place(t, w, 1, rect(4, 4, 1, 1))
	updates(t, f, w, api.Foot)
	// The building goes, and another one comes to the same tile; then it alone comes back.
	raze(t, w, 1)
	place(t, w, 2, rect(4, 4, 1, 1))
	if n := updates(t, f, w, api.Foot); n != 0 {
		t.Errorf("Update = %d behind a building for another one", n)
	}
	raze(t, w, 2)
	place(t, w, 2, rect(0, 0, 8, 8))
	raze(t, w, 2)
	place(t, w, 1, rect(4, 4, 1, 1))
	if n := updates(t, f, w, api.Foot); n != 0 {
		t.Errorf("Update = %d behind edits that undo each other", n)
	}
}

// TestMoved: of edits at once a cell turns once at most, and not at all, if it has in the end what it had.
func TestMoved(t *testing.T) {
	// To the right, to the left, down, up, and over corners: the order must not matter.
	for _, move := range [][2]api.Cell{{at(4, 4), at(5, 4)}, {at(5, 4), at(4, 4)}, {at(4, 4), at(4, 5)}, {at(4, 5), at(4, 4)}, {at(4, 4), at(6, 6)}, {at(6, 6), at(4, 4)}} {
		w := open(t, 12, 12, api.Plain)
		place(t, w, 1, api.Rect{At: move[0], W: 1, H: 1})
		f := field(t, w, api.Foot)
		place(t, w, 2, api.Rect{At: move[1], W: 1, H: 1})
		raze(t, w, 1)
		if n := updates(t, f, w, api.Foot); n == 0 {
			t.Errorf("Update = 0 behind a move from %v to %v", move[0], move[1])
		}
	}
}

// TestOnWrongTerrain: a building on tiles that don't carry the class turns nothing.
func TestOnWrongTerrain(t *testing.T) {
	w := world(t, "......", "..##..", "..##..", "......")
	f := field(t, w, api.Foot)
	place(t, w, 1, rect(2, 1, 2, 2))
	if n := updates(t, f, w, api.Foot); n != 0 || f.Epoch() != 1 {
		t.Errorf("Update = %d, Epoch = %d", n, f.Epoch())
	}
}

// TestReach: one tile turns just those cells from which the greatest shape has it.
func TestReach(t *testing.T) {
	for y := range 12 {
		for x := range 11 {
			w := open(t, 11, 12, api.Water)
			f := field(t, w, api.Boat)
			place(t, w, 1, rect(x, y, 1, 1))
			updates(t, f, w, api.Boat)
			for by := range 12 {
				for bx := range 11 {
					apart := max(x-bx, y-by)
					if bx > x || by > y || apart > 3 {
						continue
					}
					if got, most := f.At(at(bx, by)), min(11-bx, 12-by); got != min(apart, most) {
						t.Fatalf("At(%d, %d) = %d with a building at %d, %d", bx, by, got, x, y)
					}
				}
			}
			raze(t, w, 1)
			updates(t, f, w, api.Boat)
		}
	}
	// In the midst all sixteen turn.
	w := open(t, 16, 16, api.Plain)
	f := field(t, w, api.Wheel)
	place(t, w, 1, rect(5, 6, 1, 1))
	if n := update(t, f); n != 16 {
		t.Errorf("Update = %d behind one tile", n)
	}
	raze(t, w, 1)
	if n := update(t, f); n != 16 {
		t.Errorf("Update = %d behind its Raze", n)
	}
	place(t, w, 3, rect(4, 4, 8, 8))
	if n := updates(t, f, w, api.Wheel); n != 11*11 {
		t.Errorf("Update = %d behind eight tiles by eight", n)
	}
}

// TestAtWorldsEdges: buildings at corners and sides, that come one by one, and go.
func TestAtWorldsEdges(t *testing.T) {
	foots := []api.Rect{
		rect(0, 0, 1, 1), rect(9, 0, 1, 1), rect(0, 8, 1, 1), rect(9, 8, 1, 1),
		rect(4, 0, 2, 1), rect(0, 4, 1, 2), rect(9, 3, 1, 3), rect(3, 8, 3, 1),
	}
	d := dice(4)
	for of := range api.Classes {
		w := made(t, d.tiles(10, 9))
		f, late := field(t, w, of), field(t, w, of)
		for i, foot := range foots {
			place(t, w, i+1, foot)
			updates(t, f, w, of)
		}
		updates(t, late, w, of)
		for i := range foots {
			raze(t, w, i+1)
			updates(t, f, w, of)
		}
		updates(t, late, w, of)
	}
}

// TestSideBySide: buildings that touch, in every order of two.
func TestSideBySide(t *testing.T) {
	pairs := [][2]api.Rect{
		{rect(3, 3, 2, 2), rect(5, 3, 2, 2)},
		{rect(3, 3, 2, 2), rect(3, 5, 2, 2)},
		{rect(3, 3, 2, 2), rect(5, 5, 2, 2)},
		{rect(5, 3, 2, 2), rect(3, 5, 2, 2)},
		{rect(0, 0, 4, 1), rect(4, 0, 4, 1)},
		{rect(2, 2, 1, 1), rect(6, 2, 1, 1)},
		{rect(2, 2, 1, 1), rect(7, 7, 1, 1)},
	}
	for _, pair := range pairs {
		for _, order := range [][2]int{{0, 1}, {1, 0}} {
			w := open(t, 10, 10, api.Plain)
			f, late := field(t, w, api.Foot), field(t, w, api.Foot)
			for id, i := range order {
				place(t, w, id+1, pair[i])
				updates(t, f, w, api.Foot)
			}
			updates(t, late, w, api.Foot)
			for id := range order {
				raze(t, w, id+1)
				updates(t, f, w, api.Foot)
			}
			updates(t, late, w, api.Foot)
		}
	}
}

// TestMaxBuild: as many buildings at once as there may be.
func TestMaxBuild(t *testing.T) {
	w := open(t, 64, 64, api.Plain)
	f := field(t, w, api.Foot)
	for i := range 256 {
		place(t, w, i+1, rect(i%16*4, i/16*4, 1+i%3, 1+i%2))
	}
	updates(t, f, w, api.Foot)
	for i := range 256 {
		raze(t, w, i+1)
	}
	updates(t, f, w, api.Foot)
	if f.Epoch() != 512 || f.Count(4) != 61*61 {
		t.Errorf("Epoch = %d, Count(4) = %d", f.Epoch(), f.Count(4))
	}
}

// TestAgainstPlain: edits of no pattern, Updates now and then, against what the plain definition tells.
func TestAgainstPlain(t *testing.T) {
	d := dice(5)
	none, some := 0, 0
	for range 60 {
		w := d.world(t)
		of := d.to(api.Classes)
		f := field(t, w, of)
		for range 40 {
			want, epoch := shown(f, w.All()), f.Epoch()
			for range d.to(5) {
				d.edit(w)
			}
			shows(t, f, w.All(), want, epoch)
			if updates(t, f, w, of) == 0 {
				none++
			} else {
				some++
			}
		}
	}
	if none < 100 || some < 100 {
		t.Errorf("Update turned something %d times, and nothing %d times", some, none)
	}
}

func TestCount(t *testing.T) {
	w := world(t,
		"....#",
		"....#",
		"....#",
		"....#",
		"~~~~~")
	f := field(t, w, api.Foot)
	for _, c := range []struct{ size, want int }{
		{math.MinInt, 25}, {math.MinInt + 1, 25}, {math.MinInt32, 25}, {-256, 25}, {-1, 25}, {0, 25},
		{1, 16}, {2, 9}, {3, 4}, {4, 1},
		{5, 0}, {6, 0}, {255, 0}, {256, 0}, {257, 0}, {1 << 32, 0}, {1<<32 + 1, 0}, {math.MaxInt32, 0}, {math.MaxInt - 1, 0}, {math.MaxInt, 0},
	} {
		if got := f.Count(c.size); got != c.want {
			t.Errorf("Count(%d) = %d, want %d", c.size, got, c.want)
		}
	}
	place(t, w, 1, rect(0, 0, 1, 1))
	if f.Count(1) != 16 || f.Count(4) != 1 {
		t.Error("Count turned ahead of Update")
	}
	update(t, f)
	if f.Count(1) != 15 || f.Count(4) != 0 || f.Count(0) != 25 {
		t.Error("Count behind Update")
	}
}

// TestTwoFields: each goes on when it is asked to, whatever the other one does.
func TestTwoFields(t *testing.T) {
	w := world(t,
		"..~~..",
		".~~~~.",
		"~~~~~~",
		"..~~ww",
		"..~~..")
	a, b, c := field(t, w, api.Hover), field(t, w, api.Hover), field(t, w, api.Boat)
	oldHover, oldBoat := plain{w.Map()}.all(api.Hover), plain{w.Map()}.all(api.Boat)
	place(t, w, 1, rect(2, 2, 2, 1))
	n := updates(t, a, w, api.Hover)
	shows(t, b, w.All(), oldHover, 0)
	shows(t, c, w.All(), oldBoat, 0)
	if m := updates(t, b, w, api.Hover); m != n || n == 0 {
		t.Errorf("Update = %d, then %d of another field", n, m)
	}
	shows(t, c, w.All(), oldBoat, 0)
	updates(t, c, w, api.Boat)
	raze(t, w, 1)
	updates(t, c, w, api.Boat)
	shows(t, c, w.All(), oldBoat, 2)
	if a.Epoch() != 1 || b.Epoch() != 1 {
		t.Errorf("Epoch = %d, %d", a.Epoch(), b.Epoch())
	}
	updates(t, a, w, api.Hover)
	shows(t, a, w.All(), oldHover, 2)
}

// TestCopyOfWorld: the field keeps the world that it was given, and no other.
func TestCopyOfWorld(t *testing.T) {
	w := open(t, 7, 7, api.Plain)
	place(t, w, 1, rect(3, 3, 1, 1))
	f := field(t, w, api.Foot)
	old := plain{w.Map()}.all(api.Foot)
	twin := w.Copy()
	g := field(t, twin, api.Foot)
	place(t, twin, 2, rect(0, 0, 2, 2))
	raze(t, twin, 1)
	if n := updates(t, f, w, api.Foot); n != 0 {
		t.Errorf("Update = %d behind a copy's edits", n)
	}
	shows(t, f, w.All(), old, 1)
	updates(t, g, twin, api.Foot)
	if g.Epoch() != 3 {
		t.Errorf("Epoch of the copy's field = %d", g.Epoch())
	}
	place(t, w, 5, rect(6, 6, 1, 1))
	if n := updates(t, g, twin, api.Foot); n != 0 {
		t.Errorf("Update of the copy's field = %d behind the first world's edits", n)
	}
	updates(t, f, w, api.Foot)
}

// TestWorldStays: no call of the layer edits the world.
func TestWorldStays(t *testing.T) {
	d := dice(6)
	w := d.world(t)
	f := field(t, w, api.Foot)
	d.edit(w)
	m, epoch := w.Map(), w.Epoch()
	update(t, f)
	f.Count(1)
	for y := range m.H {
		for x := range m.W {
			f.At(at(x, y))
			clear.Of(w, api.Hover, at(x, y))
		}
	}
	if got := w.Map(); !slices.Equal(got.Tiles, m.Tiles) || !slices.Equal(got.Built, m.Built) || w.Epoch() != epoch {
		t.Errorf("the world turned from %v to %v", m, got)
	}
}

// Cr3: what follows.

func TestWhatFollows(t *testing.T) {
	d := dice(7)
	for range 30 {
		w := d.world(t)
		of := d.to(api.Classes)
		f := field(t, w, of)
		for range 10 {
			d.edit(w)
		}
		update(t, f)
		all := w.All()
		for y := range all.H {
			for x := range all.W {
				c, has := at(x, y), f.At(at(x, y))
				if want := clear.Of(w, of, c); has != want {
					t.Fatalf("At(%v) = %d, Of = %d", c, has, want)
				}
				for size := -1; size <= 6; size++ {
					want := 1 <= size && size <= has
					if got := class.Stands(w, api.Shape{Class: of, Size: size}, c); got != want {
						t.Fatalf("size %d stands at %v: %v, with clearance %d", size, c, got, has)
					}
				}
				for _, next := range []api.Cell{at(x-1, y), at(x, y-1), at(x-1, y-1)} {
					if f.At(next) > has+1 {
						t.Fatalf("At(%v) = %d, At(%v) = %d", next, f.At(next), c, has)
					}
				}
			}
		}
	}
}

// A Field that New did not give.
func TestNotMade(t *testing.T) {
	var zero clear.Field
	for name, f := range map[string]*clear.Field{"nil": nil, "zero": &zero, "new": new(clear.Field)} {
		t.Run(name, func(t *testing.T) {
			for range 2 {
				if n, code := f.Update(); n != 0 || code != api.ErrArg {
					t.Errorf("Update = %d, error %d", n, code)
				}
				if n := f.Epoch(); n != 0 {
					t.Errorf("Epoch = %d", n)
				}
				for _, c := range append(noCells(1, 1), at(0, 0), at(1, 1)) {
					if n := f.At(c); n != 0 {
						t.Errorf("At(%v) = %d", c, n)
					}
				}
				for _, size := range []int{math.MinInt, -1, 0, 1, 2, 3, 4, 5, math.MaxInt} {
					if n := f.Count(size); n != 0 {
						t.Errorf("Count(%d) = %d", size, n)
					}
				}
			}
		})
	}
}

// TestExamples: the chapter's.
func TestExamples(t *testing.T) {
	w := world(t, "...", "...", "...")
	f := field(t, w, api.Foot)
	if f.At(at(0, 0)) != 3 || f.At(at(2, 2)) != 1 || clear.Of(w, api.Foot, at(0, 0)) != 3 || clear.Of(w, api.Foot, at(2, 2)) != 1 {
		t.Errorf("At = %d, %d", f.At(at(0, 0)), f.At(at(2, 2)))
	}
	place(t, w, 1, rect(1, 1, 1, 1))
	if clear.Of(w, api.Foot, at(0, 0)) != 1 || f.At(at(0, 0)) != 3 {
		t.Error("ahead of Update")
	}
	if n := update(t, f); n != 4 || f.At(at(0, 0)) != 1 {
		t.Errorf("Update = %d, At = %d", n, f.At(at(0, 0)))
	}
}
