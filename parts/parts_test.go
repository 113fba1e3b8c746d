package parts_test

import (
	"math"
	"slices"
	"strings"
	"testing"

	"phalanx/api"
	"phalanx/grid"
	"phalanx/parts"
)

const far = api.Far

func at(x, y int) api.Cell { return api.Cell{X: x, Y: y} }

func rect(x, y, w, h int) api.Rect { return api.Rect{At: at(x, y), W: w, H: h} }

func shape(class, size int) api.Shape { return api.Shape{Class: class, Size: size} }

// world is one of rows: . Plain, w Wood, ~ Water, # Rock.
func world(t *testing.T, rows ...string) *grid.World {
	t.Helper()
	m := api.Map{W: len(rows[0]), H: len(rows)}
	terrains := map[rune]byte{'.': api.Plain, 'w': api.Wood, '~': api.Water, '#': api.Rock}
	for _, row := range rows {
		for _, r := range row {
			m.Tiles = append(m.Tiles, terrains[r])
		}
	}
	return made(t, m)
}

// open is a world of one terrain.
func open(t *testing.T, width, height int, terrain byte) *grid.World {
	t.Helper()
	return made(t, api.Map{W: width, H: height, Tiles: slices.Repeat([]byte{terrain}, width*height)})
}

func made(t *testing.T, m api.Map) *grid.World {
	t.Helper()
	w, code := grid.New(m)
	if code != api.OK {
		t.Fatalf("New: error %d", code)
	}
	return w
}

func place(t *testing.T, w *grid.World, id int, foot api.Rect) {
	t.Helper()
	if code := w.Place(api.Building{Id: id, Foot: foot}); code != api.OK {
		t.Fatalf("Place %d at %v: error %d", id, foot, code)
	}
}

func raze(t *testing.T, w *grid.World, id int) {
	t.Helper()
	if _, code := w.Raze(id); code != api.OK {
		t.Fatalf("Raze %d: error %d", id, code)
	}
}

// partsOf are those of a world and a shape, which must be no error.
func partsOf(t *testing.T, w *grid.World, s api.Shape) *parts.Parts {
	t.Helper()
	p, code := parts.New(w, s)
	if code != api.OK || p == nil {
		t.Fatalf("New of %v: error %d", s, code)
	}
	return p
}

// ends are numbers far below and far above all that counts.
func ends() (below, above []int) {
	below = []int{math.MinInt, math.MinInt + 1, math.MinInt32 - 1, math.MinInt32, -1 << 16, -256, -255, -5, -4, -3, -2, -1}
	above = []int{255, 256, 257, 260, 1 << 16, math.MaxInt32, math.MaxInt32 + 1, 1 << 32, 1<<32 + 1, 1<<32 + 4, math.MaxInt - 1, math.MaxInt}
	return below, above
}

// noShapes are shapes that may not be.
func noShapes() []api.Shape {
	below, above := ends()
	outside := append(below, above...)
	var l []api.Shape
	for _, n := range append([]int{4, 5}, outside...) {
		for size := 1; size <= 4; size++ {
			l = append(l, shape(n, size))
		}
	}
	for _, n := range append([]int{0, 5, 6}, outside...) {
		for class := range api.Classes {
			l = append(l, shape(class, n))
		}
	}
	return append(l, shape(-1, 0), shape(4, 5), shape(-1, 5), shape(4, 0), shape(math.MinInt, math.MinInt), shape(math.MaxInt, math.MaxInt))
}

// shapes are all that may be.
func shapes() []api.Shape {
	var l []api.Shape
	for class := range api.Classes {
		for size := 1; size <= 4; size++ {
			l = append(l, shape(class, size))
		}
	}
	return l
}

// noCells are cells that are none of a world that is w wide and h high.
func noCells(w, h int) []api.Cell {
	l := []api.Cell{at(-1, -1), at(-1, h), at(w, -1), at(w, h), at(w-1, h), at(w, h-1), at(w, 0), at(0, h)}
	for _, n := range []int{math.MinInt, math.MinInt + 1, math.MinInt32, -far - 1, -far, -128, -w, -4, -3, -2, -1, 128, 1 << 16, far - 1, far, far + 1, 1 << 32, 1<<32 + 1, math.MaxInt32, math.MaxInt - 3, math.MaxInt - 1, math.MaxInt} {
		l = append(l, at(n, 0), at(0, n), at(n, n), at(n, h-1), at(w-1, n), at(n, 1), at(1, n))
	}
	return l
}

// plain is a world as its map says it, and nothing else.
type plain struct{ m api.Map }

func (p plain) carries(of int, tile api.Cell) bool {
	if tile.X < 0 || tile.Y < 0 || tile.X >= p.m.W || tile.Y >= p.m.H {
		return false
	}
	for _, b := range p.m.Built {
		if b.Foot.At.X <= tile.X && tile.X < b.Foot.At.X+b.Foot.W && b.Foot.At.Y <= tile.Y && tile.Y < b.Foot.At.Y+b.Foot.H {
			return false
		}
	}
	terrain := p.m.Tiles[tile.Y*p.m.W+tile.X]
	switch of {
	case api.Foot:
		return terrain == api.Plain || terrain == api.Wood
	case api.Wheel:
		return terrain == api.Plain
	case api.Boat:
		return terrain == api.Water
	default:
		return terrain == api.Plain || terrain == api.Water
	}
}

func (p plain) stands(s api.Shape, c api.Cell) bool {
	for y := range s.Size {
		for x := range s.Size {
			if !p.carries(s.Class, at(c.X+x, c.Y+y)) {
				return false
			}
		}
	}
	return true
}

// steps tells whether a step by x and y, -1 to 1 each, is legal.
func (p plain) steps(s api.Shape, c api.Cell, x, y int) bool {
	return p.stands(s, c) && p.stands(s, at(c.X+x, c.Y+y)) && p.stands(s, at(c.X+x, c.Y)) && p.stands(s, at(c.X, c.Y+y))
}

// search is the numbers of all cells' parts, row by row, by a walk of legal steps in all eight directions.
func (p plain) search(s api.Shape) []int {
	l := make([]int, p.m.W*p.m.H)
	last := 0
	for i := range l {
		first := at(i%p.m.W, i/p.m.W)
		if l[i] != 0 || !p.stands(s, first) {
			continue
		}
		last++
		l[i] = last
		for todo := []api.Cell{first}; len(todo) > 0; {
			c := todo[len(todo)-1]
			todo = todo[:len(todo)-1]
			for y := -1; y <= 1; y++ {
				for x := -1; x <= 1; x++ {
					if to := (c.Y+y)*p.m.W + c.X + x; p.steps(s, c, x, y) && l[to] == 0 {
						l[to] = last
						todo = append(todo, at(c.X+x, c.Y+y))
					}
				}
			}
		}
	}
	return l
}

// shown are the numbers that are told, row by row.
func shown(p *parts.Parts, all api.Rect) []int {
	var l []int
	for y := range all.H {
		for x := range all.W {
			l = append(l, p.At(at(x, y)))
		}
	}
	return l
}

// shows asks by every call whether parts are just these.
func shows(t *testing.T, p *parts.Parts, all api.Rect, want []int) {
	t.Helper()
	if got := shown(p, all); !slices.Equal(got, want) {
		t.Fatalf("At tells %v, want %v (%d wide)", got, want, all.W)
	}
	most := slices.Max(want)
	if got := p.Len(); got != most {
		t.Fatalf("Len = %d, want %d", got, most)
	}
	for n := 1; n <= most; n++ {
		i := slices.Index(want, n)
		if got, ok := p.First(n); !ok || got != at(i%all.W, i/all.W) {
			t.Fatalf("First(%d) = %v, %v in %v (%d wide)", n, got, ok, want, all.W)
		}
		if got, size := p.Size(n), count(want, n); got != size {
			t.Fatalf("Size(%d) = %d, want %d", n, got, size)
		}
	}
	showsNoMore(t, p, most)
	for _, c := range noCells(all.W, all.H) {
		if got := p.At(c); got != 0 {
			t.Fatalf("At(%v) = %d of a cell that is none", c, got)
		}
	}
}

// showsNoMore asks for parts that there are none of, if there are most.
func showsNoMore(t *testing.T, p *parts.Parts, most int) {
	t.Helper()
	below, above := ends()
	for _, n := range append(below, 0, most+1, most+2, 2*most+1) {
		showsNone(t, p, n)
	}
	for _, n := range above {
		if n > most {
			showsNone(t, p, n)
		}
	}
}

func showsNone(t *testing.T, p *parts.Parts, n int) {
	t.Helper()
	if got := p.Size(n); got != 0 {
		t.Fatalf("Size(%d) = %d", n, got)
	}
	if got, ok := p.First(n); ok || got != (api.Cell{}) {
		t.Fatalf("First(%d) = %v, %v", n, got, ok)
	}
}

// count is how often a number stands in a list.
func count(l []int, n int) int {
	sum := 0
	for _, has := range l {
		if has == n {
			sum++
		}
	}
	return sum
}

// showsNow asks whether parts are of the world as it is.
func showsNow(t *testing.T, p *parts.Parts, w *grid.World, s api.Shape) {
	t.Helper()
	shows(t, p, w.All(), plain{w.Map()}.search(s))
}

// updates calls Update, and asks whether it tells just whether a number turned, and turns all that it must.
func updates(t *testing.T, p *parts.Parts, w *grid.World, s api.Shape) bool {
	t.Helper()
	was := shown(p, w.All())
	turned, code := p.Update()
	if code != api.OK {
		t.Fatalf("Update: error %d", code)
	}
	showsNow(t, p, w, s)
	if want := !slices.Equal(was, shown(p, w.All())); turned != want {
		t.Fatalf("Update = %v, want %v: from %v to %v", turned, want, was, shown(p, w.All()))
	}
	return turned
}

// picture is numbers as rows of digits, '.' for none.
func picture(p *parts.Parts, all api.Rect) string {
	var b strings.Builder
	for i, n := range shown(p, all) {
		if i > 0 && i%all.W == 0 {
			b.WriteByte('/')
		}
		b.WriteByte(".123456789"[n])
	}
	return b.String()
}

// looks asks whether numbers are those of a picture.
func looks(t *testing.T, p *parts.Parts, w *grid.World, want ...string) {
	t.Helper()
	if got := picture(p, w.All()); got != strings.Join(want, "/") {
		t.Errorf("parts %s, want %s", got, strings.Join(want, "/"))
	}
}

// dice are numbers of no pattern, the same each time.
type dice uint64

// to is a number of 0 to n - 1.
func (d *dice) to(n int) int {
	*d = *d*6364136223846793005 + 1442695040888963407
	return int(uint64(*d)>>33) % n
}

// tiles are patches of terrain.
func (d *dice) tiles(width, height int) api.Map {
	m := api.Map{W: width, H: height}
	usual := []byte{api.Plain, api.Plain, api.Water, api.Wood}[d.to(4)]
	m.Tiles = slices.Repeat([]byte{usual}, m.W*m.H)
	for range d.to(m.W*m.H/2 + 1) {
		m.Tiles[d.to(len(m.Tiles))] = byte(d.to(api.Terrains))
	}
	return m
}

// world is one with patches of terrain and a few buildings.
func (d *dice) world(t *testing.T) *grid.World {
	t.Helper()
	w := made(t, d.tiles(1+d.to(14), 1+d.to(14)))
	for range d.to(4) {
		d.edit(w)
	}
	return w
}

// edit places a building, razes one, or is refused.
func (d *dice) edit(w *grid.World) {
	if d.to(3) == 0 {
		w.Raze(1 + d.to(12))
		return
	}
	w.Place(api.Building{Id: 1 + d.to(12), Foot: rect(d.to(w.All().W), d.to(w.All().H), 1+d.to(3), 1+d.to(3))})
}

// Pt1: New, At, Len, Size, First.

func TestNewRefuses(t *testing.T) {
	good := open(t, 5, 5, api.Plain)
	refused := func(w *grid.World, s api.Shape) {
		t.Helper()
		if p, code := parts.New(w, s); p != nil || code != api.ErrArg {
			t.Errorf("New of %v: %v, error %d", s, p, code)
		}
	}
	for _, s := range noShapes() {
		refused(good, s)
		refused(nil, s)
		refused(&grid.World{}, s)
	}
	for _, s := range shapes() {
		refused(nil, s)
		refused(new(grid.World), s)
		refused((&grid.World{}).Copy(), s)
		partsOf(t, good, s)
		partsOf(t, good.Copy(), s)
	}
	if n := good.Epoch(); n != 0 {
		t.Errorf("New edits the world: epoch %d", n)
	}
}

// TestNew: worlds of all sides, of no pattern, with buildings of the map and of edits, for every shape.
func TestNew(t *testing.T) {
	d := dice(1)
	var seen [4]int
	for range 60 {
		w := d.world(t)
		for _, s := range shapes() {
			p := partsOf(t, w, s)
			showsNow(t, p, w, s)
			showsNow(t, partsOf(t, w.Copy(), s), w, s)
			showsNow(t, partsOf(t, made(t, w.Map()), s), w, s)
			seen[min(p.Len(), len(seen)-1)]++
		}
	}
	for n, times := range seen {
		if times < 20 {
			t.Errorf("%d parts just %d times", n, times)
		}
	}
}

func TestNewAtLimits(t *testing.T) {
	d := dice(2)
	for _, side := range [][2]int{{1, 1}, {1, 128}, {128, 1}, {2, 128}, {128, 3}, {128, 128}, {4, 4}, {5, 4}, {3, 3}} {
		for _, s := range []api.Shape{shape(api.Foot, 1), shape(api.Hover, 2), shape(api.Boat, 1), shape(api.Wheel, 4)} {
			w := made(t, d.tiles(side[0], side[1]))
			p := partsOf(t, w, s)
			showsNow(t, p, w, s)
			place(t, w, 1, rect(side[0]-1, side[1]-1, 1, 1))
			updates(t, p, w, s)
		}
	}
}

// TestRoundTheWorld: a cell beside the world is in no part, and a row's end does not touch the next one's beginning.
func TestRoundTheWorld(t *testing.T) {
	w := world(t,
		"..#..",
		"#####",
		"..#..")
	p := partsOf(t, w, shape(api.Foot, 1))
	looks(t, p, w, "11.22", ".....", "33.44")
	for x := -2; x < 7; x++ {
		for y := -2; y < 5; y++ {
			inside := 0 <= x && x < 5 && 0 <= y && y < 3
			if got := p.At(at(x, y)); !inside && got != 0 {
				t.Errorf("At(%d, %d) = %d", x, y, got)
			}
			if !inside && (p.Joined(at(x, y), at(0, 0)) || p.Joined(at(0, 0), at(x, y)) || p.Joined(at(x, y), at(x, y))) {
				t.Errorf("%d, %d is joined to something", x, y)
			}
		}
	}
	w = world(t,
		"#.#",
		".#.",
		"#.#")
	p = partsOf(t, w, shape(api.Foot, 1))
	looks(t, p, w, ".1.", "2.3", ".4.")
}

// TestCorners: parts that touch at a corner alone are two, whichever one, and one tile beside it joins them.
func TestCorners(t *testing.T) {
	for _, c := range []struct{ rows, want []string }{
		{[]string{".#", "#."}, []string{"1.", ".2"}},
		{[]string{"#.", ".#"}, []string{".1", "2."}},
		{[]string{"..", "#."}, []string{"11", ".1"}},
		{[]string{".#", ".."}, []string{"1.", "11"}},
		{[]string{"#.", ".."}, []string{".1", "11"}},
		{[]string{"..", ".#"}, []string{"11", "1."}},
		{[]string{"..##", "..##", "##..", "##.."}, []string{"11..", "11..", "..22", "..22"}},
		{[]string{"##..", "##..", "..##", "..##"}, []string{"..11", "..11", "22..", "22.."}},
	} {
		w := world(t, c.rows...)
		looks(t, partsOf(t, w, shape(api.Foot, 1)), w, c.want...)
	}
	// Two tiles wide, by cells that touch at a corner, and by those beside it.
	w := world(t,
		"..##",
		"...#",
		"#...",
		"##..")
	looks(t, partsOf(t, w, shape(api.Foot, 1)), w, "11..", "111.", ".111", "..11")
	looks(t, partsOf(t, w, shape(api.Foot, 2)), w, "1...", ".2..", "..3.", "....")
}

// TestSmallPasses: what joins for a small shape does not join for a great one.
func TestSmallPasses(t *testing.T) {
	w := world(t,
		"....#....",
		"....#....",
		".........",
		".........",
		"....#....",
		"....#....")
	for _, c := range []struct{ size, parts, cells int }{
		{1, 1, 50}, {2, 1, 32}, {3, 2, 8}, {4, 2, 3},
	} {
		s := shape(api.Wheel, c.size)
		p := partsOf(t, w, s)
		showsNow(t, p, w, s)
		if p.Len() != c.parts || p.Size(1) != c.cells {
			t.Errorf("size %d: %d parts, the first of %d cells", c.size, p.Len(), p.Size(1))
		}
		if got, ok := p.First(2); ok != (c.parts == 2) || ok && got != at(5, 0) {
			t.Errorf("size %d: the second part begins at %v", c.size, got)
		}
	}
}

// TestClasses: each class has parts of its own.
func TestClasses(t *testing.T) {
	w := world(t,
		".w.~.",
		"#####",
		"~~w~.")
	for _, c := range []struct {
		class int
		want  []string
	}{
		{api.Foot, []string{"111.2", ".....", "..3.4"}},
		{api.Wheel, []string{"1.2.3", ".....", "....4"}},
		{api.Boat, []string{"...1.", ".....", "22.3."}},
		{api.Hover, []string{"1.222", ".....", "33.44"}},
	} {
		looks(t, partsOf(t, w, shape(c.class, 1)), w, c.want...)
	}
}

// TestNumbers: parts are numbered by their first cells, row by row, whatever else they reach to.
func TestNumbers(t *testing.T) {
	w := world(t,
		"##.#.",
		".#.#.",
		".#.#.",
		".###.",
		".....")
	looks(t, partsOf(t, w, shape(api.Foot, 1)), w, "..1.2", "2.1.2", "2.1.2", "2...2", "22222")
	w = world(t,
		"###.",
		".##.",
		"..#.",
		"#.#.",
		"#...")
	looks(t, partsOf(t, w, shape(api.Foot, 1)), w, "...1", "1..1", "11.1", ".1.1", ".111")
	w = world(t,
		"###.#",
		"#.#.#",
		"#.###",
		"....#",
		"#####",
		"..#..")
	looks(t, partsOf(t, w, shape(api.Foot, 1)), w, "...1.", ".2.1.", ".2...", "2222.", ".....", "33.44")
}

// TestNoPart: where the shape stands nowhere.
func TestNoPart(t *testing.T) {
	for _, c := range []struct {
		w *grid.World
		s api.Shape
	}{
		{open(t, 128, 128, api.Rock), shape(api.Foot, 1)},
		{open(t, 128, 128, api.Rock), shape(api.Hover, 1)},
		{open(t, 9, 9, api.Plain), shape(api.Boat, 1)},
		{open(t, 9, 9, api.Wood), shape(api.Wheel, 1)},
		{open(t, 9, 9, api.Water), shape(api.Foot, 2)},
		{open(t, 3, 128, api.Plain), shape(api.Foot, 4)},
		{open(t, 128, 3, api.Plain), shape(api.Foot, 4)},
		{open(t, 1, 1, api.Plain), shape(api.Foot, 2)},
		{open(t, 1, 1, api.Rock), shape(api.Foot, 1)},
	} {
		p := partsOf(t, c.w, c.s)
		shows(t, p, c.w.All(), make([]int, c.w.All().W*c.w.All().H))
		if p.Joined(at(0, 0), at(0, 0)) || p.Joined(at(0, 0), at(-1, 0)) {
			t.Errorf("%v: joined where it does not stand", c.s)
		}
		place(t, c.w, 1, rect(0, 0, 1, 1))
		if updates(t, p, c.w, c.s) {
			t.Errorf("%v: Update turned something", c.s)
		}
	}
}

// snake is a greatest map with one way that goes to and fro through all of it.
func snake() api.Map {
	m := api.Map{W: 128, H: 128, Tiles: make([]byte, 128*128)}
	for y := 1; y < 128; y += 2 {
		for x := range 128 {
			m.Tiles[y*128+x] = api.Rock
		}
		// By turns the last one of the row and the first one are open.
		m.Tiles[y*128+127*(y/2%2^1)] = api.Plain
	}
	return m
}

func TestWindingPart(t *testing.T) {
	w := made(t, snake())
	s := shape(api.Foot, 1)
	p := partsOf(t, w, s)
	showsNow(t, p, w, s)
	if p.Len() != 1 || p.Size(1) != 64*128+64 || !p.Joined(at(0, 0), at(0, 126)) {
		t.Fatalf("%d parts, the first of %d cells", p.Len(), p.Size(1))
	}
	// In the midst of the way a building splits it; behind Raze it is one again.
	place(t, w, 1, rect(60, 64, 1, 1))
	if !updates(t, p, w, s) || p.Len() != 2 || p.Joined(at(0, 0), at(0, 126)) || p.Size(1)+p.Size(2) != 64*128+63 {
		t.Errorf("split: %d parts", p.Len())
	}
	raze(t, w, 1)
	if !updates(t, p, w, s) || p.Len() != 1 {
		t.Errorf("whole again: %d parts", p.Len())
	}
}

// TestManyParts: a greatest map like a chessboard: no two cells are joined.
func TestManyParts(t *testing.T) {
	m := api.Map{W: 128, H: 128}
	for i := range 128 * 128 {
		m.Tiles = append(m.Tiles, []byte{api.Plain, api.Rock}[(i/128+i%128)%2])
	}
	w := made(t, m)
	s := shape(api.Foot, 1)
	p := partsOf(t, w, s)
	showsNow(t, p, w, s)
	if p.Len() != 8192 || p.Size(8192) != 1 || p.Size(8193) != 0 || p.At(at(127, 127)) != 8192 {
		t.Fatalf("%d parts", p.Len())
	}
	place(t, w, 1, rect(0, 0, 1, 1))
	if !updates(t, p, w, s) || p.Len() != 8191 || p.At(at(127, 127)) != 8191 {
		t.Errorf("%d parts behind a building", p.Len())
	}
}

func TestOpenGreatestMap(t *testing.T) {
	for size := 1; size <= 4; size++ {
		w := open(t, 128, 128, api.Plain)
		p := partsOf(t, w, shape(api.Foot, size))
		side := 129 - size
		if p.Len() != 1 || p.Size(1) != side*side || p.At(at(side-1, side-1)) != 1 || p.At(at(side, 0)) != 0 || p.At(at(0, side)) != 0 {
			t.Errorf("size %d: %d parts, the first of %d cells", size, p.Len(), p.Size(1))
		}
	}
}

// Pt2: Joined.

// TestJoined: every two cells, and cells beside the world, against the search.
func TestJoined(t *testing.T) {
	d := dice(3)
	for range 12 {
		w := made(t, d.tiles(1+d.to(7), 1+d.to(7)))
		s := shape(d.to(api.Classes), 1+d.to(2))
		p, all := partsOf(t, w, s), w.All()
		numbers := plain{w.Map()}.search(s)
		number := func(c api.Cell) int {
			if c.X < 0 || c.Y < 0 || c.X >= all.W || c.Y >= all.H {
				return 0
			}
			return numbers[c.Y*all.W+c.X]
		}
		cells := append(noCells(all.W, all.H)[:12], at(far, far), at(math.MinInt, math.MaxInt))
		for i := range numbers {
			cells = append(cells, at(i%all.W, i/all.W))
		}
		for _, a := range cells {
			for _, b := range cells {
				if got, want := p.Joined(a, b), number(a) != 0 && number(a) == number(b); got != want {
					t.Fatalf("Joined(%v, %v) = %v, want %v", a, b, got, want)
				}
			}
		}
	}
}

func TestJoinedOfNoCells(t *testing.T) {
	w := open(t, 6, 5, api.Plain)
	p := partsOf(t, w, shape(api.Foot, 1))
	for _, c := range noCells(6, 5) {
		for _, other := range []api.Cell{c, at(0, 0), at(5, 4), at(-1, -1), at(far, far)} {
			if p.Joined(c, other) || p.Joined(other, c) {
				t.Errorf("Joined of %v and %v", c, other)
			}
		}
	}
}

// Pt2: Update.

// TestTillUpdate: edits turn nothing till Update comes, and a second one turns nothing more.
func TestTillUpdate(t *testing.T) {
	w := world(t,
		".#.",
		".#.",
		"...")
	s := shape(api.Foot, 1)
	p := partsOf(t, w, s)
	old := shown(p, w.All())
	place(t, w, 1, rect(1, 2, 1, 1))
	shows(t, p, w.All(), old)
	if !p.Joined(at(0, 0), at(2, 0)) {
		t.Error("Joined turned ahead of Update")
	}
	if !updates(t, p, w, s) {
		t.Error("Update = false behind a split")
	}
	looks(t, p, w, "1.2", "1.2", "1.2")
	if p.Joined(at(0, 0), at(2, 0)) || !p.Joined(at(2, 0), at(2, 2)) {
		t.Error("Joined behind a split")
	}
	for range 3 {
		if updates(t, p, w, s) {
			t.Error("Update once more = true")
		}
	}
	raze(t, w, 1)
	looks(t, p, w, "1.2", "1.2", "1.2")
	if !updates(t, p, w, s) {
		t.Error("Update = false behind Raze")
	}
	shows(t, p, w.All(), old)
}

// TestNumbersTurn: edits let parts come, go, split and join, and all behind them have other numbers.
func TestNumbersTurn(t *testing.T) {
	w := world(t,
		"##.##",
		".....",
		"#####",
		"..#..")
	s := shape(api.Foot, 1)
	p := partsOf(t, w, s)
	next := func(turned bool, want ...string) {
		t.Helper()
		if updates(t, p, w, s) != turned {
			t.Errorf("Update = %v", !turned)
		}
		looks(t, p, w, want...)
	}
	looks(t, p, w, "..1..", "11111", ".....", "22.33")
	place(t, w, 1, rect(2, 1, 1, 1))
	next(true, "..1..", "22.33", ".....", "44.55")
	// The first part goes.
	place(t, w, 2, rect(2, 0, 1, 1))
	next(true, ".....", "11.22", ".....", "33.44")
	// Two become one, and begin where the left one did.
	raze(t, w, 1)
	next(true, ".....", "11111", ".....", "22.33")
	raze(t, w, 2)
	next(true, "..1..", "11111", ".....", "22.33")
	// Where a part's first cell goes, its number may stay, and that cell turned.
	place(t, w, 3, rect(2, 0, 1, 1))
	next(true, ".....", "11111", ".....", "22.33")
	place(t, w, 4, rect(0, 3, 2, 1))
	next(true, ".....", "11111", ".....", "...22")
	place(t, w, 5, rect(3, 3, 2, 1))
	next(true, ".....", "11111", ".....", ".....")
	place(t, w, 6, rect(0, 1, 5, 1))
	next(true, ".....", ".....", ".....", ".....")
	raze(t, w, 5)
	next(true, ".....", ".....", ".....", "...11")
	raze(t, w, 3)
	next(true, "..1..", ".....", ".....", "...22")
}

// TestOrderTurns: a part's first cell goes, and it comes behind another one.
func TestOrderTurns(t *testing.T) {
	w := world(t,
		".#.",
		".#.",
		".#.")
	s := shape(api.Foot, 1)
	p := partsOf(t, w, s)
	looks(t, p, w, "1.2", "1.2", "1.2")
	place(t, w, 1, rect(0, 0, 1, 1))
	if !updates(t, p, w, s) {
		t.Error("Update = false")
	}
	looks(t, p, w, "..1", "2.1", "2.1")
	if c, ok := p.First(2); !ok || c != at(0, 1) || p.Size(2) != 2 || p.Size(1) != 3 {
		t.Errorf("First(2) = %v, sizes %d, %d", c, p.Size(1), p.Size(2))
	}
	raze(t, w, 1)
	updates(t, p, w, s)
	looks(t, p, w, "1.2", "1.2", "1.2")
}

// TestNothingTurns: edits that turn no number, and refused ones.
func TestNothingTurns(t *testing.T) {
	w := world(t,
		"......",
		"..##..",
		"..##..",
		"......",
		"~~~~~~",
		"~~~~~~")
	foot, wide := shape(api.Foot, 1), shape(api.Foot, 2)
	p, q := partsOf(t, w, foot), partsOf(t, w, wide)
	still := func(of *parts.Parts, s api.Shape) {
		t.Helper()
		if updates(t, of, w, s) {
			t.Errorf("Update of %v turned something", s)
		}
	}
	// On tiles that carry nobody of the class.
	place(t, w, 1, rect(2, 1, 2, 2))
	still(p, foot)
	still(q, wide)
	place(t, w, 2, rect(0, 4, 6, 2))
	still(p, foot)
	still(q, wide)
	raze(t, w, 1)
	raze(t, w, 2)
	still(p, foot)
	still(q, wide)
	// Where the small one stood, but the great one did not: clearances turn, its parts don't.
	place(t, w, 3, rect(2, 0, 1, 1))
	if !updates(t, p, w, foot) {
		t.Error("Update of a small shape turned nothing")
	}
	still(q, wide)
	// Refused ones.
	w.Place(api.Building{Id: 3, Foot: rect(0, 0, 1, 1)})
	w.Place(api.Building{Id: 4, Foot: rect(2, 0, 1, 1)})
	w.Place(api.Building{Id: 5, Foot: rect(5, 5, 2, 1)})
	w.Place(api.Building{Id: 0, Foot: rect(0, 0, 1, 1)})
	w.Raze(9)
	still(p, foot)
	still(q, wide)
}

// TestUndone: what is placed and razed at once turned nothing.
func TestUndone(t *testing.T) {
	w := world(t, ".....", "##.##", ".....")
	s := shape(api.Foot, 1)
	p := partsOf(t, w, s)
	for range 3 {
		place(t, w, 1, rect(2, 1, 1, 1))
		raze(t, w, 1)
		if updates(t, p, w, s) {
			t.Error("Update = true behind edits that undo each other")
		}
	}
	place(t, w, 1, rect(2, 1, 1, 1))
	updates(t, p, w, s)
	raze(t, w, 1)
	place(t, w, 2, rect(2, 1, 1, 1))
	if updates(t, p, w, s) {
		t.Error("Update = true behind a building for another one")
	}
	raze(t, w, 2)
	place(t, w, 3, rect(0, 0, 5, 1))
	raze(t, w, 3)
	place(t, w, 4, rect(2, 1, 1, 1))
	if updates(t, p, w, s) {
		t.Error("Update = true behind edits that end where they began")
	}
}

// TestMaxBuild: as many buildings at once as there may be.
func TestMaxBuild(t *testing.T) {
	w := open(t, 64, 64, api.Plain)
	small, great := shape(api.Foot, 1), shape(api.Foot, 3)
	p, q := partsOf(t, w, small), partsOf(t, w, great)
	for i := range 256 {
		place(t, w, i+1, rect(i%16*4, i/16*4, 1+i%3, 1+i%2))
	}
	if !updates(t, p, w, small) || !updates(t, q, w, great) {
		t.Error("Update = false behind many buildings")
	}
	for i := range 256 {
		raze(t, w, i+1)
	}
	if !updates(t, p, w, small) || !updates(t, q, w, great) {
		t.Error("Update = false behind many Razes")
	}
	if p.Len() != 1 || p.Size(1) != 64*64 || q.Len() != 1 || q.Size(1) != 62*62 {
		t.Errorf("%d parts, %d parts", p.Len(), q.Len())
	}
}

// TestAgainstPlain: edits of no pattern, Updates now and then, against what the plain definition tells.
func TestAgainstPlain(t *testing.T) {
	d := dice(4)
	none, some := 0, 0
	for range 80 {
		w := d.world(t)
		s := shape(d.to(api.Classes), 1+d.to(4))
		p := partsOf(t, w, s)
		for range 30 {
			want := shown(p, w.All())
			for range d.to(4) {
				d.edit(w)
			}
			shows(t, p, w.All(), want)
			if updates(t, p, w, s) {
				some++
			} else {
				none++
			}
		}
	}
	if none < 100 || some < 100 {
		t.Errorf("Update turned something %d times, and nothing %d times", some, none)
	}
}

// TestTwo: each goes on when it is asked to, whatever the other one does.
func TestTwo(t *testing.T) {
	w := world(t,
		"..~~..",
		".~~~~.",
		"~~~~~~",
		"..~~ww")
	hover, boat := shape(api.Hover, 1), shape(api.Boat, 1)
	a, b, c := partsOf(t, w, hover), partsOf(t, w, hover), partsOf(t, w, boat)
	oldHover, oldBoat := shown(a, w.All()), shown(c, w.All())
	place(t, w, 1, rect(0, 2, 6, 1))
	if !updates(t, a, w, hover) {
		t.Error("Update = false")
	}
	shows(t, b, w.All(), oldHover)
	shows(t, c, w.All(), oldBoat)
	if !updates(t, b, w, hover) {
		t.Error("Update = false of others of the same shape")
	}
	shows(t, c, w.All(), oldBoat)
	updates(t, c, w, boat)
	raze(t, w, 1)
	updates(t, c, w, boat)
	shows(t, c, w.All(), oldBoat)
	if a.Len() != 2 || b.Len() != 2 {
		t.Errorf("%d, %d parts", a.Len(), b.Len())
	}
}

// TestCopyOfWorld: parts keep the world that they were given, and no other.
func TestCopyOfWorld(t *testing.T) {
	w := world(t, ".....", "##.##", ".....")
	s := shape(api.Foot, 1)
	p := partsOf(t, w, s)
	old := shown(p, w.All())
	twin := w.Copy()
	q := partsOf(t, twin, s)
	place(t, twin, 1, rect(2, 1, 1, 1))
	if updates(t, p, w, s) {
		t.Error("Update = true behind a copy's edit")
	}
	shows(t, p, w.All(), old)
	shows(t, q, w.All(), old)
	if !updates(t, q, twin, s) || q.Len() != 2 {
		t.Errorf("the copy's: %d parts", q.Len())
	}
	place(t, w, 5, rect(0, 0, 1, 1))
	if updates(t, q, twin, s) {
		t.Error("Update of the copy's parts = true behind the first world's edit")
	}
	if !updates(t, p, w, s) || p.Len() != 1 {
		t.Errorf("the first one's: %d parts", p.Len())
	}
}

// TestWorldStays: no call of the layer edits the world.
func TestWorldStays(t *testing.T) {
	d := dice(5)
	w := d.world(t)
	p := partsOf(t, w, shape(api.Foot, 1))
	d.edit(w)
	m, epoch := w.Map(), w.Epoch()
	updates(t, p, w, shape(api.Foot, 1))
	p.Joined(at(0, 0), at(1, 1))
	if got := w.Map(); !slices.Equal(got.Tiles, m.Tiles) || !slices.Equal(got.Built, m.Built) || w.Epoch() != epoch {
		t.Errorf("the world turned from %v to %v", m, got)
	}
}

// Pt3: what follows.

// TestWhatFollows: Joined of a cell with itself, both ways round, and through a third one; and all as of a New.
func TestWhatFollows(t *testing.T) {
	d := dice(6)
	for range 12 {
		w := made(t, d.tiles(1+d.to(6), 1+d.to(6)))
		s := shape(d.to(api.Classes), 1+d.to(2))
		p := partsOf(t, w, s)
		for range 6 {
			d.edit(w)
		}
		updates(t, p, w, s)
		shows(t, partsOf(t, w, s), w.All(), shown(p, w.All()))
		isEquivalence(t, p, plain{w.Map()}, s)
	}
}

func isEquivalence(t *testing.T, p *parts.Parts, w plain, s api.Shape) {
	t.Helper()
	var cells []api.Cell
	for i := range w.m.Tiles {
		cells = append(cells, at(i%w.m.W, i/w.m.W))
	}
	for _, a := range cells {
		if got, want := p.Joined(a, a), w.stands(s, a); got != want {
			t.Fatalf("Joined(%v, %v) = %v, want %v", a, a, got, want)
		}
		for _, b := range cells {
			if p.Joined(a, b) != p.Joined(b, a) {
				t.Fatalf("Joined of %v and %v is not the same both ways round", a, b)
			}
			for _, c := range cells {
				if p.Joined(a, b) && p.Joined(b, c) && !p.Joined(a, c) {
					t.Fatalf("%v, %v and %v are joined, but the first and the last", a, b, c)
				}
			}
		}
	}
}

// TestNotGiven: parts that New did not give tell nothing.
func TestNotGiven(t *testing.T) {
	below, above := ends()
	numbers := append(append(below, 0, 1, 2, 3, 4), above...)
	for _, p := range []*parts.Parts{nil, {}, new(parts.Parts)} {
		for _, c := range append(noCells(5, 5), at(0, 0), at(1, 1), at(4, 4)) {
			if got := p.At(c); got != 0 {
				t.Errorf("At(%v) = %d", c, got)
			}
			if p.Joined(c, c) || p.Joined(c, at(0, 0)) || p.Joined(at(0, 0), c) {
				t.Errorf("Joined of %v", c)
			}
		}
		if got := p.Len(); got != 0 {
			t.Errorf("Len = %d", got)
		}
		for _, n := range numbers {
			showsNone(t, p, n)
		}
		for range 2 {
			if turned, code := p.Update(); turned || code != api.ErrArg {
				t.Errorf("Update = %v, error %d", turned, code)
			}
		}
	}
}

// Example 1 of the chapter.

func TestExample(t *testing.T) {
	w := world(t, ".#.")
	p := partsOf(t, w, shape(api.Foot, 1))
	shows(t, p, w.All(), []int{1, 0, 2})
	if p.Len() != 2 || p.Size(1) != 1 || p.Size(2) != 1 || p.Joined(at(0, 0), at(2, 0)) {
		t.Errorf("%d parts, of %d and %d cells", p.Len(), p.Size(1), p.Size(2))
	}
	if c, ok := p.First(1); !ok || c != at(0, 0) {
		t.Errorf("First(1) = %v, %v", c, ok)
	}
	if c, ok := p.First(2); !ok || c != at(2, 0) {
		t.Errorf("First(2) = %v, %v", c, ok)
	}
}
