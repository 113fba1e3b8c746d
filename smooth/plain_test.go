package smooth_test

import (
	"slices"
	"testing"

	"phalanx/api"
	"phalanx/class"
	"phalanx/grid"
	"phalanx/route"
	"phalanx/smooth"
)

// moves is how X and Y turn by each direction.
var moves = [8][2]int{{1, 0}, {0, 1}, {-1, 0}, {0, -1}, {1, 1}, {-1, 1}, {-1, -1}, {1, -1}}

// plain is what a map tells of a shape, by the words alone: where it stands.
type plain struct {
	w, h   int
	stands []bool // row by row
}

func plainOf(m api.Map, s api.Shape) plain {
	free := make([]bool, m.W*m.H)
	if s.Class >= 0 && s.Class < 4 {
		on := [][]byte{{api.Plain, api.Wood}, {api.Plain}, {api.Water}, {api.Plain, api.Water}}[s.Class]
		for i, terrain := range m.Tiles {
			free[i] = slices.Contains(on, terrain)
		}
	}
	for _, b := range m.Built {
		for y := range b.Foot.H {
			for x := range b.Foot.W {
				free[(b.Foot.At.Y+y)*m.W+b.Foot.At.X+x] = false
			}
		}
	}
	p := plain{w: m.W, h: m.H}
	for y := range m.H {
		for x := range m.W {
			p.stands = append(p.stands, fits(free, m, s.Size, x, y))
		}
	}
	return p
}

func fits(free []bool, m api.Map, size, x, y int) bool {
	for down := range size {
		for right := range size {
			if x+right >= m.W || y+down >= m.H || !free[(y+down)*m.W+x+right] {
				return false
			}
		}
	}
	return 1 <= size && size <= 4
}

func (p plain) at(c api.Cell) bool {
	return 0 <= c.X && c.X < p.w && 0 <= c.Y && c.Y < p.h && p.stands[c.Y*p.w+c.X]
}

// legal asks of each step the four cells of the square that it spans.
func (p plain) legal(from api.Cell, path []api.Cell) bool {
	if !p.at(from) {
		return false
	}
	for _, to := range path {
		isStep := slices.Contains(moves[:], [2]int{to.X - from.X, to.Y - from.Y})
		if !isStep || !p.at(to) || !p.at(at(to.X, from.Y)) || !p.at(at(from.X, to.Y)) {
			return false
		}
		from = to
	}
	return true
}

// smooth is the smoothed path of a legal one.
func (p plain) smooth(from api.Cell, path []api.Cell) []api.Cell {
	var l []api.Cell
	// Where one stands is told by a place in the path, 0 of where it begins.
	all := append([]api.Cell{from}, path...)
	for stand := 0; stand < len(path); {
		next := stand + 1
		for i := stand + 1; i <= stand+32 && i < len(all); i++ {
			if p.legal(all[stand], line(all[stand], all[i])) {
				next = i
			}
		}
		l = append(l, line(all[stand], all[next])...)
		stand = next
	}
	return l
}

// line is that of two cells, however far they are from each other.
func line(from, to api.Cell) []api.Cell {
	x, y := to.X-from.X, to.Y-from.Y
	right, down := sign(x), sign(y)
	var l []api.Cell
	for range min(x*right, y*down) {
		from = at(from.X+right, from.Y+down)
		l = append(l, from)
	}
	for from.X != to.X {
		from = at(from.X+right, from.Y)
		l = append(l, from)
	}
	for from.Y != to.Y {
		from = at(from.X, from.Y+down)
		l = append(l, from)
	}
	return l
}

func sign(n int) int {
	switch {
	case n < 0:
		return -1
	case n > 0:
		return 1
	}
	return 0
}

func apart(a, b api.Cell) int { return max(a.X-b.X, b.X-a.X, a.Y-b.Y, b.Y-a.Y) }

func isNear(c api.Cell) bool { return -far <= c.X && c.X <= far && -far <= c.Y && c.Y <= far }

// turns counts off the directions of a path's steps.
func turns(from api.Cell, path []api.Cell) int {
	var dirs []int
	for _, to := range path {
		dir := slices.Index(moves[:], [2]int{to.X - from.X, to.Y - from.Y})
		if dir < 0 {
			return -1
		}
		dirs = append(dirs, dir)
		from = to
	}
	n := 0
	for i := 1; i < len(dirs); i++ {
		if dirs[i] != dirs[i-1] {
			n++
		}
	}
	return n
}

// holds holds what is told against the words, and against what follows: whether the path was legal.
func holds(t *testing.T, w *grid.World, s api.Shape, from api.Cell, path []api.Cell) bool {
	t.Helper()
	return holdsBy(t, plainOf(w.Map(), s), w, s, from, path)
}

// holdsBy does so by what was reckoned of the world ahead.
func holdsBy(t *testing.T, p plain, w *grid.World, s api.Shape, from api.Cell, path []api.Cell) bool {
	t.Helper()
	old := slices.Clone(path)
	got, code := smooth.Smooth(w, s, from, path)
	if !slices.Equal(path, old) {
		t.Fatalf("Smooth turned the path %v to %v", old, path)
	}
	if n := smooth.Turns(from, path); n != turns(from, path) {
		t.Fatalf("Turns of %v from %v = %d, want %d", path, from, n, turns(from, path))
	}
	if len(path) > api.MaxPath || !p.legal(from, path) {
		if code != api.ErrArg || len(got) > 0 {
			t.Fatalf("%v: Smooth of %v from %v in %v = %v, error %d", s, path, from, w.Map(), got, code)
		}
		return false
	}
	if want := p.smooth(from, path); code != api.OK || !slices.Equal(got, want) {
		t.Fatalf("%v: Smooth of %v from %v in %v = %v, error %d, want %v", s, path, from, w.Map(), got, code, want)
	}
	if !class.Legal(w, s, from, got) || last(from, got) != last(from, path) || class.Cost(from, got) > class.Cost(from, path) || len(got) > len(path) {
		t.Fatalf("%v: Smooth of %v from %v in %v = %v: it is not legal, leads elsewhere, or costs more", s, path, from, w.Map(), got)
	}
	return true
}

func last(from api.Cell, l []api.Cell) api.Cell {
	if len(l) == 0 {
		return from
	}
	return l[len(l)-1]
}

// dice are numbers of no pattern, the same each time.
type dice uint64

// to is a number of 0 to n - 1.
func (d *dice) to(n int) int {
	*d = *d*6364136223846793005 + 1442695040888963407
	return int(uint64(*d)>>33) % n
}

// world is one with patches of terrain and a few buildings.
func (d *dice) world(t *testing.T) *grid.World {
	t.Helper()
	m := api.Map{W: 1 + d.to(24), H: 1 + d.to(24)}
	usual := []byte{api.Plain, api.Plain, api.Water, api.Wood}[d.to(4)]
	m.Tiles = slices.Repeat([]byte{usual}, m.W*m.H)
	for range d.to(m.W*m.H/[]int{4, 16, 64}[d.to(3)] + 1) {
		m.Tiles[d.to(len(m.Tiles))] = byte(d.to(api.Terrains))
	}
	w := made(t, m)
	for id := range d.to(5) {
		w.Place(api.Building{Id: id + 1, Foot: rect(d.to(m.W), d.to(m.H), 1+d.to(3), 1+d.to(3))})
	}
	return w
}

// stand is a cell at which a shape stands, if dice find one soon.
func (d *dice) stand(p plain) api.Cell {
	c := at(d.to(p.w), d.to(p.h))
	for i := 0; i < 50 && !p.at(c); i++ {
		c = at(d.to(p.w), d.to(p.h))
	}
	return c
}

// walk is a legal path of at most n cells: more often on than not, in one direction.
func (d *dice) walk(p plain, from api.Cell, n int) []api.Cell {
	var l []api.Cell
	dir := d.to(8)
	for range n {
		if d.to(3) == 0 {
			dir = d.to(8)
		}
		to := at(from.X+moves[dir][0], from.Y+moves[dir][1])
		if !p.legal(from, []api.Cell{to}) {
			dir = d.to(8)
			continue
		}
		l = append(l, to)
		from = to
	}
	return l
}

// TestByDefinition: worlds of no pattern, for every shape, by walks of no pattern.
func TestByDefinition(t *testing.T) {
	d, straighter := dice(1), map[api.Shape]int{}
	for range 60 {
		w := d.world(t)
		for _, s := range shapes() {
			p := plainOf(w.Map(), s)
			for range 12 {
				from := d.stand(p)
				path := d.walk(p, from, d.to(120))
				if holdsBy(t, p, w, s, from, path) && len(path) > 40 {
					if l, _ := smooth.Smooth(w, s, from, path); len(l) < len(path) && len(l) > 0 {
						straighter[s]++
					}
				}
			}
		}
	}
	for _, s := range shapes() {
		if straighter[s] < 20 {
			t.Errorf("of %v %d paths got shorter", s, straighter[s])
		}
	}
}

// TestTurnedAstray: of walks one cell is turned: often they are not legal then.
func TestTurnedAstray(t *testing.T) {
	d, seen := dice(2), [2]int{}
	for range 60 {
		w := d.world(t)
		for _, s := range shapes() {
			p := plainOf(w.Map(), s)
			from := d.stand(p)
			path := d.walk(p, from, 1+d.to(80))
			if len(path) == 0 {
				continue
			}
			for range 12 {
				bad := slices.Clone(path)
				i := []int{0, len(bad) - 1, d.to(len(bad))}[d.to(3)]
				bad[i] = at(bad[i].X+d.to(3)-1, bad[i].Y+d.to(3)-1)
				if holdsBy(t, p, w, s, from, bad) {
					seen[0]++
				} else {
					seen[1]++
				}
			}
		}
	}
	if seen[0] < 500 || seen[1] < 500 {
		t.Errorf("%d paths were legal, and %d not", seen[0], seen[1])
	}
}

// TestAllSmallPaths: all paths of a few steps, in all worlds of 3 times 3 tiles of Plain and Rock.
func TestAllSmallPaths(t *testing.T) {
	for pattern := range 512 {
		m := api.Map{W: 3, H: 3, Tiles: make([]byte, 9)}
		for i := range m.Tiles {
			m.Tiles[i] = byte(pattern >> i & 1 * api.Rock)
		}
		w := made(t, m)
		p := plainOf(m, foot)
		var goOn func(from, end api.Cell, path []api.Cell)
		goOn = func(from, end api.Cell, path []api.Cell) {
			if !holdsBy(t, p, w, foot, from, path) || len(path) == 3 {
				return
			}
			for _, step := range moves {
				next := at(end.X+step[0], end.Y+step[1])
				goOn(from, next, append(path[:len(path):len(path)], next))
			}
		}
		for i := range 9 {
			goOn(at(i%3, i/3), at(i%3, i/3), nil)
		}
	}
}

// TestShortestWays: a way of least Cost costs the same when it is smoothed.
func TestShortestWays(t *testing.T) {
	d, fewer := dice(3), 0
	for range 80 {
		w := d.world(t)
		for _, s := range shapes() {
			p := plainOf(w.Map(), s)
			from := d.stand(p)
			way, cost := route.Find(w, s, from, d.stand(p), w.All(), 24*24)
			if way.Outcome != api.RouteFound {
				continue
			}
			holdsBy(t, p, w, s, from, way.Cells)
			got, _ := smooth.Smooth(w, s, from, way.Cells)
			if class.Cost(from, got) != cost {
				t.Fatalf("%v: Smooth of %v from %v in %v = %v, at %d, want %d", s, way.Cells, from, w.Map(), got, class.Cost(from, got), cost)
			}
			if smooth.Turns(from, got) < smooth.Turns(from, way.Cells) {
				fewer++
			}
		}
	}
	if fewer < 50 {
		t.Errorf("%d ways turn less often", fewer)
	}
}

// TestGreatest: long paths in worlds of MaxSide, open and mottled.
func TestGreatest(t *testing.T) {
	d := dice(4)
	for _, rocks := range []int{0, 300, 3000} {
		m := api.Map{W: 128, H: 128, Tiles: make([]byte, 128*128)}
		for range rocks {
			m.Tiles[d.to(128*128)] = api.Rock
		}
		w := made(t, m)
		for _, s := range []api.Shape{foot, shape(api.Hover, 2)} {
			p := plainOf(m, s)
			from := d.stand(p)
			path := d.walk(p, from, 3*api.MaxPath)
			for _, n := range []int{0, 1, 31, 32, 33, 64, 65, 1000, len(path) - 1, len(path), api.MaxPath, api.MaxPath + 1} {
				if n <= len(path) {
					holdsBy(t, p, w, s, from, path[:n])
				}
			}
		}
	}
}
