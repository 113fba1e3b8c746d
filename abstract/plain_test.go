package abstract_test

import (
	"reflect"
	"slices"
	"testing"

	"phalanx/abstract"
	"phalanx/api"
	"phalanx/cell"
	"phalanx/class"
	"phalanx/cluster"
	"phalanx/grid"
	"phalanx/portal"
	"phalanx/route"
)

// picture is all that a graph tells of its nodes: what is no node, and a cluster without one, is no key.
type picture struct {
	nodes  []api.Cell
	edges  map[api.Cell][]api.Edge
	within map[api.Cell][]api.Cell
}

// field is where a shape stands in a map, row by row, by the words alone.
type field struct {
	w, h   int
	stands []bool
}

// fieldOf is a map's field.
func fieldOf(m api.Map, s api.Shape) field {
	f := field{w: m.W, h: m.H}
	free := make([]bool, m.W*m.H)
	on := [][]byte{{api.Plain, api.Wood}, {api.Plain}, {api.Water}, {api.Plain, api.Water}}[s.Class]
	for i, terrain := range m.Tiles {
		free[i] = slices.Contains(on, terrain)
	}
	for _, b := range m.Built {
		for y := range b.Foot.H {
			for x := range b.Foot.W {
				free[(b.Foot.At.Y+y)*m.W+b.Foot.At.X+x] = false
			}
		}
	}
	for y := range m.H {
		for x := range m.W {
			f.stands = append(f.stands, fits(free, m, s.Size, x, y))
		}
	}
	return f
}

func fits(free []bool, m api.Map, size, x, y int) bool {
	for down := range size {
		for right := range size {
			if x+right >= m.W || y+down >= m.H || !free[(y+down)*m.W+x+right] {
				return false
			}
		}
	}
	return true
}

func (f field) at(x, y int) bool {
	return 0 <= x && x < f.w && 0 <= y && y < f.h && f.stands[y*f.w+x]
}

// joins is the portal of the run that begins at a cell of a border, to the right or below; false: none does.
func (f field) joins(x, y int, isRight bool) (a, b api.Cell, ok bool) {
	open := func(i int) bool {
		if isRight {
			return f.at(x, y+i) && f.at(x+1, y+i)
		}
		return f.at(x+i, y) && f.at(x+i, y+1)
	}
	along := x
	if isRight {
		along = y
	}
	// A run begins where the pair ahead is closed, or another border's.
	if !open(0) || along%8 != 0 && open(-1) {
		return a, b, false
	}
	n := 1
	for (along+n)%8 != 0 && open(n) {
		n++
	}
	if isRight {
		return at(x, y+(n-1)/2), at(x+1, y+(n-1)/2), true
	}
	return at(x+(n-1)/2, y), at(x+(n-1)/2, y+1), true
}

// joined is all nodes, and the edges over a border.
func (f field) joined() map[api.Cell][]api.Edge {
	l := map[api.Cell][]api.Edge{}
	join := func(x, y int, isRight bool) {
		if a, b, ok := f.joins(x, y, isRight); ok {
			l[a] = append(l[a], api.Edge{To: b, Cost: 10})
			l[b] = append(l[b], api.Edge{To: a, Cost: 10})
		}
	}
	for y := range f.h {
		for x := range f.w {
			if x%8 == 7 {
				join(x, y, true)
			}
			if y%8 == 7 {
				join(x, y, false)
			}
		}
	}
	return l
}

// distances is how far cells of a cluster are from one, without leaving it: steps are taken till none is cheaper.
func (f field) distances(from api.Cell) map[api.Cell]int {
	l := map[api.Cell]int{from: 0}
	for todo := []api.Cell{from}; len(todo) > 0; todo = todo[1:] {
		c := todo[0]
		for y := -1; y <= 1; y++ {
			for x := -1; x <= 1; x++ {
				next := at(c.X+x, c.Y+y)
				cost := l[c] + []int{0, 10, 14}[x*x+y*y]
				if next == c || next.X < 0 || next.Y < 0 || next.X/8 != c.X/8 || next.Y/8 != c.Y/8 || !f.at(next.X, next.Y) || !f.at(next.X, c.Y) || !f.at(c.X, next.Y) {
					continue
				}
				if was, ok := l[next]; !ok || cost < was {
					l[next] = cost
					todo = append(todo, next)
				}
			}
		}
	}
	return l
}

// plain is what a map's graph tells, by the words alone.
func plain(m api.Map, s api.Shape) picture {
	f := fieldOf(m, s)
	p := picture{edges: map[api.Cell][]api.Edge{}, within: map[api.Cell][]api.Cell{}}
	over := f.joined()
	for y := range f.h {
		for x := range f.w {
			if over[at(x, y)] != nil {
				p.nodes = append(p.nodes, at(x, y))
				p.within[at(x/8, y/8)] = append(p.within[at(x/8, y/8)], at(x, y))
			}
		}
	}
	for _, from := range p.nodes {
		near := f.distances(from)
		for _, to := range p.nodes {
			if cost, ok := near[to]; ok && from != to {
				p.edges[from] = append(p.edges[from], api.Edge{To: to, Cost: cost})
			}
			if i := slices.IndexFunc(over[from], func(e api.Edge) bool { return e.To == to }); i >= 0 {
				p.edges[from] = append(p.edges[from], over[from][i])
			}
		}
	}
	return p
}

// told is what a graph tells, asked of all cells and clusters of the world, and about it.
func told(t *testing.T, g *abstract.Graph, all api.Rect) picture {
	t.Helper()
	p := picture{nodes: slices.Collect(g.Nodes()), edges: map[api.Cell][]api.Edge{}, within: map[api.Cell][]api.Cell{}}
	for y := -2; y <= all.H+8; y++ {
		for x := -2; x <= all.W+8; x++ {
			if l := g.Edges(at(x, y)); len(l) > 0 {
				p.edges[at(x, y)] = l
			}
		}
	}
	for y := -2; y <= all.H/8+2; y++ {
		for x := -2; x <= all.W/8+2; x++ {
			if l := g.Within(at(x, y)); len(l) > 0 {
				p.within[at(x, y)] = l
			}
		}
	}
	if g.Len() != len(p.nodes) {
		t.Fatalf("Len = %d, and there are %d nodes", g.Len(), len(p.nodes))
	}
	return p
}

// shows asks by every call whether a graph tells just this, as of an epoch.
func shows(t *testing.T, g *abstract.Graph, w *grid.World, s api.Shape, want picture, epoch int) {
	t.Helper()
	if got := told(t, g, w.All()); !reflect.DeepEqual(got, want) {
		t.Fatalf("of %v in %v it tells\n%v, want\n%v", s, w.Map(), got, want)
	}
	if g.Shape() != s || g.World() != w || g.Epoch() != epoch {
		t.Fatalf("it tells %v, %p and %d, want %v, %p and %d", g.Shape(), g.World(), g.Epoch(), s, w, epoch)
	}
}

// showsNow asks whether a graph is that of the world as it is, by the words, and by New.
func showsNow(t *testing.T, g *abstract.Graph, w *grid.World, s api.Shape) {
	t.Helper()
	shows(t, g, w, s, plain(w.Map(), s), w.Epoch())
	shows(t, g, w, s, told(t, graph(t, w, s), w.All()), w.Epoch())
}

// updates calls Update, and asks whether all is as of a New: how many clusters it tells.
func updates(t *testing.T, g *abstract.Graph, w *grid.World, s api.Shape) int {
	t.Helper()
	was := g.Epoch()
	n, code := g.Update()
	most := len(slices.Collect(cluster.All(w)))
	if code != api.OK || n < 0 || n > most || was == w.Epoch() && n != 0 {
		t.Fatalf("Update = %d, error %d, from epoch %d to %d, of %d clusters", n, code, was, w.Epoch(), most)
	}
	showsNow(t, g, w, s)
	return n
}

// dice are numbers of no pattern, the same each time.
type dice uint64

// to is a number of 0 to n - 1.
func (d *dice) to(n int) int {
	*d = *d*6364136223846793005 + 1442695040888963407
	return int(uint64(*d)>>33) % n
}

// side is one of those at which clusters begin, end, or are cut off, or any.
func (d *dice) side() int {
	some := []int{1, 2, 7, 8, 9, 10, 11, 12, 15, 16, 17, 19, 20, 23, 24, 25, 28}
	if i := d.to(len(some) + 5); i < len(some) {
		return some[i]
	}
	return 1 + d.to(34)
}

// mottled is a map of all terrains, one of which is usual.
func (d *dice) mottled(width, height int) api.Map {
	m := api.Map{W: width, H: height}
	usual := []byte{api.Plain, api.Plain, api.Water, api.Wood}[d.to(4)]
	m.Tiles = slices.Repeat([]byte{usual}, m.W*m.H)
	for range d.to(m.W*m.H/3 + 1) {
		m.Tiles[d.to(len(m.Tiles))] = byte(d.to(api.Terrains))
	}
	return m
}

// world is one with patches of terrain and a few buildings.
func (d *dice) world(t *testing.T) *grid.World {
	t.Helper()
	w := made(t, d.mottled(d.side(), d.side()))
	for range d.to(6) {
		d.edit(w)
	}
	return w
}

// edit places a building, razes one, or is refused.
func (d *dice) edit(w *grid.World) {
	if d.to(3) == 0 {
		w.Raze(1 + d.to(12))
		return
	}
	w.Place(api.Building{Id: 1 + d.to(12), Foot: rect(d.to(w.All().W), d.to(w.All().H), 1+d.to(4), 1+d.to(4))})
}

// shape is one that has nodes in a world, if one is soon found.
func (d *dice) shape(w *grid.World) api.Shape {
	s := shapes()[d.to(16)]
	for i := 0; i < 8 && len(plain(w.Map(), s).nodes) == 0; i++ {
		s = shapes()[d.to(16)]
	}
	return s
}

// TestNewByDefinition: worlds of all sides, of no pattern, with buildings of the map and of edits, for every shape.
func TestNewByDefinition(t *testing.T) {
	d, nodes := dice(1), map[api.Shape]int{}
	for range 60 {
		w := d.world(t)
		for _, s := range shapes() {
			g := graph(t, w, s)
			want := plain(w.Map(), s)
			shows(t, g, w, s, want, w.Epoch())
			twin := w.Copy()
			shows(t, graph(t, twin, s), twin, s, want, w.Epoch())
			young := made(t, w.Map())
			shows(t, graph(t, young, s), young, s, want, 0)
			nodes[s] += g.Len()
		}
	}
	for _, s := range shapes() {
		if nodes[s] < 20 {
			t.Errorf("there are %d nodes of %v", nodes[s], s)
		}
	}
}

// TestUpdateByDefinition: edits of no pattern, none, one or many ahead of each Update; till it comes all is as it was.
func TestUpdateByDefinition(t *testing.T) {
	d := dice(2)
	turned, stayed := 0, 0
	for range 40 {
		w := d.world(t)
		s := d.shape(w)
		g := graph(t, w, s)
		for range 12 {
			was, epoch := told(t, g, w.All()), w.Epoch()
			for range []int{0, 1, 1, 2, 7}[d.to(5)] {
				d.edit(w)
			}
			shows(t, g, w, s, was, epoch)
			updates(t, g, w, s)
			if reflect.DeepEqual(told(t, g, w.All()), was) {
				stayed++
			} else {
				turned++
			}
		}
	}
	if turned < 50 || stayed < 50 {
		t.Errorf("Update turned something %d times, and nothing %d times", turned, stayed)
	}
}

// TestEditsOfOneTile: each tile of a world of four clusters, and of one that is cut off, is built on and razed again, for each size.
func TestEditsOfOneTile(t *testing.T) {
	d := dice(3)
	for _, m := range []api.Map{plainTiles(16, 16), plainTiles(20, 11), d.mottled(17, 19)} {
		for size := 1; size <= 4; size++ {
			s := shape(api.Hover, size)
			w := made(t, m)
			g := graph(t, w, s)
			whole := plain(m, s)
			for c := range cell.Cells(w.All()) {
				place(t, w, 1, rect(c.X, c.Y, 1, 1))
				g.Update()
				shows(t, g, w, s, plain(w.Map(), s), w.Epoch())
				raze(t, w, 1)
				g.Update()
				shows(t, g, w, s, whole, w.Epoch())
			}
		}
	}
}

// TestGreatWorlds: those whose sides are the greatest.
func TestGreatWorlds(t *testing.T) {
	d := dice(4)
	for _, side := range [][2]int{{128, 1}, {1, 128}, {128, 2}, {3, 128}, {128, 128}, {128, 127}, {121, 128}} {
		w := made(t, d.mottled(side[0], side[1]))
		s := shape(api.Hover, 1+d.to(2))
		g := graph(t, w, s)
		showsNow(t, g, w, s)
		place(t, w, 1, rect(0, 0, 1, 1))
		place(t, w, 2, rect(side[0]-1, side[1]-1, 1, 1))
		place(t, w, 3, rect(side[0]/2, side[1]/2, 1, 1))
		updates(t, g, w, s)
	}
}

// TestWhatFollows: edges go both ways, at one cost, lead to nodes, and are what the lower layers tell.
func TestWhatFollows(t *testing.T) {
	d := dice(5)
	over, inside := 0, 0
	for range 80 {
		w := d.world(t)
		s := d.shape(w)
		g := graph(t, w, s)
		for range d.to(4) {
			d.edit(w)
		}
		updates(t, g, w, s)
		portals := portal.All(w, s)
		for from := range g.Nodes() {
			for _, e := range g.Edges(from) {
				if !slices.Contains(g.Edges(e.To), api.Edge{To: from, Cost: e.Cost}) || e.To == from || e.Cost < 10 {
					t.Fatalf("%v leads from %v, and not back, in %v", e, from, w.Map())
				}
				if cluster.Of(from) != cluster.Of(e.To) {
					over++
					isPortal(t, portals, from, e)
					continue
				}
				inside++
				in, _ := cluster.Rect(w, cluster.Of(from))
				if _, cost := route.Find(w, s, from, e.To, in, 64); cost != e.Cost {
					t.Fatalf("%v leads from %v, where a way costs %d, in %v", e, from, cost, w.Map())
				}
			}
			if !class.Stands(w, s, from) {
				t.Fatalf("%v does not stand at %v", s, from)
			}
		}
	}
	if over < 500 || inside < 500 {
		t.Errorf("%d edges over borders, %d others", over, inside)
	}
}

func isPortal(t *testing.T, portals []api.Portal, from api.Cell, e api.Edge) {
	t.Helper()
	there, back := api.Portal{A: from, B: e.To}, api.Portal{A: e.To, B: from}
	if e.Cost != api.Straight || !slices.Contains(portals, there) && !slices.Contains(portals, back) {
		t.Fatalf("%v leads from %v over a border, and there is no such portal", e, from)
	}
}

// TestSomethingForEachPair: where no edge leads from a node to another one of its cluster, there is no way in it.
func TestSomethingForEachPair(t *testing.T) {
	d := dice(6)
	missing := 0
	for range 80 {
		w := d.world(t)
		s := d.shape(w)
		g := graph(t, w, s)
		for k := range cluster.All(w) {
			in, _ := cluster.Rect(w, k)
			for _, from := range g.Within(k) {
				for _, to := range g.Within(k) {
					way, _ := route.Find(w, s, from, to, in, 64)
					isEdge := slices.ContainsFunc(g.Edges(from), func(e api.Edge) bool { return e.To == to })
					if from != to && isEdge != (way.Outcome == api.RouteFound) {
						t.Fatalf("from %v to %v: an edge: %v, a way: %d, in %v", from, to, isEdge, way.Outcome, w.Map())
					}
					if from != to && !isEdge {
						missing++
					}
				}
			}
		}
	}
	if missing < 50 {
		t.Errorf("just %d pairs without an edge", missing)
	}
}
