package hier_test

import (
	"maps"
	"slices"
	"testing"

	"phalanx/abstract"
	"phalanx/api"
	"phalanx/class"
	"phalanx/cluster"
	"phalanx/grid"
	"phalanx/hier"
	"phalanx/parts"
	"phalanx/route"
)

// answer is what Course and Find tell.
type answer struct {
	found  bool
	course []api.Cell
	way    []api.Cell
	cost   int
}

func (a answer) same(b answer) bool {
	return a.found == b.found && a.cost == b.cost && slices.Equal(a.course, b.course) && slices.Equal(a.way, b.way)
}

// told asks both calls, whose Outcomes and Costs must fit each other.
func told(t *testing.T, g *abstract.Graph, from, to api.Cell) answer {
	t.Helper()
	course, cost, ok := hier.Course(g, from, to)
	way, wayCost := hier.Find(g, from, to)
	outcome := api.RouteNone
	if ok {
		outcome = api.RouteFound
	}
	if way.Outcome != outcome || wayCost != cost || !ok && (cost != 0 || len(course) > 0 || len(way.Cells) > 0) {
		t.Fatalf("from %v to %v: Course = %v, %d, %v, and Find = %v, %d", from, to, course, cost, ok, way, wayCost)
	}
	return answer{ok, course, way.Cells, cost}
}

// steps are X and Y of all directions, in their order, and what each costs.
var steps = [8][3]int{{1, 0, 10}, {0, 1, 10}, {-1, 0, 10}, {0, -1, 10}, {1, 1, 14}, {-1, 1, 14}, {-1, -1, 14}, {1, -1, 14}}

// plain is what a map tells of a shape, by the words alone: where it stands, and the graph of portals.
type plain struct {
	w, h   int
	stands []bool // row by row
	nodes  []api.Cell
	edges  map[api.Cell][]api.Edge
	kept   map[api.Cell]map[api.Cell]int // distances that were asked for ahead
}

func plainOf(m api.Map, s api.Shape) *plain {
	p := &plain{w: m.W, h: m.H, edges: map[api.Cell][]api.Edge{}, kept: map[api.Cell]map[api.Cell]int{}}
	free := make([]bool, m.W*m.H)
	on := [][]byte{{api.Plain, api.Wood}, {api.Plain}, {api.Water}, {api.Plain, api.Water}}[s.Class]
	for i, terrain := range m.Tiles {
		free[i] = slices.Contains(on, terrain)
	}
	for _, b := range m.Built {
		for y := range b.Foot.H {
			for x := range b.Foot.W {
				free[(b.Foot.At.Y+y)*m.W+b.Foot.At.X+x] = false
			}
		}
	}
	for y := range m.H {
		for x := range m.W {
			p.stands = append(p.stands, fits(free, m, s.Size, x, y))
		}
	}
	p.joinAll()
	for _, from := range p.nodes {
		for _, to := range p.nodes {
			if cost, ok := p.near(from)[to]; ok && from != to {
				p.edges[from] = append(p.edges[from], api.Edge{To: to, Cost: cost})
			}
		}
	}
	return p
}

func fits(free []bool, m api.Map, size, x, y int) bool {
	for down := range size {
		for right := range size {
			if x+right >= m.W || y+down >= m.H || !free[(y+down)*m.W+x+right] {
				return false
			}
		}
	}
	return true
}

func (p *plain) at(c api.Cell) bool {
	return 0 <= c.X && c.X < p.w && 0 <= c.Y && c.Y < p.h && p.stands[c.Y*p.w+c.X]
}

// isNode tells whether a cell is one of a portal.
func (p *plain) isNode(c api.Cell) bool { return slices.Contains(p.nodes, c) }

// joinAll finds all portals: the nodes, and the edges between a portal's cells.
func (p *plain) joinAll() {
	for y := range p.h {
		for x := range p.w {
			if x%8 == 7 {
				p.join(x, y, true)
			}
			if y%8 == 7 {
				p.join(x, y, false)
			}
		}
	}
	slices.SortFunc(p.nodes, rowByRow)
}

// join keeps the portal of the run that begins at a cell of a border, to the right or below, if one does.
func (p *plain) join(x, y int, isRight bool) {
	open := func(i int) bool {
		if isRight {
			return p.at(at(x, y+i)) && p.at(at(x+1, y+i))
		}
		return p.at(at(x+i, y)) && p.at(at(x+i, y+1))
	}
	along := x
	if isRight {
		along = y
	}
	// A run begins where the pair ahead is closed, or another border's.
	if !open(0) || along%8 != 0 && open(-1) {
		return
	}
	n := 1
	for (along+n)%8 != 0 && open(n) {
		n++
	}
	a, b := at(x+(n-1)/2, y), at(x+(n-1)/2, y+1)
	if isRight {
		a, b = at(x, y+(n-1)/2), at(x+1, y+(n-1)/2)
	}
	for _, e := range [][2]api.Cell{{a, b}, {b, a}} {
		if !p.isNode(e[0]) {
			p.nodes = append(p.nodes, e[0])
		}
		p.edges[e[0]] = append(p.edges[e[0]], api.Edge{To: e[1], Cost: 10})
	}
}

// stepsTo tells whether a step is legal, and does not leave the cluster.
func (p *plain) stepsTo(c, next api.Cell) bool {
	return p.at(c) && p.at(next) && p.at(at(next.X, c.Y)) && p.at(at(c.X, next.Y)) && sameCluster(c, next)
}

// near is how far cells of a cluster are from one, without leaving it: steps are taken till none is cheaper.
func (p *plain) near(from api.Cell) map[api.Cell]int {
	if l, ok := p.kept[from]; ok {
		return l
	}
	l := map[api.Cell]int{}
	if p.at(from) {
		l[from] = 0
	}
	for todo := []api.Cell{from}; len(todo) > 0; todo = todo[1:] {
		c := todo[0]
		for _, step := range steps {
			next, cost := at(c.X+step[0], c.Y+step[1]), l[c]+step[2]
			if !p.stepsTo(c, next) {
				continue
			}
			if was, ok := l[next]; !ok || cost < was {
				l[next] = cost
				todo = append(todo, next)
			}
		}
	}
	p.kept[from] = l
	return l
}

// withEnds is the edges of the graph with both ends.
func (p *plain) withEnds(from, to api.Cell) map[api.Cell][]api.Edge {
	l := map[api.Cell][]api.Edge{}
	for _, c := range p.nodes {
		l[c] = slices.Clone(p.edges[c])
	}
	add := func(a, b api.Cell) {
		if cost, ok := p.near(a)[b]; ok {
			l[a] = append(l[a], api.Edge{To: b, Cost: cost})
		}
	}
	fromIsNode, toIsNode := p.isNode(from), p.isNode(to)
	for _, c := range p.nodes {
		if !fromIsNode {
			add(from, c)
		}
		if !toIsNode {
			add(c, to)
		}
	}
	if !fromIsNode && !toIsNode {
		add(from, to)
	}
	return l
}

// answers is the answer by the words.
func (p *plain) answers(from, to api.Cell) answer {
	if !p.at(from) || !p.at(to) {
		return answer{}
	}
	edges := p.withEnds(from, to)
	cost, ok := costs(edges, from, to)
	if !ok {
		return answer{}
	}
	a := answer{found: true, course: least(edges, cost, to)[from], cost: cost[from]}
	for _, next := range a.course {
		a.way = append(a.way, p.leg(from, next)...)
		from = next
	}
	return a
}

// costs is what the cheapest course to the end costs from each node on, from which one leads there; whether one does from the beginning on.
func costs(edges map[api.Cell][]api.Edge, from, to api.Cell) (map[api.Cell]int, bool) {
	back := map[api.Cell][]api.Edge{}
	for c, l := range edges {
		for _, e := range l {
			back[e.To] = append(back[e.To], api.Edge{To: c, Cost: e.Cost})
		}
	}
	cost := map[api.Cell]int{to: 0}
	for todo := []api.Cell{to}; len(todo) > 0; todo = todo[1:] {
		for _, e := range back[todo[0]] {
			sum := cost[todo[0]] + e.Cost
			if was, ok := cost[e.To]; !ok || sum < was {
				cost[e.To] = sum
				todo = append(todo, e.To)
			}
		}
	}
	_, ok := cost[from]
	return cost, ok
}

// least is, of the cheapest courses from each node on, told whole, the least one.
func least(edges map[api.Cell][]api.Edge, cost map[api.Cell]int, to api.Cell) map[api.Cell][]api.Cell {
	l := map[api.Cell][]api.Cell{to: {}}
	// What a course goes on by is cheaper, so it comes ahead.
	nodes := slices.SortedFunc(maps.Keys(cost), func(a, b api.Cell) int { return cost[a] - cost[b] })
	for _, c := range nodes {
		for _, e := range edges[c] {
			if rest, ok := cost[e.To]; !ok || rest+e.Cost != cost[c] {
				continue
			}
			course := append([]api.Cell{e.To}, l[e.To]...)
			if l[c] == nil || slices.CompareFunc(course, l[c], rowByRow) < 0 {
				l[c] = course
			}
		}
	}
	return l
}

// leg is the way from a node to the next one.
func (p *plain) leg(c, to api.Cell) []api.Cell {
	if !sameCluster(c, to) {
		return []api.Cell{to}
	}
	var l []api.Cell
	left := p.near(to)
	for c != to {
		i := slices.IndexFunc(steps[:], func(step [3]int) bool {
			next := at(c.X+step[0], c.Y+step[1])
			return p.stepsTo(c, next) && left[next]+step[2] == left[c]
		})
		c = at(c.X+steps[i][0], c.Y+steps[i][1])
		l = append(l, c)
	}
	return l
}

func sameCluster(a, b api.Cell) bool { return a.X/8 == b.X/8 && a.Y/8 == b.Y/8 }

func rowByRow(a, b api.Cell) int {
	if a.Y != b.Y {
		return a.Y - b.Y
	}
	return a.X - b.X
}

// scene is a world and a shape, and what the calls are held against.
type scene struct {
	world *grid.World
	shape api.Shape
	graph *abstract.Graph
	plain *plain
	parts *parts.Parts
}

// sceneOf is that of a world as it is.
func sceneOf(t *testing.T, w *grid.World, s api.Shape) scene {
	t.Helper()
	return sceneBy(t, graph(t, w, s))
}

// sceneBy is that of a graph that is as of its world.
func sceneBy(t *testing.T, g *abstract.Graph) scene {
	t.Helper()
	p, code := parts.New(g.World(), g.Shape())
	if code != api.OK {
		t.Fatalf("parts: error %d", code)
	}
	return scene{g.World(), g.Shape(), g, plainOf(g.World().Map(), g.Shape()), p}
}

// asks holds the answer against the words, and against what follows.
func (x scene) asks(t *testing.T, from, to api.Cell) answer {
	t.Helper()
	a := told(t, x.graph, from, to)
	if want := x.plain.answers(from, to); !a.same(want) {
		t.Fatalf("%v from %v to %v in %v: %v, want %v", x.shape, from, to, x.world.Map(), a, want)
	}
	x.follows(t, from, to, a)
	return a
}

// follows asks what Hi2 tells, and whether each step of the course is an edge, of other layers.
func (x scene) follows(t *testing.T, from, to api.Cell, a answer) {
	t.Helper()
	if a.found != x.parts.Joined(from, to) {
		t.Fatalf("%v from %v to %v in %v: %v, and Joined is not", x.shape, from, to, x.world.Map(), a)
	}
	if !a.found {
		return
	}
	if !class.Legal(x.world, x.shape, from, a.way) || class.Cost(from, a.way) != a.cost || last(from, a.way) != to || last(from, a.course) != to {
		t.Fatalf("%v from %v to %v in %v: %v is not legal, or leads elsewhere, or costs %d", x.shape, from, to, x.world.Map(), a, class.Cost(from, a.way))
	}
	shortest, least := route.Find(x.world, x.shape, from, to, x.world.All(), 128*128)
	most := least + 2*8*14*(1+cluster.Crossed(from, shortest.Cells))
	if a.cost < least || a.cost > most {
		t.Fatalf("%v from %v to %v in %v: the cost %d is not %d to %d", x.shape, from, to, x.world.Map(), a.cost, least, most)
	}
	sum := 0
	for _, next := range a.course {
		sum += x.edge(t, from, next, to)
		from = next
	}
	if sum != a.cost {
		t.Fatalf("the edges of %v cost %d", a, sum)
	}
}

// edge is the cost of the edge by which a course goes on, of the graph or of layer 10's distances.
func (x scene) edge(t *testing.T, from, next, end api.Cell) int {
	t.Helper()
	for _, e := range x.graph.Edges(from) {
		if e.To == next {
			return e.Cost
		}
	}
	k := cluster.Of(from)
	in, _ := cluster.Rect(x.world, k)
	way, cost := route.Find(x.world, x.shape, from, next, in, 64)
	if way.Outcome != api.RouteFound || next != end && !slices.Contains(x.graph.Within(k), next) {
		t.Fatalf("there is no edge from %v to %v", from, next)
	}
	return cost
}

func last(from api.Cell, l []api.Cell) api.Cell {
	if len(l) == 0 {
		return from
	}
	return l[len(l)-1]
}

// dice are numbers of no pattern, the same each time.
type dice uint64

// to is a number of 0 to n - 1.
func (d *dice) to(n int) int {
	*d = *d*6364136223846793005 + 1442695040888963407
	return int(uint64(*d)>>33) % n
}

// side is one of those at which clusters begin, end, or are cut off, or any.
func (d *dice) side() int {
	some := []int{1, 2, 7, 8, 9, 10, 11, 12, 15, 16, 17, 19, 20, 23, 24, 25, 28}
	if i := d.to(len(some) + 5); i < len(some) {
		return some[i]
	}
	return 1 + d.to(34)
}

// mottled is a map of all terrains, one of which is usual.
func (d *dice) mottled(width, height int) api.Map {
	m := api.Map{W: width, H: height}
	usual := []byte{api.Plain, api.Plain, api.Water, api.Water, api.Wood}[d.to(5)]
	m.Tiles = slices.Repeat([]byte{usual}, m.W*m.H)
	for range d.to(m.W*m.H/3 + 1) {
		m.Tiles[d.to(len(m.Tiles))] = byte(d.to(api.Terrains))
	}
	return m
}

// world is one with patches of terrain and a few buildings.
func (d *dice) world(t *testing.T) *grid.World {
	t.Helper()
	w := made(t, d.mottled(d.side(), d.side()))
	for range d.to(6) {
		d.edit(w)
	}
	return w
}

// edit places a building, razes one, or is refused.
func (d *dice) edit(w *grid.World) {
	if d.to(3) == 0 {
		w.Raze(1 + d.to(12))
		return
	}
	w.Place(api.Building{Id: 1 + d.to(12), Foot: rect(d.to(w.All().W), d.to(w.All().H), 1+d.to(4), 1+d.to(4))})
}

// end is a cell of a world, often a node, now and then one beyond it.
func (d *dice) end(x scene) api.Cell {
	all := x.world.All()
	switch i := d.to(10); {
	case i < 3 && len(x.plain.nodes) > 0:
		return x.plain.nodes[d.to(len(x.plain.nodes))]
	case i == 9:
		return at(d.to(all.W+4)-2, d.to(all.H+4)-2)
	}
	c := at(d.to(all.W), d.to(all.H))
	for i := 0; i < 20 && !x.plain.at(c); i++ {
		c = at(d.to(all.W), d.to(all.H))
	}
	return c
}

// TestByDefinition: worlds of all sides, of no pattern, for every shape.
func TestByDefinition(t *testing.T) {
	d, found, none := dice(1), map[api.Shape]int{}, map[api.Shape]int{}
	for range 100 {
		w := d.world(t)
		for _, s := range shapes() {
			x := sceneOf(t, w, s)
			for range 12 {
				a := x.asks(t, d.end(x), d.end(x))
				if a.found && len(a.course) > 1 {
					found[s]++
				}
				if !a.found {
					none[s]++
				}
			}
		}
	}
	for _, s := range shapes() {
		if found[s] < 20 || none[s] < 20 {
			t.Errorf("of %v there are %d courses, and none %d times", s, found[s], none[s])
		}
	}
}

// TestAllPairs: from every cell of a world, and those about it, to every one.
func TestAllPairs(t *testing.T) {
	d := dice(2)
	for _, size := range [][2]int{{9, 9}, {8, 8}, {17, 5}, {7, 9}, {1, 17}, {16, 1}} {
		w := made(t, d.mottled(size[0], size[1]))
		x := sceneOf(t, w, shape(d.to(4), 1+d.to(2)))
		for _, x := range []scene{x, sceneOf(t, open(t, size[0], size[1]), foot)} {
			for i := range (size[0] + 2) * (size[1] + 2) {
				from := at(i%(size[0]+2)-1, i/(size[0]+2)-1)
				for j := range (size[0] + 2) * (size[1] + 2) {
					x.asks(t, from, at(j%(size[0]+2)-1, j/(size[0]+2)-1))
				}
			}
		}
	}
}

// TestBothWays: a course and the one back cost the same, though they may go by other nodes.
func TestBothWays(t *testing.T) {
	d, unlike := dice(3), 0
	for range 60 {
		x := sceneOf(t, d.world(t), shapes()[d.to(16)])
		for range 20 {
			from, to := d.end(x), d.end(x)
			there, back := x.asks(t, from, to), x.asks(t, to, from)
			if there.found != back.found || there.cost != back.cost {
				t.Fatalf("from %v to %v: %v, and back %v", from, to, there, back)
			}
			mirror := slices.Clone(there.course)
			slices.Reverse(mirror)
			if there.found && from != to && !slices.Equal(append(mirror[1:], from), back.course) {
				unlike++
			}
		}
	}
	if unlike == 0 {
		t.Error("no two courses cost the same")
	}
}

// TestUpdateByDefinition: behind edits and Update all is as by the words, and as of a New.
func TestUpdateByDefinition(t *testing.T) {
	d, turned := dice(4), 0
	for range 40 {
		w := d.world(t)
		s := shapes()[d.to(16)]
		g := graph(t, w, s)
		was := sceneBy(t, g)
		for range 8 {
			for range []int{0, 1, 1, 2, 7}[d.to(5)] {
				d.edit(w)
			}
			if _, code := g.Update(); code != api.OK {
				t.Fatalf("Update: error %d", code)
			}
			x := sceneBy(t, g)
			young := graph(t, w, s)
			for range 12 {
				from, to := d.end(x), d.end(x)
				a := x.asks(t, from, to)
				if b := told(t, young, from, to); !a.same(b) {
					t.Fatalf("from %v to %v behind Update: %v, of a New: %v", from, to, a, b)
				}
				if !a.same(was.plain.answers(from, to)) {
					turned++
				}
			}
		}
	}
	if turned < 100 {
		t.Errorf("%d answers turned", turned)
	}
}

// TestBehindEditsWithoutUpdate: calls end, and Update mends what they tell.
func TestBehindEditsWithoutUpdate(t *testing.T) {
	d := dice(5)
	for range 60 {
		w := d.world(t)
		g := graph(t, w, shapes()[d.to(16)])
		x := sceneBy(t, g)
		for range 20 {
			d.edit(w)
			from, to := d.end(x), d.end(x)
			hier.Course(g, from, to)
			hier.Find(g, from, to)
		}
		g.Update()
		x = sceneBy(t, g)
		for range 10 {
			x.asks(t, d.end(x), d.end(x))
		}
	}
}

// TestGreatest: worlds of MaxSide, open, mottled, and of alleys to and fro.
func TestGreatest(t *testing.T) {
	d := dice(6)
	alleys := plainTiles(128, 128)
	for y := 1; y < 128; y += 2 {
		alleys = rock(alleys, rect(y/2%2, y, 127, 1))
	}
	mottled := plainTiles(128, 128)
	for range 3000 {
		mottled.Tiles[d.to(128*128)] = api.Rock
	}
	for _, m := range []api.Map{plainTiles(128, 128), mottled, alleys} {
		x := sceneOf(t, made(t, m), foot)
		x.follows(t, at(0, 0), at(127, 126), told(t, x.graph, at(0, 0), at(127, 126)))
		x.follows(t, at(127, 127), at(0, 0), told(t, x.graph, at(127, 127), at(0, 0)))
		for range 60 {
			from, to := d.end(x), d.end(x)
			x.follows(t, from, to, told(t, x.graph, from, to))
		}
		for range 5 {
			x.asks(t, d.end(x), d.end(x))
		}
	}
}
