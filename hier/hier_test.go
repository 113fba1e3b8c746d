package hier_test

import (
	"math"
	"slices"
	"testing"

	"phalanx/abstract"
	"phalanx/api"
	"phalanx/grid"
	"phalanx/hier"
)

const far = api.Far

// ends are numbers about which sums, products and quotients wrap.
var ends = []int{math.MinInt, math.MinInt + 1, math.MinInt + 7, math.MinInt32 - 1, math.MinInt32, -1 << 29, -far - 1, -far, -256, -128, -9, -8, -7, -1,
	128, 136, 255, 256, far, far + 1, 1 << 29, math.MaxInt32, 1 << 32, 1<<32 + 1, 1 << 60, 1 << 61, math.MaxInt - 7, math.MaxInt - 1, math.MaxInt}

func at(x, y int) api.Cell { return api.Cell{X: x, Y: y} }

func rect(x, y, w, h int) api.Rect { return api.Rect{At: at(x, y), W: w, H: h} }

func shape(class, size int) api.Shape { return api.Shape{Class: class, Size: size} }

// foot is the least shape.
var foot = shape(api.Foot, 1)

// cells is a list of X and Y, one behind the other.
func cells(numbers ...int) []api.Cell {
	var l []api.Cell
	for i := 0; i < len(numbers); i += 2 {
		l = append(l, at(numbers[i], numbers[i+1]))
	}
	return l
}

// tiles is a map of rows: . Plain, w Wood, ~ Water, # Rock.
func tiles(rows ...string) api.Map {
	m := api.Map{W: len(rows[0]), H: len(rows)}
	terrains := map[rune]byte{'.': api.Plain, 'w': api.Wood, '~': api.Water, '#': api.Rock}
	for _, row := range rows {
		for _, r := range row {
			m.Tiles = append(m.Tiles, terrains[r])
		}
	}
	return m
}

// plainTiles is a map of Plain alone.
func plainTiles(width, height int) api.Map {
	return api.Map{W: width, H: height, Tiles: make([]byte, width*height)}
}

// rock puts Rock on rectangles of a map.
func rock(m api.Map, on ...api.Rect) api.Map {
	m.Tiles = slices.Clone(m.Tiles)
	for _, r := range on {
		for y := range r.H {
			for x := range r.W {
				m.Tiles[(r.At.Y+y)*m.W+r.At.X+x] = api.Rock
			}
		}
	}
	return m
}

func made(t *testing.T, m api.Map) *grid.World {
	t.Helper()
	w, code := grid.New(m)
	if code != api.OK {
		t.Fatalf("New: error %d", code)
	}
	return w
}

// open is a world of Plain.
func open(t *testing.T, width, height int) *grid.World {
	t.Helper()
	return made(t, plainTiles(width, height))
}

func place(t *testing.T, w *grid.World, id int, foot api.Rect) {
	t.Helper()
	if code := w.Place(api.Building{Id: id, Foot: foot}); code != api.OK {
		t.Fatalf("Place %d at %v: error %d", id, foot, code)
	}
}

func raze(t *testing.T, w *grid.World, id int) {
	t.Helper()
	if _, code := w.Raze(id); code != api.OK {
		t.Fatalf("Raze %d: error %d", id, code)
	}
}

func update(t *testing.T, g *abstract.Graph) {
	t.Helper()
	if _, code := g.Update(); code != api.OK {
		t.Fatalf("Update: error %d", code)
	}
}

// graph is that of a world and a shape, which must be no error.
func graph(t *testing.T, w *grid.World, s api.Shape) *abstract.Graph {
	t.Helper()
	g, code := abstract.New(w, s)
	if code != api.OK || g == nil {
		t.Fatalf("New of %v: error %d", s, code)
	}
	return g
}

// shapes are all that may be.
func shapes() []api.Shape {
	var l []api.Shape
	for class := range api.Classes {
		for size := 1; size <= 4; size++ {
			l = append(l, shape(class, size))
		}
	}
	return l
}

// leads asks for a course, and its Cost, and whether all else that is promised holds, too.
func leads(t *testing.T, g *abstract.Graph, from, to api.Cell, cost int, course ...int) {
	t.Helper()
	a := told(t, g, from, to)
	if !a.found || a.cost != cost || !slices.Equal(a.course, cells(course...)) {
		t.Fatalf("from %v to %v: %v, want %v at %d", from, to, a, cells(course...), cost)
	}
	sceneBy(t, g).asks(t, from, to)
}

// leadsNot asks whether there is no course.
func leadsNot(t *testing.T, g *abstract.Graph, from, to api.Cell) {
	t.Helper()
	if a := told(t, g, from, to); a.found {
		t.Fatalf("from %v to %v: %v, want none", from, to, a)
	}
}

// Example 1 of the chapter.

func TestExample(t *testing.T) {
	g := graph(t, open(t, 16, 8), foot)
	leads(t, g, at(0, 3), at(15, 3), 150, 7, 3, 8, 3, 15, 3)
	way, cost := hier.Find(g, at(0, 3), at(15, 3))
	var want []api.Cell
	for x := 1; x <= 15; x++ {
		want = append(want, at(x, 3))
	}
	if way.Outcome != api.RouteFound || cost != 150 || !slices.Equal(way.Cells, want) {
		t.Errorf("Find = %v, %d", way, cost)
	}
}

// Hi1: the same cell.

func TestTheSame(t *testing.T) {
	w := made(t, rock(plainTiles(16, 8), rect(2, 2, 1, 1)))
	place(t, w, 1, rect(12, 5, 2, 2))
	for _, s := range []api.Shape{foot, shape(api.Hover, 2), shape(api.Wheel, 4)} {
		x := sceneOf(t, w, s)
		for i := range 18 * 10 {
			c := at(i%18-1, i/18-1)
			if x.plain.at(c) {
				leads(t, x.graph, c, c, 0)
			} else {
				leadsNot(t, x.graph, c, c)
			}
		}
	}
	g := graph(t, w, foot)
	leads(t, g, at(7, 3), at(7, 3), 0)
	leads(t, g, at(0, 0), at(0, 0), 0)
	leadsNot(t, g, at(2, 2), at(2, 2))
	leadsNot(t, g, at(13, 6), at(13, 6))
	leadsNot(t, graph(t, w, shape(api.Boat, 1)), at(0, 0), at(0, 0))
	for _, x := range ends {
		for _, y := range append([]int{0, 3}, ends...) {
			leadsNot(t, g, at(x, y), at(x, y))
			leadsNot(t, g, at(y, x), at(y, x))
		}
	}
}

// Hi1: both in one cluster.

func TestOneCluster(t *testing.T) {
	g := graph(t, open(t, 16, 8), foot)
	leads(t, g, at(1, 1), at(2, 1), 10, 2, 1)
	leads(t, g, at(0, 0), at(5, 2), 58, 5, 2)
	leads(t, g, at(9, 7), at(8, 0), 74, 8, 0)
	way, cost := hier.Find(g, at(0, 0), at(5, 2))
	if cost != 58 || !slices.Equal(way.Cells, cells(1, 0, 2, 0, 3, 0, 4, 1, 5, 2)) {
		t.Errorf("Find = %v, %d", way, cost)
	}
}

// TestOnlyThroughAnother: within their cluster there is no way, or a dearer one.
func TestOnlyThroughAnother(t *testing.T) {
	g := graph(t, made(t, rock(plainTiles(16, 8), rect(0, 3, 8, 1))), foot)
	leads(t, g, at(6, 1), at(6, 5), 80, 7, 1, 8, 1, 8, 5, 7, 5, 6, 5)
	leads(t, g, at(0, 0), at(0, 7), 212, 7, 1, 8, 1, 8, 5, 7, 5, 0, 7)
	// From node to node.
	leads(t, g, at(7, 1), at(7, 5), 60, 8, 1, 8, 5, 7, 5)
	// Round the Rock within the cluster one comes, too, but not as cheaply.
	g = graph(t, made(t, rock(plainTiles(16, 8), rect(1, 3, 7, 1))), foot)
	leads(t, g, at(7, 1), at(7, 5), 60, 8, 1, 8, 5, 7, 5)
	leads(t, g, at(6, 1), at(6, 5), 80, 7, 1, 8, 1, 8, 5, 7, 5, 6, 5)
	leads(t, g, at(0, 1), at(0, 5), 40, 0, 5)
	leads(t, g, at(3, 1), at(3, 5), 88, 3, 5)
}

func TestNoWay(t *testing.T) {
	// Within one cluster, and from one to the next, though each of them has nodes.
	g := graph(t, made(t, rock(plainTiles(16, 8), rect(0, 3, 16, 1))), foot)
	leadsNot(t, g, at(6, 1), at(6, 5))
	leadsNot(t, g, at(7, 1), at(7, 5))
	leadsNot(t, g, at(0, 0), at(15, 7))
	leadsNot(t, g, at(15, 7), at(0, 0))
	leads(t, g, at(0, 0), at(15, 0), 158, 7, 1, 8, 1, 15, 0)
	// Where there is no node at all.
	g = graph(t, made(t, rock(plainTiles(16, 8), rect(7, 0, 1, 8))), foot)
	leadsNot(t, g, at(0, 0), at(8, 0))
	leads(t, g, at(0, 0), at(6, 0), 60, 6, 0)
	// A corner that is cut is no way, within a cluster and over a border.
	g = graph(t, made(t, tiles(".#..", "#...", "....")), foot)
	leadsNot(t, g, at(0, 0), at(1, 1))
	leadsNot(t, g, at(1, 1), at(0, 0))
	g = graph(t, made(t, tiles(".......#.", "........#", "........#")), foot)
	leadsNot(t, g, at(6, 0), at(8, 0))
	// A cell of which all neighbours are Rock.
	g = graph(t, made(t, rock(plainTiles(24, 24), rect(10, 10, 3, 1), rect(10, 12, 3, 1), rect(10, 11, 1, 1), rect(12, 11, 1, 1))), foot)
	leadsNot(t, g, at(11, 11), at(0, 0))
	leadsNot(t, g, at(0, 0), at(11, 11))
	leadsNot(t, g, at(11, 11), at(9, 11))
	leads(t, g, at(11, 11), at(11, 11), 0)
}

// Hi1: ends that are nodes.

func TestNodesAsEnds(t *testing.T) {
	g := graph(t, open(t, 24, 8), foot)
	// Both of one portal.
	leads(t, g, at(7, 3), at(8, 3), 10, 8, 3)
	leads(t, g, at(8, 3), at(7, 3), 10, 7, 3)
	// Both of one cluster.
	leads(t, g, at(8, 3), at(15, 3), 70, 15, 3)
	leads(t, g, at(15, 3), at(8, 3), 70, 8, 3)
	// One of them, in the other one's cluster, in the next one, and farther.
	leads(t, g, at(7, 3), at(0, 0), 82, 0, 0)
	leads(t, g, at(0, 0), at(7, 3), 82, 7, 3)
	leads(t, g, at(0, 0), at(8, 3), 92, 7, 3, 8, 3)
	leads(t, g, at(8, 3), at(0, 0), 92, 7, 3, 0, 0)
	leads(t, g, at(7, 3), at(23, 3), 160, 8, 3, 15, 3, 16, 3, 23, 3)
	leads(t, g, at(23, 3), at(7, 3), 160, 16, 3, 15, 3, 8, 3, 7, 3)
	leads(t, g, at(7, 3), at(16, 3), 90, 8, 3, 15, 3, 16, 3)
	// One that two portals share.
	g = graph(t, made(t, rock(plainTiles(16, 16), rect(8, 0, 1, 7), rect(0, 8, 7, 1))), foot)
	leads(t, g, at(7, 7), at(8, 7), 10, 8, 7)
	leads(t, g, at(7, 7), at(7, 8), 10, 7, 8)
	leads(t, g, at(8, 7), at(7, 8), 20, 7, 7, 7, 8)
	leads(t, g, at(0, 0), at(8, 7), 108, 7, 7, 8, 7)
}

// TestNeighboursOverABorder: the course goes by the portal, though one step would do.
func TestNeighboursOverABorder(t *testing.T) {
	g := graph(t, open(t, 16, 8), foot)
	leads(t, g, at(7, 0), at(8, 0), 70, 7, 3, 8, 3, 8, 0)
	leads(t, g, at(8, 7), at(7, 7), 90, 8, 3, 7, 3, 7, 7)
	leads(t, g, at(7, 2), at(8, 3), 20, 7, 3, 8, 3)
	leads(t, g, at(7, 3), at(8, 2), 20, 8, 3, 8, 2)
	// Over the corner of four clusters.
	g = graph(t, open(t, 16, 16), foot)
	leads(t, g, at(7, 7), at(8, 8), 142, 7, 3, 8, 3, 11, 7, 11, 8, 8, 8)
}

// Hi1: courses of the same Cost.

func TestLeastCourse(t *testing.T) {
	// The node lies on the straight line: it is told just if it comes ahead of the end, row by row.
	g := graph(t, open(t, 16, 8), foot)
	leads(t, g, at(7, 0), at(7, 7), 70, 7, 3, 7, 7)
	leads(t, g, at(7, 7), at(7, 0), 70, 7, 0)
	leads(t, g, at(8, 0), at(8, 4), 40, 8, 3, 8, 4)
	leads(t, g, at(8, 4), at(8, 0), 40, 8, 0)
	// To the right first, or down first; and likewise back.
	g = graph(t, open(t, 16, 16), foot)
	leads(t, g, at(0, 0), at(15, 15), 240, 7, 3, 8, 3, 11, 7, 11, 8, 15, 15)
	leads(t, g, at(15, 15), at(0, 0), 240, 11, 8, 11, 7, 8, 3, 7, 3, 0, 0)
	leads(t, g, at(3, 3), at(12, 12), 156, 7, 3, 8, 3, 11, 7, 11, 8, 12, 12)
	// By X, if Y is the same: a wall has two gates below.
	g = graph(t, made(t, tiles(
		".........",
		".........",
		".........",
		".........",
		".........",
		".........",
		".........",
		"##.###.##",
		".........",
		".........")), foot)
	leads(t, g, at(4, 4), at(4, 9), 72, 2, 7, 2, 8, 4, 9)
	leads(t, g, at(4, 9), at(4, 4), 72, 2, 8, 2, 7, 4, 4)
	// By a later node, behind others that are the same.
	g = graph(t, made(t, rock(plainTiles(16, 16), rect(0, 7, 10, 1), rect(11, 7, 3, 1), rect(15, 7, 1, 1))), foot)
	leads(t, g, at(0, 3), at(15, 10), 196, 7, 3, 8, 3, 10, 7, 10, 8, 15, 10)
	leads(t, g, at(15, 10), at(0, 3), 196, 10, 8, 10, 7, 8, 3, 7, 3, 0, 3)
	leads(t, g, at(0, 3), at(15, 9), 186, 7, 3, 8, 3, 14, 7, 14, 8, 15, 9)
	leads(t, g, at(0, 3), at(15, 11), 200, 7, 3, 8, 3, 10, 7, 10, 8, 15, 11)
}

// TestManyOfOneCost: the least of all is told, also where it goes by more nodes.
func TestManyOfOneCost(t *testing.T) {
	// All nodes of the middle cluster's borders lie in one row.
	g := graph(t, open(t, 32, 1), foot)
	leads(t, g, at(0, 0), at(31, 0), 310, 7, 0, 8, 0, 15, 0, 16, 0, 23, 0, 24, 0, 31, 0)
	leads(t, g, at(31, 0), at(0, 0), 310, 24, 0, 23, 0, 16, 0, 15, 0, 8, 0, 7, 0, 0, 0)
	leads(t, g, at(9, 0), at(14, 0), 50, 14, 0)
	// In a column all nodes between come ahead of the end.
	g = graph(t, open(t, 1, 32), foot)
	leads(t, g, at(0, 0), at(0, 31), 310, 0, 7, 0, 8, 0, 15, 0, 16, 0, 23, 0, 24, 0, 31)
	leads(t, g, at(0, 31), at(0, 0), 310, 0, 24, 0, 23, 0, 16, 0, 15, 0, 8, 0, 7, 0, 0)
}

// Hi1: ends at which the shape does not stand, and beyond the world.

func TestNoEnds(t *testing.T) {
	w := made(t, rock(plainTiles(20, 12), rect(4, 4, 1, 1)))
	place(t, w, 1, rect(10, 6, 2, 2))
	for _, s := range []api.Shape{foot, shape(api.Foot, 2), shape(api.Hover, 3), shape(api.Wheel, 4)} {
		x := sceneOf(t, w, s)
		for i := range 24 * 16 {
			c := at(i%24-2, i/24-2)
			if x.plain.at(c) {
				continue
			}
			for _, good := range cells(0, 0, 15, 1, 7, 0) {
				x.asks(t, c, good)
				x.asks(t, good, c)
				leadsNot(t, x.graph, c, good)
				leadsNot(t, x.graph, good, c)
			}
			leadsNot(t, x.graph, c, at(4, 4))
			leadsNot(t, x.graph, at(4, 4), c)
		}
	}
}

func TestEndsOfTheIntegers(t *testing.T) {
	g := graph(t, open(t, 128, 128), foot)
	for _, x := range ends {
		for _, y := range append([]int{0, 5, 127}, ends...) {
			for _, c := range []api.Cell{at(x, y), at(y, x)} {
				leadsNot(t, g, c, at(0, 0))
				leadsNot(t, g, at(0, 0), c)
				leadsNot(t, g, c, at(-c.X, -c.Y))
				leadsNot(t, g, at(127, 127), c)
			}
		}
	}
	for _, s := range shapes() {
		g := graph(t, open(t, 9, 9), s)
		for _, n := range ends {
			leadsNot(t, g, at(n, n), at(8, 8))
			leadsNot(t, g, at(0, 0), at(n, 0))
			leadsNot(t, g, at(0, 0), at(0, n))
		}
	}
}

// Hi1, Hi2: worlds of all kinds.

func TestSides(t *testing.T) {
	sides := []int{1, 2, 7, 8, 9, 15, 16, 17, 128}
	for _, width := range sides {
		for _, height := range sides {
			if width*height > 3000 {
				continue
			}
			x := sceneOf(t, open(t, width, height), foot)
			first, end := at(0, 0), at(width-1, height-1)
			corners := []api.Cell{first, end, at(width-1, 0), at(0, height-1), at(width/2, height/2)}
			for _, a := range corners {
				for _, b := range corners {
					if !x.asks(t, a, b).found {
						t.Fatalf("%d times %d: from %v to %v there is none", width, height, a, b)
					}
				}
			}
			leadsNot(t, x.graph, first, at(width, 0))
			leadsNot(t, x.graph, first, at(0, height))
			leadsNot(t, x.graph, at(-1, 0), end)
			leadsNot(t, x.graph, at(0, -1), end)
		}
	}
}

func TestWorldsOfOneCluster(t *testing.T) {
	g := graph(t, open(t, 1, 1), foot)
	leads(t, g, at(0, 0), at(0, 0), 0)
	leadsNot(t, g, at(0, 0), at(1, 0))
	g = graph(t, open(t, 8, 8), foot)
	leads(t, g, at(0, 0), at(7, 7), 98, 7, 7)
	leads(t, g, at(0, 7), at(7, 0), 98, 7, 0)
	g = graph(t, open(t, 8, 8), shape(api.Foot, 4))
	leads(t, g, at(0, 0), at(4, 4), 56, 4, 4)
	leadsNot(t, g, at(0, 0), at(5, 4))
	// A Size of which a footprint fits, and no second one.
	g = graph(t, open(t, 4, 4), shape(api.Foot, 4))
	leads(t, g, at(0, 0), at(0, 0), 0)
	leadsNot(t, g, at(0, 0), at(0, 1))
}

// TestCutOff: the last cluster is one tile wide, or high.
func TestCutOff(t *testing.T) {
	g := graph(t, open(t, 9, 8), foot)
	leads(t, g, at(0, 3), at(8, 3), 80, 7, 3, 8, 3)
	leads(t, g, at(0, 0), at(8, 0), 122, 7, 3, 8, 3, 8, 0)
	g = graph(t, open(t, 8, 9), foot)
	leads(t, g, at(3, 0), at(3, 8), 80, 3, 7, 3, 8)
	// A great shape stands in no cell of the last cluster.
	g = graph(t, open(t, 9, 8), shape(api.Foot, 2))
	leads(t, g, at(0, 0), at(7, 0), 70, 7, 0)
	leadsNot(t, g, at(0, 0), at(8, 0))
}

func TestGreatestWorld(t *testing.T) {
	g := graph(t, open(t, 128, 1), foot)
	a := told(t, g, at(0, 0), at(127, 0))
	if !a.found || a.cost != 1270 || len(a.course) != 31 || len(a.way) != 127 {
		t.Errorf("along a row: %v", a)
	}
	g = graph(t, open(t, 1, 128), foot)
	a = told(t, g, at(0, 127), at(0, 0))
	if !a.found || a.cost != 1270 || len(a.course) != 31 || len(a.way) != 127 {
		t.Errorf("along a column: %v", a)
	}
	g = graph(t, open(t, 128, 128), foot)
	a = told(t, g, at(0, 3), at(127, 3))
	if !a.found || a.cost != 1270 || len(a.course) != 31 || len(a.way) != 127 {
		t.Errorf("along the portals: %v", a)
	}
	leadsNot(t, g, at(0, 0), at(128, 127))
}

// TestShapes: each goes its own way.
func TestShapes(t *testing.T) {
	w := made(t, tiles(
		"......w..w......",
		"......~..~......",
		"......~~~~......",
		"................",
		"................",
		"................"))
	leads(t, graph(t, w, shape(api.Foot, 1)), at(0, 0), at(15, 0), 150, 7, 0, 8, 0, 15, 0)
	leads(t, graph(t, w, shape(api.Wheel, 1)), at(0, 0), at(15, 0), 182, 7, 4, 8, 4, 15, 0)
	leads(t, graph(t, w, shape(api.Boat, 1)), at(6, 1), at(9, 1), 50, 7, 2, 8, 2, 9, 1)
	leads(t, graph(t, w, shape(api.Hover, 1)), at(0, 2), at(15, 2), 150, 7, 2, 8, 2, 15, 2)
	leads(t, graph(t, w, shape(api.Foot, 2)), at(0, 0), at(14, 0), 164, 7, 3, 8, 3, 14, 0)
	leads(t, graph(t, w, shape(api.Foot, 3)), at(0, 0), at(13, 0), 154, 7, 3, 8, 3, 13, 0)
	leadsNot(t, graph(t, w, shape(api.Foot, 4)), at(0, 0), at(12, 0))
	leadsNot(t, graph(t, w, shape(api.Boat, 1)), at(0, 0), at(6, 1))
	leadsNot(t, graph(t, w, shape(api.Boat, 2)), at(6, 1), at(8, 1))
	for _, s := range shapes() {
		x := sceneOf(t, w, s)
		for i := range 16 * 6 {
			x.asks(t, at(0, 0), at(i%16, i/16))
			x.asks(t, at(i%16, i/16), at(9, 1))
		}
	}
}

// Hi1: behind edits.

func TestBehindEdits(t *testing.T) {
	w := open(t, 24, 8)
	g := graph(t, w, foot)
	leads(t, g, at(0, 3), at(23, 3), 230, 7, 3, 8, 3, 15, 3, 16, 3, 23, 3)
	place(t, w, 1, rect(7, 3, 1, 1))
	update(t, g)
	leads(t, g, at(0, 3), at(23, 3), 246, 7, 1, 8, 1, 15, 3, 16, 3, 23, 3)
	place(t, w, 2, rect(16, 0, 1, 8))
	update(t, g)
	leadsNot(t, g, at(0, 3), at(23, 3))
	leadsNot(t, g, at(16, 3), at(15, 3))
	leads(t, g, at(0, 1), at(15, 1), 150, 7, 1, 8, 1, 15, 1)
	raze(t, w, 2)
	raze(t, w, 1)
	update(t, g)
	leads(t, g, at(0, 3), at(23, 3), 230, 7, 3, 8, 3, 15, 3, 16, 3, 23, 3)
	// An end's own cluster, where no node is near.
	place(t, w, 3, rect(1, 0, 1, 8))
	update(t, g)
	leadsNot(t, g, at(0, 3), at(23, 3))
	leads(t, g, at(0, 3), at(0, 4), 10, 0, 4)
	// A building on an end.
	place(t, w, 4, rect(20, 3, 1, 1))
	update(t, g)
	leadsNot(t, g, at(23, 3), at(20, 3))
	leadsNot(t, g, at(20, 3), at(20, 3))
}

// TestTurnsNothing: calls leave the graph and the world as they are, and tell the same again.
func TestTurnsNothing(t *testing.T) {
	w := made(t, rock(plainTiles(20, 20), rect(3, 3, 9, 2)))
	g, young := graph(t, w, foot), graph(t, w, foot)
	for range 2 {
		for i := range 20 * 20 {
			a, b := told(t, g, at(i%20, i/20), at(i*7%20, i*3%20)), told(t, young, at(i%20, i/20), at(i*7%20, i*3%20))
			if !a.same(b) {
				t.Fatalf("%v, and %v", a, b)
			}
		}
		young = graph(t, w, foot)
		if w.Epoch() != 0 || g.Epoch() != 0 || g.Len() != young.Len() || !slices.Equal(slices.Collect(g.Nodes()), slices.Collect(young.Nodes())) {
			t.Fatal("the graph turned")
		}
		for c := range young.Nodes() {
			if !slices.Equal(g.Edges(c), young.Edges(c)) {
				t.Fatalf("the edges of %v turned", c)
			}
		}
	}
}

// R3: memory.

// ownMemory overwrites an answer, with its spare room: another one stays, and a later one is the same.
func ownMemory(t *testing.T, what string, ask func() []api.Cell) {
	t.Helper()
	first, second := ask(), ask()
	want := slices.Clone(first)
	room := first[:cap(first)]
	for i := range room {
		room[i] = at(-5, -5)
	}
	if len(want) == 0 || !slices.Equal(second, want) || !slices.Equal(ask(), want) {
		t.Errorf("%s's answers share memory", what)
	}
}

func TestMemory(t *testing.T) {
	w := open(t, 24, 24)
	g := graph(t, w, foot)
	for _, ends := range [][]api.Cell{cells(0, 0, 23, 23), cells(1, 1, 2, 2), cells(7, 3, 8, 3), cells(7, 3, 7, 4), cells(8, 11, 23, 0), cells(23, 0, 11, 8)} {
		ownMemory(t, "Course", func() []api.Cell { l, _, _ := hier.Course(g, ends[0], ends[1]); return l })
		ownMemory(t, "Find", func() []api.Cell { way, _ := hier.Find(g, ends[0], ends[1]); return way.Cells })
		sceneBy(t, g).asks(t, ends[0], ends[1])
	}
	// An edit and Update leave what was told as it was.
	was := told(t, g, at(0, 0), at(23, 23))
	kept := answer{was.found, slices.Clone(was.course), slices.Clone(was.way), was.cost}
	place(t, w, 1, rect(7, 2, 2, 4))
	update(t, g)
	if told(t, g, at(0, 0), at(23, 23)).same(was) || !was.same(kept) {
		t.Error("Update turned what was told, or not what is")
	}
}

// Graphs that New did not give.

func TestNoGraph(t *testing.T) {
	for _, g := range []*abstract.Graph{nil, {}, new(abstract.Graph)} {
		for _, x := range append([]int{0, 1, 7, 8}, ends...) {
			for _, y := range append([]int{0, 1, 7, 8}, ends...) {
				leadsNot(t, g, at(x, y), at(x, y))
				leadsNot(t, g, at(0, 0), at(x, y))
				leadsNot(t, g, at(x, y), at(0, 0))
			}
		}
		g.Update()
		leadsNot(t, g, at(0, 0), at(0, 0))
	}
	refused, _ := abstract.New(nil, foot)
	leadsNot(t, refused, at(0, 0), at(0, 0))
	refused, _ = abstract.New(open(t, 8, 8), shape(api.Foot, 5))
	leadsNot(t, refused, at(0, 0), at(0, 0))
}
