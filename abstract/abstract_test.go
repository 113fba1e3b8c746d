package abstract_test

import (
	"math"
	"slices"
	"testing"

	"phalanx/abstract"
	"phalanx/api"
	"phalanx/grid"
)

const far = api.Far

// ends are numbers about which sums, products and quotients wrap.
var ends = []int{math.MinInt, math.MinInt + 1, math.MinInt + 7, math.MinInt32 - 1, math.MinInt32, -1 << 29, -far - 1, -far, -256, -128, -9, -8, -7, -1,
	128, 136, 255, 256, far, far + 1, 1 << 29, math.MaxInt32, 1 << 32, 1<<32 + 1, 1 << 60, 1 << 61, math.MaxInt - 7, math.MaxInt - 1, math.MaxInt}

func at(x, y int) api.Cell { return api.Cell{X: x, Y: y} }

func rect(x, y, w, h int) api.Rect { return api.Rect{At: at(x, y), W: w, H: h} }

func shape(class, size int) api.Shape { return api.Shape{Class: class, Size: size} }

// foot is the least shape.
var foot = shape(api.Foot, 1)

// cells is a list of X and Y, one behind the other.
func cells(numbers ...int) []api.Cell {
	var l []api.Cell
	for i := 0; i < len(numbers); i += 2 {
		l = append(l, at(numbers[i], numbers[i+1]))
	}
	return l
}

// edges is a list of X, Y and Cost, one behind the other.
func edges(numbers ...int) []api.Edge {
	var l []api.Edge
	for i := 0; i < len(numbers); i += 3 {
		l = append(l, api.Edge{To: at(numbers[i], numbers[i+1]), Cost: numbers[i+2]})
	}
	return l
}

// tiles is a map of rows: . Plain, w Wood, ~ Water, # Rock.
func tiles(rows ...string) api.Map {
	m := api.Map{W: len(rows[0]), H: len(rows)}
	terrains := map[rune]byte{'.': api.Plain, 'w': api.Wood, '~': api.Water, '#': api.Rock}
	for _, row := range rows {
		for _, r := range row {
			m.Tiles = append(m.Tiles, terrains[r])
		}
	}
	return m
}

// plainTiles is a map of Plain alone.
func plainTiles(width, height int) api.Map {
	return api.Map{W: width, H: height, Tiles: make([]byte, width*height)}
}

// rock puts Rock on rectangles of a map.
func rock(m api.Map, on ...api.Rect) api.Map {
	m.Tiles = slices.Clone(m.Tiles)
	for _, r := range on {
		for y := range r.H {
			for x := range r.W {
				m.Tiles[(r.At.Y+y)*m.W+r.At.X+x] = api.Rock
			}
		}
	}
	return m
}

func made(t *testing.T, m api.Map) *grid.World {
	t.Helper()
	w, code := grid.New(m)
	if code != api.OK {
		t.Fatalf("New: error %d", code)
	}
	return w
}

// open is a world of Plain.
func open(t *testing.T, width, height int) *grid.World {
	t.Helper()
	return made(t, plainTiles(width, height))
}

func place(t *testing.T, w *grid.World, id int, foot api.Rect) {
	t.Helper()
	if code := w.Place(api.Building{Id: id, Foot: foot}); code != api.OK {
		t.Fatalf("Place %d at %v: error %d", id, foot, code)
	}
}

func raze(t *testing.T, w *grid.World, id int) {
	t.Helper()
	if _, code := w.Raze(id); code != api.OK {
		t.Fatalf("Raze %d: error %d", id, code)
	}
}

// graph is that of a world and a shape, which must be no error.
func graph(t *testing.T, w *grid.World, s api.Shape) *abstract.Graph {
	t.Helper()
	g, code := abstract.New(w, s)
	if code != api.OK || g == nil {
		t.Fatalf("New of %v: error %d", s, code)
	}
	return g
}

// shapes are all that may be.
func shapes() []api.Shape {
	var l []api.Shape
	for class := range api.Classes {
		for size := 1; size <= 4; size++ {
			l = append(l, shape(class, size))
		}
	}
	return l
}

// noShapes are shapes that may not be.
func noShapes() []api.Shape {
	outside := append([]int{-4, 5, 6, 257}, ends...)
	var l []api.Shape
	for _, n := range append(outside, 4) {
		for size := 1; size <= 4; size++ {
			l = append(l, shape(n, size))
		}
	}
	for _, n := range append(outside, 0) {
		for class := range api.Classes {
			l = append(l, shape(class, n))
		}
	}
	return append(l, shape(-1, 0), shape(4, 5), shape(-1, 5), shape(4, 0), shape(math.MinInt, math.MinInt), shape(math.MaxInt, math.MaxInt))
}

func hasNodes(t *testing.T, g *abstract.Graph, want ...api.Cell) {
	t.Helper()
	if got := slices.Collect(g.Nodes()); !slices.Equal(got, want) || g.Len() != len(want) {
		t.Fatalf("nodes %v, %d, want %v", got, g.Len(), want)
	}
}

func hasEdges(t *testing.T, g *abstract.Graph, x, y int, want ...api.Edge) {
	t.Helper()
	if got := g.Edges(at(x, y)); !slices.Equal(got, want) {
		t.Fatalf("Edges(%d, %d) = %v, want %v", x, y, got, want)
	}
}

func hasWithin(t *testing.T, g *abstract.Graph, x, y int, want ...api.Cell) {
	t.Helper()
	if got := g.Within(at(x, y)); !slices.Equal(got, want) {
		t.Fatalf("Within(%d, %d) = %v, want %v", x, y, got, want)
	}
}

// Example 1 of the chapter.

func TestExample(t *testing.T) {
	g := graph(t, open(t, 16, 8), foot)
	hasNodes(t, g, cells(7, 3, 8, 3)...)
	hasEdges(t, g, 7, 3, edges(8, 3, 10)...)
	hasEdges(t, g, 8, 3, edges(7, 3, 10)...)
	hasWithin(t, g, 0, 0, at(7, 3))
	hasWithin(t, g, 1, 0, at(8, 3))
}

// Ab1: New.

func TestNewRefuses(t *testing.T) {
	good := open(t, 20, 20)
	refused := func(w *grid.World, s api.Shape) {
		t.Helper()
		if g, code := abstract.New(w, s); g != nil || code != api.ErrArg {
			t.Errorf("New of %v: %v, error %d", s, g, code)
		}
	}
	for _, s := range noShapes() {
		refused(good, s)
		refused(nil, s)
		refused(&grid.World{}, s)
	}
	for _, s := range shapes() {
		refused(nil, s)
		refused(new(grid.World), s)
		refused((&grid.World{}).Copy(), s)
		graph(t, good, s)
		graph(t, good.Copy(), s)
	}
	if n := good.Epoch(); n != 0 {
		t.Errorf("New edits the world: epoch %d", n)
	}
}

// TestWhatNewGot: the world itself, its shape, and the epoch at which it was; a copy has as many edits.
func TestWhatNewGot(t *testing.T) {
	w := open(t, 20, 20)
	for epoch := range 4 {
		twin := w.Copy()
		for _, s := range shapes() {
			for _, of := range []*grid.World{w, twin} {
				g := graph(t, of, s)
				if g.World() != of || g.Shape() != s || g.Epoch() != epoch {
					t.Errorf("of %v at %d: %v and %d", s, epoch, g.Shape(), g.Epoch())
				}
			}
		}
		place(t, w, epoch+1, rect(epoch*4, 7, 2, 2))
	}
}

// TestWorldIsKept: the graph sees edits of the world that New got, by whatever hand, and of no other one.
func TestWorldIsKept(t *testing.T) {
	w := open(t, 16, 8)
	twin := w.Copy()
	g, h := graph(t, w, foot), graph(t, twin, foot)
	place(t, g.World(), 1, rect(7, 3, 1, 1))
	if w.Epoch() != 1 || twin.Epoch() != 0 {
		t.Fatalf("epochs %d and %d", w.Epoch(), twin.Epoch())
	}
	updates(t, g, w, foot)
	hasNodes(t, g, cells(7, 1, 8, 1, 7, 5, 8, 5)...)
	if n := updates(t, h, twin, foot); n != 0 {
		t.Errorf("Update of a copy's = %d", n)
	}
	hasNodes(t, h, cells(7, 3, 8, 3)...)
}

// TestOneCluster: where there is no border, there is no node, whoever stands there.
func TestOneCluster(t *testing.T) {
	for width := 1; width <= 8; width++ {
		for height := 1; height <= 8; height++ {
			w := open(t, width, height)
			for size := 1; size <= 4; size++ {
				s := shape(api.Hover, size)
				g := graph(t, w, s)
				hasNodes(t, g)
				hasWithin(t, g, 0, 0)
				shows(t, g, w, s, plain(w.Map(), s), 0)
			}
		}
	}
	w := open(t, 8, 8)
	g := graph(t, w, foot)
	place(t, w, 1, rect(3, 3, 2, 2))
	if n := updates(t, g, w, foot); n > 1 {
		t.Errorf("Update = %d of one cluster", n)
	}
	hasNodes(t, g)
}

// TestSides: worlds of Plain, whose sides are 1, about the multiples of a cluster's, and the greatest.
func TestSides(t *testing.T) {
	for _, width := range []int{1, 7, 8, 9, 15, 16, 17, 24, 25, 128} {
		for _, height := range []int{1, 2, 7, 8, 9, 10, 11, 16, 17} {
			for size := 1; size <= 4; size++ {
				s := shape(api.Wheel, size)
				for _, w := range []*grid.World{open(t, width, height), open(t, height, width)} {
					shows(t, graph(t, w, s), w, s, plain(w.Map(), s), 0)
				}
			}
		}
	}
}

func TestSidesByHand(t *testing.T) {
	g := graph(t, open(t, 9, 1), foot)
	hasNodes(t, g, cells(7, 0, 8, 0)...)
	hasEdges(t, g, 8, 0, edges(7, 0, 10)...)
	g = graph(t, open(t, 1, 17), foot)
	hasNodes(t, g, cells(0, 7, 0, 8, 0, 15, 0, 16)...)
	hasEdges(t, g, 0, 7, edges(0, 8, 10)...)
	hasEdges(t, g, 0, 8, edges(0, 7, 10, 0, 15, 70)...)
	hasEdges(t, g, 0, 15, edges(0, 8, 70, 0, 16, 10)...)
	hasEdges(t, g, 0, 16, edges(0, 15, 10)...)
	hasWithin(t, g, 0, 1, cells(0, 8, 0, 15)...)
	// One that does not fit behind the border comes to no other cluster, and one that does comes to no further one.
	hasNodes(t, graph(t, open(t, 9, 9), shape(api.Foot, 2)))
	g = graph(t, open(t, 18, 8), shape(api.Foot, 2))
	hasNodes(t, g, cells(7, 3, 8, 3, 15, 3, 16, 3)...)
	hasNodes(t, graph(t, open(t, 18, 8), shape(api.Foot, 3)), cells(7, 2, 8, 2)...)
}

// TestGreatestWorld: 480 borders, each with one portal.
func TestGreatestWorld(t *testing.T) {
	g := graph(t, open(t, 128, 128), foot)
	if g.Len() != 960 {
		t.Fatalf("%d nodes", g.Len())
	}
	hasWithin(t, g, 0, 0, cells(7, 3, 3, 7)...)
	hasWithin(t, g, 15, 15, cells(123, 120, 120, 123)...)
	hasWithin(t, g, 7, 5, cells(59, 40, 56, 43, 63, 43, 59, 47)...)
	hasEdges(t, g, 63, 43, edges(59, 40, 52, 56, 43, 70, 64, 43, 10, 59, 47, 56)...)
	hasEdges(t, g, 59, 40, edges(59, 39, 10, 56, 43, 42, 63, 43, 52, 59, 47, 70)...)
	hasEdges(t, g, 120, 123, edges(123, 120, 42, 119, 123, 10)...)
}

// Ab1: nodes of several portals.

// TestNodeOfTwo: the cluster's last cell leads to the right and below.
func TestNodeOfTwo(t *testing.T) {
	g := graph(t, made(t, rock(plainTiles(16, 16), rect(8, 0, 1, 7), rect(0, 8, 7, 1))), foot)
	hasNodes(t, g, cells(7, 7, 8, 7, 11, 7, 7, 8, 11, 8, 7, 11, 8, 11)...)
	hasEdges(t, g, 7, 7, edges(8, 7, 10, 7, 8, 10)...)
	hasWithin(t, g, 0, 0, at(7, 7))
	hasEdges(t, g, 8, 7, edges(7, 7, 10, 11, 7, 30)...)
	hasEdges(t, g, 7, 8, edges(7, 7, 10, 7, 11, 30)...)
	hasWithin(t, g, 0, 1, cells(7, 8, 7, 11)...)
	// The first one is led to from the left and from above.
	g = graph(t, made(t, rock(plainTiles(16, 16), rect(7, 9, 1, 7), rect(9, 7, 7, 1))), foot)
	hasNodes(t, g, cells(7, 3, 8, 3, 3, 7, 8, 7, 3, 8, 7, 8, 8, 8)...)
	hasEdges(t, g, 8, 8, edges(8, 7, 10, 7, 8, 10)...)
	hasWithin(t, g, 1, 1, at(8, 8))
	hasEdges(t, g, 7, 8, edges(3, 8, 40, 8, 8, 10)...)
}

// TestNodeOfTwoAtTheEnd: of a cluster that is one cell wide, or one high, cells lead to a side and up or down.
func TestNodeOfTwoAtTheEnd(t *testing.T) {
	g := graph(t, made(t, rock(plainTiles(9, 17), rect(7, 9, 1, 6), rect(0, 0, 7, 17))), foot)
	hasNodes(t, g, cells(7, 3, 8, 3, 7, 7, 8, 7, 7, 8, 8, 8, 7, 15, 8, 15, 7, 16, 8, 16)...)
	hasEdges(t, g, 8, 8, edges(8, 7, 10, 7, 8, 10, 8, 15, 70)...)
	hasEdges(t, g, 8, 15, edges(8, 8, 70, 7, 15, 10, 8, 16, 10)...)
	hasEdges(t, g, 7, 8, edges(7, 7, 10, 8, 8, 10)...)
	hasEdges(t, g, 8, 16, edges(8, 15, 10, 7, 16, 10)...)
	hasWithin(t, g, 1, 1, cells(8, 8, 8, 15)...)
	hasWithin(t, g, 1, 2, at(8, 16))
	g = graph(t, open(t, 9, 9), foot)
	hasNodes(t, g, cells(7, 3, 8, 3, 3, 7, 8, 7, 3, 8, 7, 8, 8, 8)...)
	hasEdges(t, g, 8, 8, edges(8, 7, 10, 7, 8, 10)...)
	hasWithin(t, g, 1, 1, at(8, 8))
}

// Ab1: clusters with no, one and many nodes.

func TestClustersOfAnyNumber(t *testing.T) {
	m := tiles(
		".......##......##.......",
		"........................",
		".......##......##.......",
		"......................#.",
		".......##......##.....##",
		"........................",
		".......##......##.......",
		"........................")
	g := graph(t, made(t, m), foot)
	hasWithin(t, g, 0, 0, cells(7, 1, 7, 3, 7, 5, 7, 7)...)
	hasWithin(t, g, 1, 0, cells(8, 1, 15, 1, 8, 3, 15, 3, 8, 5, 15, 5, 8, 7, 15, 7)...)
	hasEdges(t, g, 8, 1, edges(7, 1, 10, 15, 1, 70, 8, 3, 40, 15, 3, 78, 8, 5, 60, 15, 5, 86, 8, 7, 80, 15, 7, 100)...)
	if g.Len() != 16 {
		t.Errorf("%d nodes", g.Len())
	}
	// Rock round a cluster lets it have none, though one stands in it; and none has one that is Rock.
	w := made(t, rock(plainTiles(24, 24), rect(8, 8, 8, 1), rect(8, 15, 8, 1), rect(8, 8, 1, 8), rect(15, 8, 1, 8), rect(16, 16, 8, 8)))
	g = graph(t, w, foot)
	hasWithin(t, g, 1, 1)
	hasWithin(t, g, 2, 2)
	hasWithin(t, g, 2, 1, at(19, 8))
	hasWithin(t, g, 1, 2, at(8, 19))
	hasWithin(t, g, 1, 0, cells(8, 3, 15, 3)...)
	hasEdges(t, g, 15, 3, edges(8, 3, 70, 16, 3, 10)...)
	hasEdges(t, g, 19, 8, edges(19, 7, 10)...)
}

// TestNoNode: where the shape stands nowhere, or comes nowhere else.
func TestNoNode(t *testing.T) {
	for _, s := range shapes() {
		hasNodes(t, graph(t, made(t, rock(plainTiles(128, 128), rect(0, 0, 128, 128))), s))
	}
	hasNodes(t, graph(t, open(t, 24, 24), shape(api.Boat, 1)))
	hasNodes(t, graph(t, made(t, rock(plainTiles(24, 24), rect(7, 0, 2, 24), rect(15, 0, 2, 24), rect(0, 7, 24, 2), rect(0, 15, 24, 2))), foot))
	// All pairs of the border are closed, though cells on both sides are free.
	hasNodes(t, graph(t, made(t, tiles(".......#........", "........#.......", ".......#........", "........#.......")), foot))
}

// Ab1: edges within a cluster.

// TestOnlyThroughAnother: one comes from a node to another one, but not within their cluster.
func TestOnlyThroughAnother(t *testing.T) {
	w := made(t, rock(plainTiles(16, 8), rect(0, 3, 8, 1)))
	g := graph(t, w, foot)
	hasNodes(t, g, cells(7, 1, 8, 1, 7, 5, 8, 5)...)
	hasEdges(t, g, 7, 1, edges(8, 1, 10)...)
	hasEdges(t, g, 7, 5, edges(8, 5, 10)...)
	hasEdges(t, g, 8, 1, edges(7, 1, 10, 8, 5, 40)...)
	hasEdges(t, g, 8, 5, edges(8, 1, 40, 7, 5, 10)...)
	hasWithin(t, g, 0, 0, cells(7, 1, 7, 5)...)
	// None leads between them at all.
	g = graph(t, made(t, rock(plainTiles(16, 8), rect(0, 3, 16, 1))), foot)
	hasEdges(t, g, 7, 1, edges(8, 1, 10)...)
	hasEdges(t, g, 8, 1, edges(7, 1, 10)...)
	hasEdges(t, g, 8, 5, edges(7, 5, 10)...)
	// A corner that is cut is no way.
	g = graph(t, made(t, rock(plainTiles(16, 8), rect(0, 3, 4, 1), rect(4, 4, 12, 1))), foot)
	hasEdges(t, g, 7, 1, edges(8, 1, 10)...)
}

// TestRoundAbout: a way within the cluster counts, though one through another cluster is cheaper.
func TestRoundAbout(t *testing.T) {
	g := graph(t, made(t, rock(plainTiles(16, 8), rect(1, 3, 7, 1))), foot)
	hasEdges(t, g, 7, 1, edges(8, 1, 10, 7, 5, 168)...)
	hasEdges(t, g, 7, 5, edges(7, 1, 168, 8, 5, 10)...)
	hasEdges(t, g, 8, 1, edges(7, 1, 10, 8, 5, 40)...)
	g = graph(t, made(t, tiles(
		"................",
		"..######........",
		"......#.........",
		"#####.##........",
		"................")), foot)
	hasEdges(t, g, 7, 0, edges(8, 0, 10, 7, 4, 160)...)
	hasEdges(t, g, 7, 2, edges(8, 2, 10)...)
}

// TestShapes: each has a graph of its own.
func TestShapes(t *testing.T) {
	w := made(t, tiles(
		"......w..w......",
		"......~..~......",
		"......~~~~......",
		"................",
		"................",
		"................"))
	hasNodes(t, graph(t, w, shape(api.Foot, 1)), cells(7, 0, 8, 0, 7, 4, 8, 4)...)
	hasNodes(t, graph(t, w, shape(api.Wheel, 1)), cells(7, 0, 8, 0, 7, 4, 8, 4)...)
	hasNodes(t, graph(t, w, shape(api.Boat, 1)), cells(7, 2, 8, 2)...)
	hasNodes(t, graph(t, w, shape(api.Hover, 1)), cells(7, 2, 8, 2)...)
	hasNodes(t, graph(t, w, shape(api.Foot, 2)), cells(7, 3, 8, 3)...)
	hasNodes(t, graph(t, w, shape(api.Hover, 2)), cells(7, 2, 8, 2)...)
	hasNodes(t, graph(t, w, shape(api.Foot, 3)), cells(7, 3, 8, 3)...)
	hasNodes(t, graph(t, w, shape(api.Foot, 4)))
	// Over Wood one comes round the Water, if one stands on it.
	hasEdges(t, graph(t, w, shape(api.Foot, 1)), 7, 0, edges(8, 0, 10, 7, 4, 74)...)
	hasEdges(t, graph(t, w, shape(api.Wheel, 1)), 7, 0, edges(8, 0, 10)...)
	w = made(t, tiles("................", "......~~~~......", "......~~~~......", "................"))
	hasEdges(t, graph(t, w, shape(api.Foot, 1)), 7, 0, edges(8, 0, 10, 7, 3, 70)...)
	hasEdges(t, graph(t, w, shape(api.Hover, 1)), 7, 1, edges(8, 1, 10)...)
}

// Ab1: what is no node, and no cluster.

func TestEdgesOfNoNode(t *testing.T) {
	g := graph(t, made(t, rock(plainTiles(20, 20), rect(7, 0, 1, 2))), foot)
	isNode := map[api.Cell]bool{}
	for c := range g.Nodes() {
		isNode[c] = true
	}
	numbers := slices.Clone(ends)
	for n := -3; n < 30; n++ {
		numbers = append(numbers, n)
	}
	for _, x := range numbers {
		for _, y := range numbers {
			if got := g.Edges(at(x, y)); (len(got) > 0) != isNode[at(x, y)] {
				t.Fatalf("Edges(%d, %d) = %v", x, y, got)
			}
		}
	}
	if len(isNode) != g.Len() {
		t.Errorf("%d nodes, and Len = %d", len(isNode), g.Len())
	}
}

func TestWithinNoCluster(t *testing.T) {
	g := graph(t, open(t, 20, 12), foot)
	numbers := slices.Clone(ends)
	for n := -3; n < 20; n++ {
		numbers = append(numbers, n)
	}
	for _, x := range numbers {
		for _, y := range numbers {
			isCluster := 0 <= x && x <= 2 && 0 <= y && y <= 1
			if got := g.Within(at(x, y)); (len(got) > 0) != isCluster {
				t.Fatalf("Within(%d, %d) = %v", x, y, got)
			}
		}
	}
}

// Ab1: Nodes as a range function.

func TestNodesLeftEarly(t *testing.T) {
	g := graph(t, open(t, 24, 24), foot)
	all := slices.Collect(g.Nodes())
	if len(all) != 24 || g.Len() != 24 {
		t.Fatalf("%d nodes, %d", len(all), g.Len())
	}
	nodes := g.Nodes()
	for most := range len(all) + 1 {
		var l []api.Cell
		for c := range nodes {
			if len(l) == most {
				break
			}
			l = append(l, c)
		}
		if !slices.Equal(l, all[:most]) {
			t.Fatalf("the first %d nodes are %v", most, l)
		}
	}
	for range 2 {
		if !slices.Equal(slices.Collect(nodes), all) {
			t.Fatal("a second loop tells others")
		}
	}
	n := 0
	for range nodes {
		for range nodes {
			n++
		}
	}
	if n != 24*24 {
		t.Errorf("a loop in a loop: %d", n)
	}
}

// TestNodesAsTheyWere: a loop begins with the nodes that there are then, and goes on through them.
func TestNodesAsTheyWere(t *testing.T) {
	w := open(t, 16, 8)
	g := graph(t, w, foot)
	nodes := g.Nodes()
	place(t, w, 1, rect(7, 3, 1, 1))
	if got := slices.Collect(nodes); !slices.Equal(got, cells(7, 3, 8, 3)) {
		t.Errorf("ahead of Update: %v", got)
	}
	var l []api.Cell
	for c := range nodes {
		l = append(l, c)
		if _, code := g.Update(); code != api.OK {
			t.Errorf("Update: error %d", code)
		}
	}
	if !slices.Equal(l, cells(7, 3, 8, 3)) {
		t.Errorf("Update in the loop: %v", l)
	}
	if got := slices.Collect(nodes); !slices.Equal(got, cells(7, 1, 8, 1, 7, 5, 8, 5)) {
		t.Errorf("behind Update: %v", got)
	}
}

// Ab1: memory.

// ownMemory overwrites an answer, with its spare room: another one stays, and a later one is the same.
func ownMemory[E comparable](t *testing.T, what string, other E, ask func() []E) {
	t.Helper()
	first, second := ask(), ask()
	want := slices.Clone(first)
	if len(want) < 2 {
		t.Fatalf("%s = %v", what, want)
	}
	room := first[:cap(first)]
	for i := range room {
		room[i] = other
	}
	if !slices.Equal(second, want) || !slices.Equal(ask(), want) {
		t.Errorf("%s's answers share memory", what)
	}
}

func TestMemory(t *testing.T) {
	w := open(t, 24, 24)
	g := graph(t, w, foot)
	whole := told(t, g, w.All())
	for range 2 {
		for c := range g.Nodes() {
			ownMemory(t, "Edges", api.Edge{To: at(-5, -5), Cost: -5}, func() []api.Edge { return g.Edges(c) })
		}
		for k := range whole.within {
			ownMemory(t, "Within", at(-5, -5), func() []api.Cell { return g.Within(k) })
		}
		showsNow(t, g, w, foot)
		// What stands behind Update is the graph's own, too.
		place(t, w, 1, rect(11, 11, 1, 1))
		raze(t, w, 1)
		updates(t, g, w, foot)
	}
	l, e := g.Within(at(1, 1)), g.Edges(at(8, 11))
	wasL, wasE := slices.Clone(l), slices.Clone(e)
	place(t, w, 2, rect(7, 7, 8, 8))
	updates(t, g, w, foot)
	if !slices.Equal(l, wasL) || !slices.Equal(e, wasE) {
		t.Error("Update turned what was told")
	}
}

// Ab2: Update.

func TestUpdateWithoutEdits(t *testing.T) {
	w := open(t, 24, 24)
	place(t, w, 1, rect(7, 7, 2, 2))
	g := graph(t, w, foot)
	for range 3 {
		if n := updates(t, g, w, foot); n != 0 {
			t.Errorf("Update = %d", n)
		}
	}
	// Refused ones are none.
	w.Place(api.Building{Id: 1, Foot: rect(0, 0, 1, 1)})
	w.Place(api.Building{Id: 2, Foot: rect(8, 8, 1, 1)})
	w.Place(api.Building{Id: 3, Foot: rect(23, 23, 2, 2)})
	w.Raze(4)
	if n := updates(t, g, w, foot); n != 0 {
		t.Errorf("Update behind refused edits = %d", n)
	}
	place(t, w, 5, rect(15, 3, 1, 1))
	updates(t, g, w, foot)
	if n := updates(t, g, w, foot); n != 0 {
		t.Errorf("a second Update = %d", n)
	}
}

// TestTillUpdate: an edit turns nothing that is told till Update comes, then all of it.
func TestTillUpdate(t *testing.T) {
	w := open(t, 24, 24)
	g := graph(t, w, foot)
	whole := told(t, g, w.All())
	place(t, w, 1, rect(7, 3, 1, 1))
	place(t, w, 2, rect(12, 8, 4, 8))
	shows(t, g, w, foot, whole, 0)
	updates(t, g, w, foot)
	split := told(t, g, w.All())
	hasWithin(t, g, 0, 0, cells(7, 1, 7, 5, 3, 7)...)
	hasWithin(t, g, 1, 1, cells(9, 8, 8, 11, 9, 15)...)
	raze(t, w, 1)
	raze(t, w, 2)
	shows(t, g, w, foot, split, 2)
	updates(t, g, w, foot)
	shows(t, g, w, foot, whole, 4)
}

// TestPlacedAndRazed: between two Updates, and with one between.
func TestPlacedAndRazed(t *testing.T) {
	w := made(t, rock(plainTiles(24, 24), rect(7, 9, 1, 3), rect(10, 15, 2, 2)))
	for size := 1; size <= 4; size++ {
		s := shape(api.Foot, size)
		g := graph(t, w, s)
		whole := told(t, g, w.All())
		for _, on := range []api.Rect{rect(7, 7, 1, 1), rect(8, 8, 8, 8), rect(0, 0, 8, 8), rect(15, 4, 2, 4), rect(23, 23, 1, 1)} {
			place(t, w, 9, on)
			raze(t, w, 9)
			updates(t, g, w, s)
			shows(t, g, w, s, whole, w.Epoch())
			place(t, w, 9, on)
			updates(t, g, w, s)
			raze(t, w, 9)
			updates(t, g, w, s)
			shows(t, g, w, s, whole, w.Epoch())
		}
	}
}

// TestEditsAtABorder: buildings on one side of a border, on the other, and on both turn both sides.
func TestEditsAtABorder(t *testing.T) {
	for _, on := range []api.Rect{rect(7, 3, 1, 1), rect(8, 3, 1, 1), rect(7, 3, 2, 1)} {
		w := open(t, 24, 8)
		g := graph(t, w, foot)
		place(t, w, 1, on)
		updates(t, g, w, foot)
		hasNodes(t, g, cells(7, 1, 8, 1, 15, 3, 16, 3, 7, 5, 8, 5)...)
		hasEdges(t, g, 7, 3)
		hasEdges(t, g, 8, 3)
		hasEdges(t, g, 15, 3, edges(8, 1, 78, 16, 3, 10, 8, 5, 78)...)
		raze(t, w, 1)
		updates(t, g, w, foot)
		hasNodes(t, g, cells(7, 3, 8, 3, 15, 3, 16, 3)...)
	}
	// One that closes the border lets no node stay, and none of the edges to it.
	w := open(t, 16, 16)
	g := graph(t, w, foot)
	place(t, w, 1, rect(8, 0, 1, 8))
	updates(t, g, w, foot)
	hasNodes(t, g, cells(3, 7, 12, 7, 3, 8, 12, 8, 7, 11, 8, 11)...)
	hasEdges(t, g, 3, 7, edges(3, 8, 10)...)
	hasEdges(t, g, 12, 7, edges(12, 8, 10)...)
}

// TestEditsAtACorner: where four clusters meet one tile turns the borders of all of them.
func TestEditsAtACorner(t *testing.T) {
	for _, c := range cells(7, 7, 8, 7, 7, 8, 8, 8) {
		for size := 1; size <= 4; size++ {
			s := shape(api.Foot, size)
			w := open(t, 24, 24)
			g := graph(t, w, s)
			place(t, w, 1, rect(c.X, c.Y, 1, 1))
			updates(t, g, w, s)
			place(t, w, 2, rect(15, 15, 2, 2))
			updates(t, g, w, s)
			raze(t, w, 1)
			updates(t, g, w, s)
		}
	}
	// A node of two portals goes, and comes back.
	w := made(t, rock(plainTiles(16, 16), rect(8, 0, 1, 7), rect(0, 8, 7, 1)))
	g := graph(t, w, foot)
	place(t, w, 1, rect(7, 7, 1, 1))
	updates(t, g, w, foot)
	hasNodes(t, g, cells(11, 7, 11, 8, 7, 11, 8, 11)...)
	hasWithin(t, g, 0, 0)
	raze(t, w, 1)
	updates(t, g, w, foot)
	hasEdges(t, g, 7, 7, edges(8, 7, 10, 7, 8, 10)...)
	// One of its two portals goes: it stays, with one edge less.
	place(t, w, 2, rect(7, 8, 1, 1))
	updates(t, g, w, foot)
	hasEdges(t, g, 7, 7, edges(8, 7, 10)...)
	hasWithin(t, g, 0, 0, at(7, 7))
}

// TestEditsFarFromTheBorder: a tile in a neighbour's middle closes a border for the great, and turns nothing of the small ones' there.
func TestEditsFarFromTheBorder(t *testing.T) {
	w := open(t, 16, 8)
	small, great := graph(t, w, foot), graph(t, w, shape(api.Foot, 4))
	hasNodes(t, great, cells(7, 2, 8, 2)...)
	place(t, w, 1, rect(11, 4, 1, 1))
	updates(t, small, w, foot)
	hasNodes(t, small, cells(7, 3, 8, 3)...)
	updates(t, great, w, shape(api.Foot, 4))
	hasNodes(t, great, cells(7, 0, 8, 0)...)
	raze(t, w, 1)
	// The last column from which a footprint of that size reaches to the border, and the one behind it.
	place(t, w, 2, rect(11, 0, 1, 8))
	updates(t, great, w, shape(api.Foot, 4))
	hasNodes(t, great)
	raze(t, w, 2)
	place(t, w, 3, rect(12, 0, 1, 8))
	updates(t, great, w, shape(api.Foot, 4))
	hasNodes(t, great, cells(7, 2, 8, 2)...)
	// Ways within a cluster turn by a tile of the next one, too.
	w = made(t, rock(plainTiles(24, 16), rect(16, 0, 8, 16)))
	s := shape(api.Foot, 2)
	g := graph(t, w, s)
	place(t, w, 1, rect(8, 3, 1, 2))
	updates(t, g, w, s)
	place(t, w, 2, rect(0, 4, 6, 1))
	updates(t, g, w, s)
	raze(t, w, 1)
	updates(t, g, w, s)
}

// TestEditsWithin: only distances turn, no node does.
func TestEditsWithin(t *testing.T) {
	w := open(t, 24, 8)
	g := graph(t, w, foot)
	hasEdges(t, g, 8, 3, edges(7, 3, 10, 15, 3, 70)...)
	place(t, w, 1, rect(11, 3, 1, 1))
	updates(t, g, w, foot)
	hasEdges(t, g, 8, 3, edges(7, 3, 10, 15, 3, 78)...)
	hasEdges(t, g, 15, 3, edges(8, 3, 78, 16, 3, 10)...)
	place(t, w, 2, rect(10, 0, 1, 7))
	updates(t, g, w, foot)
	hasEdges(t, g, 8, 3, edges(7, 3, 10, 15, 3, 120)...)
	place(t, w, 3, rect(10, 7, 1, 1))
	updates(t, g, w, foot)
	hasEdges(t, g, 8, 3, edges(7, 3, 10)...)
	hasEdges(t, g, 15, 3, edges(16, 3, 10)...)
	raze(t, w, 2)
	raze(t, w, 3)
	raze(t, w, 1)
	updates(t, g, w, foot)
	hasEdges(t, g, 8, 3, edges(7, 3, 10, 15, 3, 70)...)
}

// TestManyEdits: as many buildings at once as there may be, each of them an edit, ahead of one Update.
func TestManyEdits(t *testing.T) {
	w := open(t, 128, 128)
	small, great := shape(api.Foot, 1), shape(api.Foot, 4)
	g, h := graph(t, w, small), graph(t, w, great)
	for i := range 256 {
		place(t, w, i+1, rect(i%16*8+i%5, i/16*8+i%7, 1+i%3, 1+i%2))
	}
	updates(t, g, w, small)
	updates(t, h, w, great)
	for i := range 256 {
		raze(t, w, i+1)
	}
	updates(t, g, w, small)
	updates(t, h, w, great)
	if g.Len() != 960 || g.Epoch() != 512 {
		t.Errorf("%d nodes, epoch %d", g.Len(), g.Epoch())
	}
}

// TestManyEditsOfOneCluster: a cluster that many edits touched counts once at most.
func TestManyEditsOfOneCluster(t *testing.T) {
	w := open(t, 16, 8)
	g := graph(t, w, foot)
	for range 500 {
		place(t, w, 1, rect(7, 3, 1, 1))
		raze(t, w, 1)
	}
	place(t, w, 1, rect(7, 3, 1, 1))
	updates(t, g, w, foot)
	hasNodes(t, g, cells(7, 1, 8, 1, 7, 5, 8, 5)...)
	if g.Epoch() != 1001 {
		t.Errorf("Epoch = %d", g.Epoch())
	}
}

// TestTwo: each goes on when it is asked to, whatever another one of the same world does.
func TestTwo(t *testing.T) {
	w := open(t, 24, 24)
	wide := shape(api.Wheel, 2)
	a, b, c := graph(t, w, foot), graph(t, w, foot), graph(t, w, wide)
	oldB, oldC := told(t, b, w.All()), told(t, c, w.All())
	place(t, w, 1, rect(6, 3, 3, 2))
	updates(t, a, w, foot)
	shows(t, b, w, foot, oldB, 0)
	shows(t, c, w, wide, oldC, 0)
	raze(t, w, 1)
	place(t, w, 2, rect(15, 15, 1, 1))
	updates(t, c, w, wide)
	shows(t, b, w, foot, oldB, 0)
	updates(t, b, w, foot)
	updates(t, a, w, foot)
}

// TestTheWorldStays: no call of the layer edits the world.
func TestTheWorldStays(t *testing.T) {
	w := open(t, 24, 24)
	place(t, w, 9, rect(6, 6, 3, 3))
	was := w.Map()
	for _, s := range shapes() {
		g := graph(t, w, s)
		g.Update()
		told(t, g, w.All())
	}
	is := w.Map()
	if !slices.Equal(was.Tiles, is.Tiles) || !slices.Equal(was.Built, is.Built) || w.Epoch() != 1 {
		t.Error("the world was turned")
	}
}

// TestNotGiven: a graph that New did not give tells nothing, however often.
func TestNotGiven(t *testing.T) {
	for _, g := range []*abstract.Graph{nil, {}, new(abstract.Graph)} {
		for range 2 {
			for range g.Nodes() {
				t.Error("there is a node")
			}
			for _, n := range append([]int{0, 1, 7, 8}, ends...) {
				for _, c := range cells(n, 0, 0, n, n, n) {
					if len(g.Edges(c)) != 0 || len(g.Within(c)) != 0 {
						t.Errorf("Edges or Within of %v", c)
					}
				}
			}
			if g.Len() != 0 || g.Epoch() != 0 || g.Shape() != (api.Shape{}) || g.World() != nil {
				t.Errorf("it tells %d, %d, %v and %p", g.Len(), g.Epoch(), g.Shape(), g.World())
			}
			if n, code := g.Update(); n != 0 || code != api.ErrArg {
				t.Errorf("Update = %d, error %d", n, code)
			}
		}
	}
}
