package grid_test

import (
	"math"
	"slices"
	"testing"

	"phalanx/api"
	"phalanx/grid"
)

func at(x, y int) api.Cell { return api.Cell{X: x, Y: y} }

func rect(x, y, w, h int) api.Rect { return api.Rect{At: at(x, y), W: w, H: h} }

func building(id, x, y, w, h int) api.Building { return api.Building{Id: id, Foot: rect(x, y, w, h)} }

// plain is a map of one terrain, with buildings.
func plain(w, h int, built ...api.Building) api.Map {
	return api.Map{W: w, H: h, Tiles: make([]byte, w*h), Built: built}
}

// motley is a map whose neighbouring tiles are of unlike terrains.
func motley(w, h int, built ...api.Building) api.Map {
	m := plain(w, h, built...)
	for i := range m.Tiles {
		m.Tiles[i] = byte((i%w + 2*(i/w)) % api.Terrains)
	}
	return m
}

// many are so many buildings of one cell each, from Id 1 on, row by row on a map of that width.
func many(n, width int) []api.Building {
	l := make([]api.Building, n)
	for i := range l {
		l[i] = building(i+1, i%width, i/width, 1, 1)
	}
	return l
}

func world(t *testing.T, m api.Map) *grid.World {
	t.Helper()
	w, code := grid.New(m)
	if code != api.OK || w == nil {
		t.Fatalf("New of %d, %d with %v: %v, error %d", m.W, m.H, m.Built, w, code)
	}
	return w
}

func place(t *testing.T, w *grid.World, b api.Building) {
	t.Helper()
	if code := w.Place(b); code != api.OK {
		t.Fatalf("Place(%v): error %d", b, code)
	}
}

func raze(t *testing.T, w *grid.World, id int) {
	t.Helper()
	if _, code := w.Raze(id); code != api.OK {
		t.Fatalf("Raze(%d): error %d", id, code)
	}
}

func all(w *grid.World) []api.Building { return slices.Collect(w.Buildings()) }

func sameMap(a, b api.Map) bool {
	return a.W == b.W && a.H == b.H && slices.Equal(a.Tiles, b.Tiles) && slices.Equal(a.Built, b.Built)
}

// cells are those of a rectangle, by two loops.
func cells(r api.Rect) []api.Cell {
	var l []api.Cell
	for y := r.At.Y; y < r.At.Y+r.H; y++ {
		for x := r.At.X; x < r.At.X+r.W; x++ {
			l = append(l, at(x, y))
		}
	}
	return l
}

// shows holds all that a world tells against a map and the edits that it is to have.
func shows(t *testing.T, w *grid.World, m api.Map, edits []api.Rect) {
	t.Helper()
	if w.All() != rect(0, 0, m.W, m.H) {
		t.Errorf("All = %v, want %d, %d", w.All(), m.W, m.H)
	}
	if got := w.Map(); !sameMap(got, m) {
		t.Errorf("Map = %v, want %v", got, m)
	}
	if got := all(w); !slices.Equal(got, m.Built) {
		t.Errorf("Buildings = %v, want %v", got, m.Built)
	}
	if w.Epoch() != len(edits) || !slices.Equal(w.Dirty(0), edits) {
		t.Errorf("Epoch = %d, Dirty(0) = %v, want %v", w.Epoch(), w.Dirty(0), edits)
	}
	showsTiles(t, w, m)
	showsWho(t, w, m)
}

// showsTiles asks for the terrain of all cells, and of those around the map.
func showsTiles(t *testing.T, w *grid.World, m api.Map) {
	t.Helper()
	for y := -1; y <= m.H; y++ {
		for x := -1; x <= m.W; x++ {
			want, ok := 0, x >= 0 && x < m.W && y >= 0 && y < m.H
			if ok {
				want = int(m.Tiles[y*m.W+x])
			}
			if got, gotOk := w.Terrain(at(x, y)); got != want || gotOk != ok {
				t.Errorf("Terrain(%d, %d) = %d, %v, want %d, %v", x, y, got, gotOk, want, ok)
			}
		}
	}
}

// showsWho asks who stands on each cell, and where each building stands.
func showsWho(t *testing.T, w *grid.World, m api.Map) {
	t.Helper()
	who := make([]int, (m.W+2)*(m.H+2)) // with the cells around the map
	for _, b := range m.Built {
		for _, c := range cells(b.Foot) {
			who[(c.Y+1)*(m.W+2)+c.X+1] = b.Id
		}
		if foot, ok := w.Find(b.Id); foot != b.Foot || !ok {
			t.Errorf("Find(%d) = %v, %v, want %v", b.Id, foot, ok, b.Foot)
		}
	}
	for i, id := range who {
		c := at(i%(m.W+2)-1, i/(m.W+2)-1)
		if got, ok := w.At(c); got != id || ok != (id != 0) {
			t.Errorf("At(%v) = %d, %v, want %d", c, got, ok, id)
		}
	}
}

// Gr1: maps that may be, and maps that may not.

// goodMaps are maps that may just be.
func goodMaps() map[string]api.Map {
	most := api.MaxSide
	last := plain(2, 2)
	last.Tiles[3] = api.Terrains - 1
	return map[string]api.Map{
		"one tile":                     plain(1, 1),
		"one tile, that is built on":   plain(1, 1, building(1, 0, 0, 1, 1)),
		"most wide":                    plain(most, 1),
		"most high":                    plain(1, most),
		"most wide and high":           plain(most, most, building(5, most-8, most-8, 8, 8)),
		"the last terrain":             last,
		"all terrains":                 motley(7, 5),
		"Id 1 and MaxTick":             plain(3, 3, building(1, 0, 0, 1, 1), building(api.MaxTick, 2, 2, 1, 1)),
		"a Foot of most":               plain(8, 8, building(3, 0, 0, 8, 8)),
		"a Foot of most in a corner":   plain(20, 20, building(3, 12, 12, 8, 8)),
		"as wide as the map":           plain(3, 2, building(3, 0, 0, 3, 2)),
		"side by side":                 plain(4, 4, building(2, 0, 0, 2, 2), building(3, 2, 0, 2, 2), building(4, 0, 2, 2, 2), building(5, 2, 2, 2, 2)),
		"MaxBuild buildings":           plain(16, 16, many(api.MaxBuild, 16)...),
		"MaxBuild buildings, and room": plain(17, 16, many(api.MaxBuild, 16)...),
	}
}

// badMaps are maps that may not be.
func badMaps() map[string]api.Map {
	most := api.MaxSide
	none, lone := plain(2, 2), plain(2, 2)
	none.Tiles[3] = api.Terrains
	lone.Tiles[0] = 255
	one := func(b api.Building) api.Map { return plain(10, 9, b) }
	two := func(a, b api.Building) api.Map { return plain(10, 9, a, b) }
	tiles := func(w, h, n int) api.Map { return api.Map{W: w, H: h, Tiles: make([]byte, n)} }
	return map[string]api.Map{
		"none at all":             {},
		"W 0":                     tiles(0, 1, 0),
		"H 0":                     tiles(1, 0, 0),
		"W 0, with a tile":        tiles(0, 1, 1),
		"W below 0":               tiles(-1, 1, 1),
		"both below 0":            tiles(-1, -1, 1),
		"W above most":            tiles(most+1, 1, most+1),
		"H above most":            tiles(1, most+1, most+1),
		"W and H wrap to 0":       tiles(1<<32, 1<<32, 0),
		"W and H wrap to 1":       tiles(math.MaxInt, math.MaxInt, 1),
		"W least":                 tiles(math.MinInt, 2, 0),
		"no tiles":                tiles(2, 2, 0),
		"too few tiles":           tiles(2, 2, 3),
		"too many tiles":          tiles(2, 2, 5),
		"no such terrain, last":   none,
		"no such terrain, first":  lone,
		"Id 0":                    one(building(0, 0, 0, 1, 1)),
		"Id below 0":              one(building(-1, 0, 0, 1, 1)),
		"Id above MaxTick":        one(building(api.MaxTick+1, 0, 0, 1, 1)),
		"foot W 0":                one(building(1, 0, 0, 0, 1)),
		"foot H 0":                one(building(1, 0, 0, 1, 0)),
		"foot W below 0":          one(building(1, 3, 3, -1, 1)),
		"foot W above most":       one(building(1, 0, 0, api.MaxFoot+1, 1)),
		"foot H above most":       one(building(1, 0, 0, 1, api.MaxFoot+1)),
		"to the right of the map": one(building(1, 9, 0, 2, 1)),
		"below the map":           one(building(1, 0, 8, 1, 2)),
		"to the left of the map":  one(building(1, -1, 0, 2, 1)),
		"above the map":           one(building(1, 0, -1, 1, 2)),
		"wholly beside the map":   one(building(1, 10, 0, 1, 1)),
		"wholly below the map":    one(building(1, 0, 9, 1, 1)),
		"far away":                one(building(1, math.MaxInt, math.MaxInt, 2, 2)),
		"out of order":            two(building(2, 0, 0, 1, 1), building(1, 1, 1, 1, 1)),
		"one Id twice":            two(building(2, 0, 0, 1, 1), building(2, 1, 1, 1, 1)),
		"one building twice":      two(building(2, 0, 0, 1, 1), building(2, 0, 0, 1, 1)),
		"one cell shared":         two(building(2, 0, 0, 2, 2), building(3, 1, 1, 2, 2)),
		"one within the other":    two(building(2, 0, 0, 5, 5), building(3, 2, 2, 1, 1)),
		"one across the other":    two(building(2, 0, 2, 5, 1), building(3, 2, 0, 1, 5)),
		"the last may not be":     plain(9, 9, building(2, 0, 0, 1, 1), building(3, 1, 0, 1, 1), building(4, 9, 9, 1, 1)),
		"one above MaxBuild":      plain(20, 16, many(api.MaxBuild+1, 20)...),
	}
}

func TestGoodMaps(t *testing.T) {
	for name, m := range goodMaps() {
		t.Run(name, func(t *testing.T) {
			if code := grid.Check(m); code != api.OK {
				t.Errorf("Check: error %d", code)
			}
			shows(t, world(t, m), m, nil)
		})
	}
}

func TestBadMaps(t *testing.T) {
	for name, m := range badMaps() {
		if code := grid.Check(m); code != api.ErrArg {
			t.Errorf("%s: Check: error %d", name, code)
		}
		if w, code := grid.New(m); w != nil || code != api.ErrArg {
			t.Errorf("%s: New = %v, error %d", name, w, code)
		}
	}
}

// TestNoSuchCell asks for cells that are far out, some of which would wrap onto a tile.
func TestNoSuchCell(t *testing.T) {
	m := motley(4, 3, building(9, 0, 0, 4, 3))
	for i := range m.Tiles {
		m.Tiles[i] = api.Rock
	}
	w := world(t, m)
	for _, c := range []api.Cell{
		at(-1, 0), at(0, -1), at(4, 0), at(0, 3), at(4, -1), at(-4, 1), at(3, 3),
		at(math.MaxInt, 0), at(math.MinInt, 0), at(0, math.MaxInt), at(0, math.MinInt), at(math.MinInt, math.MinInt), at(0, 1<<62), at(1<<32, 0),
	} {
		if n, ok := w.Terrain(c); n != 0 || ok {
			t.Errorf("Terrain(%v) = %d, %v", c, n, ok)
		}
		if id, ok := w.At(c); id != 0 || ok {
			t.Errorf("At(%v) = %d, %v", c, id, ok)
		}
	}
}

func TestFindNone(t *testing.T) {
	w := world(t, plain(9, 9, building(3, 0, 0, 1, 1), building(5, 1, 0, 1, 1)))
	for _, id := range []int{-1, 0, 1, 2, 4, 6, math.MaxInt, math.MinInt, api.MaxTick, 1<<32 + 3} {
		if foot, ok := w.Find(id); foot != (api.Rect{}) || ok {
			t.Errorf("Find(%d) = %v, %v", id, foot, ok)
		}
	}
}

// TestNewKeepsNothing turns what New was given, and the room behind it.
func TestNewKeepsNothing(t *testing.T) {
	m := motley(5, 4, building(2, 0, 0, 2, 2), building(3, 3, 1, 1, 1))
	m.Tiles = append(make([]byte, 0, 64), m.Tiles...)
	m.Built = append(make([]api.Building, 0, 8), m.Built...)
	want := api.Map{W: m.W, H: m.H, Tiles: slices.Clone(m.Tiles), Built: slices.Clone(m.Built)}
	w := world(t, m)
	place(t, w, building(7, 0, 3, 1, 1))
	if !sameMap(m, want) || m.Built[:3][2] != (api.Building{}) || m.Tiles[:21][20] != 0 {
		t.Error("what was handed in was turned")
	}
	for i := range m.Tiles {
		m.Tiles[i] = 9
	}
	m.Built[0], m.Built[1] = building(8, 4, 3, 1, 1), building(9, 2, 2, 1, 1)
	want.Built = append(want.Built, building(7, 0, 3, 1, 1))
	shows(t, w, want, []api.Rect{rect(0, 3, 1, 1)})
}

func TestBuildingsLeftEarly(t *testing.T) {
	w := world(t, plain(16, 16, many(9, 16)...))
	seq := w.Buildings()
	for n := range 9 {
		var got []api.Building
		for b := range seq {
			got = append(got, b)
			if len(got) == n+1 {
				break
			}
		}
		if !slices.Equal(got, many(n+1, 16)) {
			t.Errorf("the first %d: %v", n+1, got)
		}
	}
	place(t, w, building(20, 8, 8, 1, 1))
	if got := slices.Collect(seq); len(got) != 10 || got[9].Id != 20 {
		t.Errorf("a loop that begins later: %v", got)
	}
}

// TestBuildingsTurned edits the world in the loop, which ends all the same.
func TestBuildingsTurned(t *testing.T) {
	w := world(t, plain(16, 16, many(9, 16)...))
	var got []int
	for b := range w.Buildings() {
		got = append(got, b.Id)
		raze(t, w, b.Id)
		place(t, w, building(b.Id+100, 0, b.Id, 1, 1))
	}
	if !slices.Equal(got, []int{1, 2, 3, 4, 5, 6, 7, 8, 9}) {
		t.Errorf("gone through: %v", got)
	}
}

// Gr2: edits, and why they are refused.

// refuses asks for May and Place, which are to tell the same error, and to turn nothing.
func refuses(t *testing.T, w *grid.World, b api.Building, want api.Errno) {
	t.Helper()
	m, edits := w.Map(), w.Dirty(0)
	if code := w.May(b); code != want {
		t.Errorf("May(%v): error %d, want %d", b, code, want)
	}
	if code := w.Place(b); code != want {
		t.Errorf("Place(%v): error %d, want %d", b, code, want)
	}
	shows(t, w, m, edits)
}

func TestPlaceErrArg(t *testing.T) {
	// Id 2 is there, and all cells that the buildings below have within the map are taken: ErrArg comes first.
	w := world(t, plain(10, 9, building(2, 0, 0, 8, 8), building(3, 8, 0, 2, 8), building(4, 0, 8, 8, 1), building(5, 8, 8, 2, 1)))
	for _, b := range []api.Building{
		{}, {Id: 2}, {Foot: rect(0, 0, 1, 1)},
		building(0, 0, 0, 1, 1), building(-1, 0, 0, 1, 1), building(api.MaxTick+1, 0, 0, 1, 1), building(math.MaxInt, 0, 0, 1, 1), building(math.MinInt, 0, 0, 1, 1), building(1<<32+2, 0, 0, 1, 1),
		building(2, 0, 0, 0, 1), building(2, 0, 0, 1, 0), building(2, 0, 0, -1, 1), building(2, 4, 4, 1, -1), building(2, 4, 4, -1, -1),
		building(2, 0, 0, 9, 1), building(2, 0, 0, 1, 9), building(2, 0, 0, math.MaxInt, 1), building(2, 1, 1, math.MinInt, 1), building(2, 0, 0, 1<<32+1, 1),
		building(2, 9, 0, 2, 1), building(2, 0, 8, 1, 2), building(2, 10, 0, 1, 1), building(2, 0, 9, 1, 1), building(2, -1, 0, 2, 1), building(2, 0, -1, 1, 2), building(2, -1, -1, 1, 1),
		building(2, math.MaxInt, 0, 1, 1), building(2, math.MinInt, 0, 1, 1), building(2, 0, math.MaxInt, 8, 8), building(2, 0, math.MinInt, 8, 8), building(2, 1<<32, 0, 1, 1),
	} {
		refuses(t, w, b, api.ErrArg)
	}
}

func TestPlaceErrSame(t *testing.T) {
	w := world(t, plain(10, 9, building(2, 0, 0, 2, 2), building(5, 3, 3, 1, 1)))
	refuses(t, w, building(2, 6, 6, 1, 1), api.ErrSame)
	refuses(t, w, building(5, 6, 6, 1, 1), api.ErrSame)
	refuses(t, w, building(2, 3, 3, 1, 1), api.ErrSame) // busy, too
	refuses(t, w, building(2, 0, 0, 2, 2), api.ErrSame) // itself
	if code := w.May(building(3, 6, 6, 1, 1)); code != api.OK {
		t.Errorf("May of another Id: error %d", code)
	}
}

func TestPlaceErrFull(t *testing.T) {
	w := world(t, plain(17, 16, many(api.MaxBuild-1, 16)...))
	place(t, w, building(900, 16, 0, 1, 1))
	refuses(t, w, building(901, 16, 3, 1, 1), api.ErrFull)
	refuses(t, w, building(901, 0, 0, 1, 1), api.ErrFull) // busy, too
	refuses(t, w, building(7, 16, 3, 1, 1), api.ErrSame)  // full, too
	refuses(t, w, building(7, 0, 0, 1, 1), api.ErrSame)   // full and busy, too
	refuses(t, w, building(901, 17, 3, 1, 1), api.ErrArg) // full, too
	refuses(t, w, building(7, 0, 0, 9, 1), api.ErrArg)    // all of them
	raze(t, w, 7)
	refuses(t, w, building(901, 0, 0, 1, 1), api.ErrBusy)
	place(t, w, building(901, 6, 0, 1, 1))
	refuses(t, w, building(7, 16, 3, 1, 1), api.ErrFull)
}

// TestPlaceErrBusy moves a foot around a building that stands: it is refused just where they share a cell.
func TestPlaceErrBusy(t *testing.T) {
	stands := rect(5, 4, 3, 2)
	w := world(t, plain(14, 12, api.Building{Id: 9, Foot: stands}))
	for _, size := range []api.Cell{at(1, 1), at(2, 3), at(8, 1), at(1, 8), at(4, 4)} {
		for y := range 12 - size.Y + 1 {
			for x := range 14 - size.X + 1 {
				b := building(8, x, y, size.X, size.Y)
				want := api.OK
				if slices.ContainsFunc(cells(b.Foot), func(c api.Cell) bool { return slices.Contains(cells(stands), c) }) {
					want = api.ErrBusy
				}
				if code := w.May(b); code != want {
					t.Errorf("May(%v): error %d, want %d", b, code, want)
				}
			}
		}
	}
	refuses(t, w, building(8, 7, 5, 2, 2), api.ErrBusy)
	refuses(t, w, building(8, 4, 3, 2, 2), api.ErrBusy)
	refuses(t, w, building(8, 6, 0, 1, 8), api.ErrBusy)
}

// TestMayTurnsNothing asks twice, with nothing between.
func TestMayTurnsNothing(t *testing.T) {
	w := world(t, motley(4, 3))
	for range 2 {
		if code := w.May(building(1, 0, 0, 4, 3)); code != api.OK {
			t.Errorf("May: error %d", code)
		}
	}
	shows(t, w, motley(4, 3), nil)
}

// TestPlaceAnyOrder places buildings of falling and mixed numbers: they are told by rising ones.
func TestPlaceAnyOrder(t *testing.T) {
	w := world(t, motley(10, 9, building(4, 0, 0, 1, 1)))
	place(t, w, building(api.MaxTick, 2, 8, 8, 1))
	place(t, w, building(1, 9, 0, 1, 8))
	place(t, w, building(5, 1, 1, 8, 7))
	place(t, w, building(3, 0, 8, 2, 1))
	m := motley(10, 9, building(1, 9, 0, 1, 8), building(3, 0, 8, 2, 1), building(4, 0, 0, 1, 1), building(5, 1, 1, 8, 7), building(api.MaxTick, 2, 8, 8, 1))
	shows(t, w, m, []api.Rect{rect(2, 8, 8, 1), rect(9, 0, 1, 8), rect(1, 1, 8, 7), rect(0, 8, 2, 1)})
}

// TestPlaceAnyTerrain: buildings stand on every terrain.
func TestPlaceAnyTerrain(t *testing.T) {
	w := world(t, motley(4, 1))
	for x := range api.Terrains {
		place(t, w, building(x+1, x, 0, 1, 1))
	}
}

func TestRaze(t *testing.T) {
	w := world(t, plain(6, 5, building(2, 0, 0, 2, 3), building(4, 3, 3, 3, 2), building(6, 2, 0, 1, 1)))
	for _, id := range []int{-1, 0, 1, 3, 5, 7, api.MaxTick, math.MaxInt, math.MinInt, 1<<32 + 2} {
		if foot, code := w.Raze(id); foot != (api.Rect{}) || code != api.ErrNone {
			t.Errorf("Raze(%d) = %v, error %d", id, foot, code)
		}
	}
	shows(t, w, plain(6, 5, building(2, 0, 0, 2, 3), building(4, 3, 3, 3, 2), building(6, 2, 0, 1, 1)), nil)
	if foot, code := w.Raze(4); foot != rect(3, 3, 3, 2) || code != api.OK {
		t.Errorf("Raze(4) = %v, error %d", foot, code)
	}
	if foot, code := w.Raze(4); foot != (api.Rect{}) || code != api.ErrNone {
		t.Errorf("Raze(4) again = %v, error %d", foot, code)
	}
	if foot, code := w.Raze(2); foot != rect(0, 0, 2, 3) || code != api.OK {
		t.Errorf("Raze(2) = %v, error %d", foot, code)
	}
	shows(t, w, plain(6, 5, building(6, 2, 0, 1, 1)), []api.Rect{rect(3, 3, 3, 2), rect(0, 0, 2, 3)})
	if foot, ok := w.Find(2); foot != (api.Rect{}) || ok {
		t.Errorf("Find of one that is razed = %v, %v", foot, ok)
	}
	place(t, w, building(2, 4, 4, 2, 1))
	shows(t, w, plain(6, 5, building(2, 4, 4, 2, 1), building(6, 2, 0, 1, 1)), []api.Rect{rect(3, 3, 3, 2), rect(0, 0, 2, 3), rect(4, 4, 2, 1)})
}

// Gr3: what the edits turned, maps and copies.

func TestDirty(t *testing.T) {
	w := world(t, plain(6, 5, building(2, 0, 0, 1, 1)))
	for _, epoch := range []int{math.MinInt, -1, 0, 1, math.MaxInt} {
		if got := w.Dirty(epoch); got != nil {
			t.Errorf("Dirty(%d) without edits = %v", epoch, got)
		}
	}
	place(t, w, building(3, 1, 0, 2, 2))
	raze(t, w, 2)
	w.Place(building(3, 4, 4, 1, 1)) // refused
	w.Raze(9)                        // refused
	place(t, w, building(1, 5, 4, 1, 1))
	raze(t, w, 3)
	edits := []api.Rect{rect(1, 0, 2, 2), rect(0, 0, 1, 1), rect(5, 4, 1, 1), rect(1, 0, 2, 2)}
	if w.Epoch() != 4 {
		t.Errorf("Epoch = %d", w.Epoch())
	}
	for epoch := range edits {
		if got := w.Dirty(epoch); !slices.Equal(got, edits[epoch:]) {
			t.Errorf("Dirty(%d) = %v, want %v", epoch, got, edits[epoch:])
		}
	}
	for _, epoch := range []int{-1, -4, math.MinInt, 4, 5, math.MaxInt, 1 << 32} {
		if got := w.Dirty(epoch); got != nil {
			t.Errorf("Dirty(%d) = %v", epoch, got)
		}
	}
}

// spoil turns all that a list has, and the room behind it.
func spoil[T any](l []T, with T) {
	l = l[:cap(l)]
	for i := range l {
		l[i] = with
	}
}

// TestAnswersAreNew turns what Dirty and Map told, and the room behind it, and asks again.
func TestAnswersAreNew(t *testing.T) {
	w := world(t, motley(6, 5, building(2, 0, 0, 1, 1)))
	var edits []api.Rect
	for i := range 5 {
		place(t, w, building(10+i, i, 4, 1, 1))
		edits = append(edits, rect(i, 4, 1, 1))
		want := motley(6, 5, append([]api.Building{building(2, 0, 0, 1, 1)}, w.Map().Built[1:]...)...)
		for epoch := range i + 1 {
			spoil(w.Dirty(epoch), rect(3, 3, 3, 3))
		}
		m := w.Map()
		spoil(m.Tiles, 77)
		spoil(m.Built, building(1, 1, 1, 1, 1))
		for b := range w.Buildings() {
			b.Foot.W = 5
		}
		shows(t, w, want, edits)
	}
	old, oldMap := w.Dirty(1), w.Map()
	raze(t, w, 2)
	raze(t, w, 14)
	if !slices.Equal(old, edits[1:]) || !slices.Equal(oldMap.Built, append([]api.Building{building(2, 0, 0, 1, 1)}, fives()...)) {
		t.Errorf("what was told ahead was turned: %v, %v", old, oldMap.Built)
	}
}

// fives are the five buildings that TestAnswersAreNew places.
func fives() []api.Building {
	var l []api.Building
	for i := range 5 {
		l = append(l, building(10+i, i, 4, 1, 1))
	}
	return l
}

func TestCopy(t *testing.T) {
	m := motley(6, 5, building(2, 0, 0, 1, 1), building(7, 3, 3, 2, 2))
	w := world(t, m)
	place(t, w, building(4, 2, 0, 1, 1))
	raze(t, w, 4)
	place(t, w, building(5, 2, 0, 1, 1))
	raze(t, w, 2)
	place(t, w, building(9, 0, 0, 1, 2))
	raze(t, w, 9)
	place(t, w, building(9, 0, 0, 2, 2))
	raze(t, w, 9)
	place(t, w, building(9, 0, 0, 1, 1))
	raze(t, w, 9)
	v := w.Copy()
	edits := []api.Rect{
		rect(2, 0, 1, 1), rect(2, 0, 1, 1), rect(2, 0, 1, 1), rect(0, 0, 1, 1), rect(0, 0, 1, 2),
		rect(0, 0, 1, 2), rect(0, 0, 2, 2), rect(0, 0, 2, 2), rect(0, 0, 1, 1), rect(0, 0, 1, 1),
	}
	now := motley(6, 5, building(5, 2, 0, 1, 1), building(7, 3, 3, 2, 2))
	shows(t, v, now, edits)

	// Each goes on its own way; what they append may not lie in the same room.
	place(t, v, building(1, 0, 4, 2, 1))
	shows(t, w, now, edits)
	place(t, w, building(8, 0, 4, 1, 1))
	raze(t, w, 7)
	shows(t, v, motley(6, 5, building(1, 0, 4, 2, 1), building(5, 2, 0, 1, 1), building(7, 3, 3, 2, 2)), append(slices.Clone(edits), rect(0, 4, 2, 1)))
	raze(t, v, 5)
	shows(t, w, motley(6, 5, building(5, 2, 0, 1, 1), building(8, 0, 4, 1, 1)), append(slices.Clone(edits), rect(0, 4, 1, 1), rect(3, 3, 2, 2)))

	// A copy's copy, of one without buildings and edits too.
	shows(t, v.Copy().Copy(), v.Map(), v.Dirty(0))
	empty := world(t, plain(2, 1)).Copy()
	shows(t, empty, plain(2, 1), nil)
	place(t, empty, building(1, 0, 0, 1, 1))
}

// Gr4: what follows.

// model is the world by its definition: a list, gone through from its beginning.
type model struct {
	m     api.Map
	edits []api.Rect
}

func (o *model) may(b api.Building) api.Errno {
	f := b.Foot
	switch {
	case b.Id < 1 || b.Id > 2147483647 || f.W < 1 || f.W > 8 || f.H < 1 || f.H > 8,
		f.At.X < 0 || f.At.Y < 0 || f.At.X+f.W > o.m.W || f.At.Y+f.H > o.m.H:
		return api.ErrArg
	case slices.ContainsFunc(o.m.Built, func(a api.Building) bool { return a.Id == b.Id }):
		return api.ErrSame
	case len(o.m.Built) == 256:
		return api.ErrFull
	}
	for _, a := range o.m.Built {
		for _, c := range cells(a.Foot) {
			if slices.Contains(cells(f), c) {
				return api.ErrBusy
			}
		}
	}
	return api.OK
}

func (o *model) place(b api.Building) api.Errno {
	code := o.may(b)
	if code == api.OK {
		o.m.Built = append(o.m.Built, b)
		slices.SortFunc(o.m.Built, func(a, b api.Building) int { return a.Id - b.Id })
		o.edits = append(o.edits, b.Foot)
	}
	return code
}

func (o *model) raze(id int) (api.Rect, api.Errno) {
	for i, b := range o.m.Built {
		if b.Id == id {
			o.m.Built = slices.Delete(o.m.Built, i, i+1)
			o.edits = append(o.edits, b.Foot)
			return b.Foot, api.OK
		}
	}
	return api.Rect{}, api.ErrNone
}

// TestAgainstModel lets a world and its definition go the same way of edits that follow no pattern.
func TestAgainstModel(t *testing.T) {
	for seed := range uint32(6) {
		state := seed*977 + 1
		next := func(n int) int {
			state = state*1664525 + 1013904223
			return int(state>>8) % n
		}
		m := motley(5+next(8), 4+next(8))
		w, o := world(t, m), &model{m: motley(m.W, m.H)}
		for range 400 {
			id := next(14)
			if next(3) == 0 {
				foot, code := w.Raze(id)
				if wantFoot, want := o.raze(id); foot != wantFoot || code != want {
					t.Fatalf("Raze(%d) = %v, error %d, want %v, error %d", id, foot, code, wantFoot, want)
				}
				continue
			}
			b := building(id, next(m.W+1)-1, next(m.H+1)-1, next(4), next(4))
			if may, want := w.May(b), o.may(b); may != want {
				t.Fatalf("May(%v): error %d, want %d", b, may, want)
			}
			if code, want := w.Place(b), o.place(b); code != want {
				t.Fatalf("Place(%v): error %d, want %d", b, code, want)
			}
			if next(8) == 0 {
				w = w.Copy()
			}
		}
		shows(t, w, o.m, o.edits)
	}
}

// TestPlaceAndRaze places each building that may be on a small map, and takes it away.
func TestPlaceAndRaze(t *testing.T) {
	m := motley(5, 4, building(3, 1, 1, 2, 1), building(6, 4, 3, 1, 1))
	w := world(t, m)
	var edits []api.Rect
	for _, c := range cells(rect(0, 0, 5, 4)) {
		for _, size := range cells(rect(1, 1, 5, 4)) {
			b := building(4, c.X, c.Y, size.X, size.Y)
			if w.May(b) != api.OK {
				continue
			}
			place(t, w, b)
			raze(t, w, 4)
			edits = append(edits, b.Foot, b.Foot)
		}
	}
	if len(edits) == 0 {
		t.Fatal("none may be placed")
	}
	shows(t, w, m, edits)
}

func TestWorldOfMap(t *testing.T) {
	w := world(t, motley(9, 7, building(3, 1, 1, 2, 1), building(6, 8, 6, 1, 1)))
	place(t, w, building(1, 3, 3, 4, 2))
	raze(t, w, 3)
	m := w.Map()
	if code := grid.Check(m); code != api.OK {
		t.Errorf("Check of Map's map: error %d", code)
	}
	shows(t, world(t, m), motley(9, 7, building(1, 3, 3, 4, 2), building(6, 8, 6, 1, 1)), nil)
}

// A world that neither New nor Copy gave.

func TestNoWorld(t *testing.T) {
	for name, w := range map[string]*grid.World{"nil": nil, "the zero one": {}} {
		t.Run(name, func(t *testing.T) {
			b := building(1, 0, 0, 1, 1)
			if w.May(b) != api.ErrArg || w.Place(b) != api.ErrArg || w.May(api.Building{}) != api.ErrArg {
				t.Error("May, Place")
			}
			if foot, code := w.Raze(1); foot != (api.Rect{}) || code != api.ErrArg {
				t.Errorf("Raze = %v, error %d", foot, code)
			}
			if n, ok := w.Terrain(at(0, 0)); n != 0 || ok {
				t.Errorf("Terrain = %d, %v", n, ok)
			}
			if id, ok := w.At(at(0, 0)); id != 0 || ok {
				t.Errorf("At = %d, %v", id, ok)
			}
			if foot, ok := w.Find(1); foot != (api.Rect{}) || ok {
				t.Errorf("Find = %v, %v", foot, ok)
			}
			if w.All() != (api.Rect{}) || w.Epoch() != 0 || w.Dirty(0) != nil || w.Dirty(-1) != nil || w.Dirty(1) != nil {
				t.Error("All, Epoch, Dirty")
			}
			if got := all(w); len(got) != 0 {
				t.Errorf("Buildings = %v", got)
			}
			if !sameMap(w.Map(), api.Map{}) || w.Copy() != nil {
				t.Errorf("Map = %v, Copy = %v", w.Map(), w.Copy())
			}
		})
	}
}

func TestExamples(t *testing.T) {
	w := world(t, plain(4, 3))
	if code := w.Place(building(7, 1, 1, 2, 2)); code != api.OK {
		t.Errorf("Place 7: error %d", code)
	}
	if code := w.Place(building(8, 2, 2, 1, 1)); code != api.ErrBusy {
		t.Errorf("Place 8 at 2, 2: error %d", code)
	}
	if code := w.Place(building(8, 3, 2, 2, 1)); code != api.ErrArg {
		t.Errorf("Place 8 at 3, 2: error %d", code)
	}
	if id, ok := w.At(at(2, 2)); id != 7 || !ok {
		t.Errorf("At(2, 2) = %d, %v", id, ok)
	}
}
