package occupy_test

import (
	"math"
	"slices"
	"testing"

	"phalanx/api"
	"phalanx/occupy"
)

const far = api.Far

func at(x, y int) api.Cell { return api.Cell{X: x, Y: y} }

func rect(x, y, w, h int) api.Rect { return api.Rect{At: at(x, y), W: w, H: h} }

// unit is one, and where it stands.
type unit struct {
	id   int
	foot api.Rect
}

// index is one with units.
func index(t *testing.T, units ...unit) *occupy.Index {
	t.Helper()
	x := occupy.New()
	for _, u := range units {
		put(t, x, u.id, u.foot)
	}
	return x
}

func put(t *testing.T, x *occupy.Index, id int, r api.Rect) {
	t.Helper()
	if code := x.Put(id, r); code != api.OK {
		t.Fatalf("Put(%d, %v): error %d", id, r, code)
	}
}

// asks holds an error against the one that is to be told.
func asks(t *testing.T, what string, got, want api.Errno) {
	t.Helper()
	if got != want {
		t.Errorf("%s: error %d, want %d", what, got, want)
	}
}

// all is what All tells.
func all(x *occupy.Index) []unit {
	var l []unit
	for id, foot := range x.All() {
		l = append(l, unit{id, foot})
	}
	return l
}

// cells are those of a small rectangle, by two loops.
func cells(r api.Rect) []api.Cell {
	var l []api.Cell
	for y := r.At.Y; y < r.At.Y+r.H; y++ {
		for x := r.At.X; x < r.At.X+r.W; x++ {
			l = append(l, at(x, y))
		}
	}
	return l
}

// share tells whether two small rectangles have a cell both.
func share(a, b api.Rect) bool {
	return slices.ContainsFunc(cells(a), func(c api.Cell) bool { return slices.Contains(cells(b), c) })
}

// shows holds all that an index tells against the units, by rising numbers, that it is to have.
func shows(t *testing.T, x *occupy.Index, want ...unit) {
	t.Helper()
	if got := all(x); !slices.Equal(got, want) {
		t.Errorf("All = %v, want %v", got, want)
	}
	if x.Len() != len(want) {
		t.Errorf("Len = %d, want %d", x.Len(), len(want))
	}
	who := map[api.Cell]int{}
	for _, u := range want {
		if foot, ok := x.Find(u.id); foot != u.foot || !ok {
			t.Errorf("Find(%d) = %v, %v, want %v", u.id, foot, ok, u.foot)
		}
		for _, c := range cells(u.foot) {
			who[c] = u.id
		}
	}
	for _, u := range want {
		// The cells around it, too: none of them is to have stayed behind.
		around := rect(u.foot.At.X-5, u.foot.At.Y-5, u.foot.W+10, u.foot.H+10)
		for _, c := range cells(around) {
			id, ok := who[c]
			if got, gotOk := x.At(c); got != id || gotOk != ok {
				t.Errorf("At(%v) = %d, %v, want %d, %v", c, got, gotOk, id, ok)
			}
		}
	}
}

// empty asks that none of a rectangle's cells has a unit.
func empty(t *testing.T, x *occupy.Index, r api.Rect) {
	t.Helper()
	for _, c := range cells(r) {
		if id, ok := x.At(c); id != 0 || ok {
			t.Errorf("At(%v) = %d, %v, want none", c, id, ok)
		}
	}
	if !x.Free(r, 0) || len(x.Within(r)) != 0 {
		t.Errorf("Free(%v) = %v, Within %v", r, x.Free(r, 0), x.Within(r))
	}
}

// badRects are rectangles that may not be, by layer 3.
func badRects() []api.Rect {
	return []api.Rect{
		{}, rect(2, 2, 0, 1), rect(2, 2, 1, 0), rect(2, 2, 0, 0), rect(2, 2, -1, 1), rect(2, 2, 1, -1), rect(2, 2, -2, -2),
		rect(far+1, 2, 1, 1), rect(2, far+1, 1, 1), rect(-far-1, 2, 1, 1), rect(2, -far-1, 1, 1),
		rect(far, 2, 2, 1), rect(2, far, 1, 2), rect(far-2, 2, 4, 1), rect(2, far-2, 4, 4), rect(-far-1, 2, 4, 4),
		rect(2, 2, far+1, 1), rect(2, 2, 1, far+1), rect(-far, -far, far+1, 1), rect(2, 2, far, 1), rect(2, 2, 1, far),
		rect(math.MaxInt, 2, 1, 1), rect(math.MinInt, 2, 1, 1), rect(2, math.MaxInt, 4, 4), rect(2, math.MinInt, 4, 4),
		rect(math.MaxInt, math.MaxInt, 4, 4), rect(2, 2, math.MaxInt, 1), rect(2, 2, math.MinInt, 1), rect(2, 2, 1, math.MaxInt), rect(2, 2, 1, math.MinInt),
		rect(2, 2, 1<<32+1, 1), rect(1<<32+2, 2, 1, 1), rect(2, 2, 1<<32, 1<<32), rect(math.MaxInt, math.MaxInt, math.MaxInt, math.MaxInt),
	}
}

// greatRects are rectangles that may be, above what a unit's may be.
func greatRects() []api.Rect {
	return []api.Rect{
		rect(2, 2, 5, 1), rect(2, 2, 1, 5), rect(2, 2, 5, 5), rect(2, 2, 4, 5), rect(2, 2, 5, 4), rect(0, 0, far, 1), rect(0, 0, 1, far),
		rect(0, 0, far, far), rect(-far, -far, far, far), rect(far-4, far-4, 5, 5),
	}
}

// goodRects are rectangles that a unit may just have.
func goodRects() []api.Rect {
	return []api.Rect{
		rect(2, 2, 1, 1), rect(2, 2, 4, 1), rect(2, 2, 1, 4), rect(2, 2, 4, 4), rect(0, 0, 3, 2), rect(-7, -9, 2, 3), rect(-1, -1, 4, 4),
		rect(far, far, 1, 1), rect(far-3, far-3, 4, 4), rect(-far, -far, 4, 4), rect(-far, far, 4, 1), rect(far, -far, 1, 4), rect(-far, -far, 1, 1),
	}
}

// Oc1: who may stand where.

func TestNew(t *testing.T) {
	x := occupy.New()
	if x == nil {
		t.Fatal("New = nil")
	}
	shows(t, x)
	empty(t, x, rect(-3, -3, 9, 9))
	y := occupy.New()
	put(t, x, 1, rect(0, 0, 1, 1))
	shows(t, y)
	empty(t, y, rect(-3, -3, 9, 9))
}

func TestPutGood(t *testing.T) {
	for _, r := range goodRects() {
		x := occupy.New()
		if !x.Free(r, 0) {
			t.Errorf("Free(%v) of an empty one", r)
		}
		put(t, x, 7, r)
		shows(t, x, unit{7, r})
	}
}

// ids are numbers of every kind.
func ids() []int {
	return []int{math.MinInt, math.MinInt + 1, math.MinInt32, -2, -1, 0, 1, 2, math.MaxInt32, math.MaxInt - 1, math.MaxInt}
}

// TestAnyId puts, moves and takes units of any number, put in falling order.
func TestAnyId(t *testing.T) {
	x := occupy.New()
	var want []unit
	for i, id := range slices.Backward(ids()) {
		put(t, x, id, rect(i*3, 0, 2, 2))
		want = slices.Insert(want, 0, unit{id, rect(i*3, 0, 2, 2)})
	}
	shows(t, x, want...)
	for i, u := range want {
		asks(t, "Put again", x.Put(u.id, rect(50, 50, 1, 1)), api.ErrSame)
		asks(t, "Move", x.Move(u.id, at(i*3, 1)), api.OK)
		want[i].foot.At.Y = 1
	}
	shows(t, x, want...)
	for i, u := range want {
		asks(t, "Take", x.Take(u.id), api.OK)
		asks(t, "Take again", x.Take(u.id), api.ErrNone)
		shows(t, x, want[i+1:]...)
	}
}

// TestIdZero: a unit of number 0 is one like others, and is not taken for none.
func TestIdZero(t *testing.T) {
	x := index(t, unit{0, rect(2, 2, 2, 2)})
	if id, ok := x.At(at(3, 3)); id != 0 || !ok {
		t.Errorf("At = %d, %v", id, ok)
	}
	if x.Free(rect(3, 3, 1, 1), 1) || !x.Free(rect(3, 3, 1, 1), 0) {
		t.Error("Free")
	}
	if got := x.Within(rect(0, 0, 9, 9)); !slices.Equal(got, []int{0}) {
		t.Errorf("Within = %v", got)
	}
	asks(t, "Put of 0", x.Put(0, rect(9, 9, 1, 1)), api.ErrSame)
	asks(t, "Put onto it", x.Put(1, rect(3, 3, 1, 1)), api.ErrBusy)
	asks(t, "Put beside it", x.Put(1, rect(4, 3, 1, 1)), api.OK)
	asks(t, "Move onto the other one", x.Move(0, at(3, 2)), api.ErrBusy)
	asks(t, "Move of the other one onto it", x.Move(1, at(3, 3)), api.ErrBusy)
	shows(t, x, unit{0, rect(2, 2, 2, 2)}, unit{1, rect(4, 3, 1, 1)})
}

// TestPutErrArg: of rectangles that may not be, and of great ones, whatever else holds too.
func TestPutErrArg(t *testing.T) {
	units := many(api.MaxUnits)
	for name, want := range map[string][]unit{"empty": nil, "full": units} {
		x := index(t, want...)
		for _, r := range slices.Concat(badRects(), greatRects()) {
			asks(t, name+": Put of one that is there", x.Put(1, r), api.ErrArg)
			asks(t, name+": Put of one that is not", x.Put(-1, r), api.ErrArg)
		}
		shows(t, x, want...)
	}
}

// many are so many units of one cell each, from Id 1 on, 16 a row.
func many(n int) []unit {
	l := make([]unit, n)
	for i := range l {
		l[i] = unit{i + 1, rect(i%16, i/16, 1, 1)}
	}
	return l
}

func TestPutErrSame(t *testing.T) {
	want := []unit{{2, rect(0, 0, 2, 2)}, {5, rect(3, 3, 1, 1)}}
	x := index(t, want...)
	asks(t, "free cells", x.Put(2, rect(6, 6, 1, 1)), api.ErrSame)
	asks(t, "its own cells", x.Put(2, rect(0, 0, 2, 2)), api.ErrSame)
	asks(t, "some of its own cells", x.Put(2, rect(1, 1, 2, 2)), api.ErrSame)
	asks(t, "another one's cells", x.Put(2, rect(3, 3, 1, 1)), api.ErrSame)
	shows(t, x, want...)
}

func TestPutErrFull(t *testing.T) {
	units := many(api.MaxUnits)
	x := index(t, units[:api.MaxUnits-1]...)
	asks(t, "the last, onto one", x.Put(256, rect(0, 0, 1, 1)), api.ErrBusy)
	put(t, x, 256, units[255].foot)
	shows(t, x, units...)
	asks(t, "one more", x.Put(257, rect(40, 40, 1, 1)), api.ErrFull)
	asks(t, "one more, onto one", x.Put(257, rect(0, 0, 1, 1)), api.ErrFull)
	asks(t, "one that is there", x.Put(9, rect(40, 40, 1, 1)), api.ErrSame)
	asks(t, "one that is there, onto one", x.Put(9, rect(0, 0, 4, 4)), api.ErrSame)
	asks(t, "one more, too wide, onto one", x.Put(257, rect(0, 0, 5, 1)), api.ErrArg)
	shows(t, x, units...)
	// Who is there may move, and whose place is left may be another's.
	asks(t, "Move", x.Move(9, at(40, 40)), api.OK)
	asks(t, "one more, where one was", x.Put(257, units[8].foot), api.ErrFull)
	asks(t, "Take", x.Take(9), api.OK)
	asks(t, "onto one", x.Put(257, rect(0, 0, 1, 1)), api.ErrBusy)
	asks(t, "where one was", x.Put(257, units[8].foot), api.OK)
	asks(t, "one more", x.Put(9, rect(40, 40, 1, 1)), api.ErrFull)
	if x.Len() != api.MaxUnits {
		t.Errorf("Len = %d", x.Len())
	}
}

// TestPutErrBusy goes with a rectangle around one that stands: it is refused just where they share a cell.
func TestPutErrBusy(t *testing.T) {
	stands := unit{9, rect(5, 4, 3, 2)}
	for _, size := range []api.Cell{at(1, 1), at(2, 3), at(4, 1), at(1, 4), at(4, 4)} {
		for y := range 11 {
			for x := range 11 {
				i := index(t, stands)
				r, want := rect(x, y, size.X, size.Y), api.OK
				if share(r, stands.foot) {
					want = api.ErrBusy
				}
				if free := i.Free(r, 8); free != (want == api.OK) || !i.Free(r, 9) {
					t.Errorf("Free(%v) = %v, and but for it %v", r, free, i.Free(r, 9))
				}
				asks(t, "Put", i.Put(8, r), want)
				if want == api.OK {
					shows(t, i, unit{8, r}, stands)
				} else {
					shows(t, i, stands)
				}
			}
		}
	}
}

// Free of rectangles above a unit's, and of those that may not be.

func TestFree(t *testing.T) {
	x := index(t, unit{3, rect(2, 2, 2, 2)}, unit{-4, rect(6, 2, 1, 4)}, unit{0, rect(-5, -5, 4, 4)})
	for _, c := range []struct {
		r    api.Rect
		but  int
		want bool
	}{
		{rect(2, 2, 2, 2), 3, true}, {rect(2, 2, 2, 2), 4, false}, {rect(2, 2, 2, 2), -4, false}, {rect(2, 2, 2, 2), 0, false},
		{rect(3, 3, 4, 4), 3, false}, {rect(3, 3, 4, 4), -4, false}, {rect(3, 3, 3, 3), 3, true},
		{rect(4, 2, 2, 4), 0, true}, {rect(4, 2, 2, 4), 99, true},
		{rect(4, 0, 2, 9), 99, true}, {rect(3, 0, 3, 9), 99, false}, {rect(3, 0, 3, 9), 3, true}, {rect(4, 0, 3, 9), 3, false}, {rect(4, 0, 3, 9), -4, true},
		{rect(2, 2, 5, 5), 3, false}, {rect(2, 2, 5, 5), -4, false},
		{rect(0, 0, far, far), 3, false}, {rect(7, 0, far-6, far), 3, true}, {rect(-far, -far, far, far), 3, false}, {rect(-far, -far, far, far), 0, true},
		{rect(-1, -1, 1, 1), 99, true}, {rect(-2, -2, 1, 1), 99, false}, {rect(-2, -2, 1, 1), 0, true}, {rect(-6, -5, 1, 4), 99, true},
	} {
		if got := x.Free(c.r, c.but); got != c.want {
			t.Errorf("Free(%v, %d) = %v, want %v", c.r, c.but, got, c.want)
		}
	}
	for _, r := range badRects() {
		for _, but := range []int{3, -4, 0, 99} {
			if x.Free(r, but) || occupy.New().Free(r, but) {
				t.Errorf("Free(%v, %d) of one that may not be", r, but)
			}
		}
	}
	for _, r := range slices.Concat(goodRects(), greatRects()) {
		if !occupy.New().Free(r, 0) {
			t.Errorf("Free(%v) of an empty one", r)
		}
	}
}

func TestMove(t *testing.T) {
	other := unit{2, rect(10, 10, 2, 2)}
	x := index(t, unit{1, rect(4, 4, 3, 2)}, other)
	for _, to := range []api.Cell{
		at(5, 4), at(4, 4), at(4, 5), at(5, 6), at(4, 4), at(4, 4), at(20, 30), at(-9, -9), at(-far, -far), at(far-2, far-1), at(far-2, far-2), at(-far, far-1),
		at(7, 10), at(7, 11), at(12, 10), at(11, 12), at(10, 12), at(9, 8),
	} {
		from, _ := x.Find(1)
		asks(t, "Move", x.Move(1, to), api.OK)
		shows(t, x, unit{1, rect(to.X, to.Y, 3, 2)}, other)
		for _, c := range cells(from) {
			if id, ok := x.At(c); ok != slices.Contains(cells(rect(to.X, to.Y, 3, 2)), c) || ok && id != 1 {
				t.Errorf("At(%v) behind Move to %v = %d, %v", c, to, id, ok)
			}
		}
	}
}

func TestMoveRefused(t *testing.T) {
	want := []unit{{1, rect(4, 4, 3, 2)}, {2, rect(10, 10, 2, 2)}}
	x := index(t, want...)
	for _, id := range []int{0, 3, -1, math.MaxInt, math.MinInt, 1<<32 + 1} {
		asks(t, "none, to free cells", x.Move(id, at(0, 0)), api.ErrNone)
		asks(t, "none, onto one", x.Move(id, at(4, 4)), api.ErrNone)
		asks(t, "none, to where nobody may be", x.Move(id, at(far+1, 0)), api.ErrNone)
	}
	for _, to := range []api.Cell{
		at(far-1, 0), at(0, far), at(far, far), at(far+1, 0), at(-far-1, 0), at(0, -far-1),
		at(math.MaxInt, 0), at(math.MinInt, 0), at(0, math.MaxInt), at(0, math.MinInt), at(math.MaxInt, math.MaxInt), at(1<<32+4, 4),
	} {
		asks(t, "to where it may not be", x.Move(1, to), api.ErrArg)
	}
	for _, to := range []api.Cell{at(8, 9), at(11, 9), at(11, 11), at(8, 11), at(10, 10), at(9, 10)} {
		asks(t, "onto one", x.Move(1, to), api.ErrBusy)
	}
	for _, to := range []api.Cell{at(3, 3), at(6, 5), at(5, 4)} {
		asks(t, "onto the other one", x.Move(2, to), api.ErrBusy)
	}
	shows(t, x, want...)
}

// TestMoveInTurn lets two units that stand side by side go one behind the other.
func TestMoveInTurn(t *testing.T) {
	x := index(t, unit{1, rect(0, 0, 2, 2)}, unit{2, rect(2, 0, 2, 2)})
	asks(t, "onto the other one", x.Move(1, at(1, 0)), api.ErrBusy)
	asks(t, "the other one goes", x.Move(2, at(3, 0)), api.OK)
	asks(t, "to what it left", x.Move(1, at(1, 0)), api.OK)
	shows(t, x, unit{1, rect(1, 0, 2, 2)}, unit{2, rect(3, 0, 2, 2)})
	asks(t, "Put to what is left", x.Put(3, rect(0, 0, 1, 2)), api.OK)
}

func TestTake(t *testing.T) {
	x := index(t, unit{1, rect(4, 4, 3, 2)}, unit{2, rect(7, 4, 2, 2)})
	for _, id := range []int{0, 3, -1, math.MaxInt, math.MinInt, 1<<32 + 1} {
		asks(t, "none", x.Take(id), api.ErrNone)
	}
	shows(t, x, unit{1, rect(4, 4, 3, 2)}, unit{2, rect(7, 4, 2, 2)})
	asks(t, "Take", x.Take(1), api.OK)
	shows(t, x, unit{2, rect(7, 4, 2, 2)})
	empty(t, x, rect(4, 4, 3, 2))
	if foot, ok := x.Find(1); foot != (api.Rect{}) || ok {
		t.Errorf("Find of one that was taken = %v, %v", foot, ok)
	}
	asks(t, "Take again", x.Take(1), api.ErrNone)
	asks(t, "Move behind Take", x.Move(1, at(0, 0)), api.ErrNone)
	asks(t, "another one on its cells", x.Put(5, rect(3, 3, 4, 4)), api.OK)
	asks(t, "back to its cells", x.Put(1, rect(4, 4, 3, 2)), api.ErrBusy)
	asks(t, "back elsewhere", x.Put(1, rect(0, 0, 1, 1)), api.OK)
	shows(t, x, unit{1, rect(0, 0, 1, 1)}, unit{2, rect(7, 4, 2, 2)}, unit{5, rect(3, 3, 4, 4)})
}

// Oc2: what an index tells.

func TestAtNone(t *testing.T) {
	x := index(t, unit{5, rect(0, 0, 2, 2)}, unit{6, rect(far, far, 1, 1)}, unit{7, rect(-far, -far, 1, 1)})
	for _, c := range []api.Cell{
		at(-1, 0), at(0, -1), at(2, 0), at(0, 2), at(far+1, far), at(far, far+1), at(-far-1, -far),
		at(math.MaxInt, 0), at(math.MinInt, 0), at(0, math.MaxInt), at(math.MinInt, math.MinInt), at(1<<32, 0), at(0, 1<<32),
	} {
		if id, ok := x.At(c); id != 0 || ok {
			t.Errorf("At(%v) = %d, %v", c, id, ok)
		}
	}
	for _, id := range []int{0, 4, 8, -5, math.MaxInt, math.MinInt, 1<<32 + 5} {
		if foot, ok := x.Find(id); foot != (api.Rect{}) || ok {
			t.Errorf("Find(%d) = %v, %v", id, foot, ok)
		}
	}
}

func TestAllLeftEarly(t *testing.T) {
	want := many(9)
	x := occupy.New()
	for _, u := range slices.Backward(want) {
		put(t, x, u.id, u.foot)
	}
	seq := x.All()
	for n := range 9 {
		var got []unit
		for id, foot := range seq {
			got = append(got, unit{id, foot})
			if len(got) == n+1 {
				break
			}
		}
		if !slices.Equal(got, want[:n+1]) {
			t.Errorf("the first %d: %v", n+1, got)
		}
	}
	put(t, x, -3, rect(8, 8, 1, 1))
	n := 0
	for id := range seq {
		if n == 0 && id != -3 {
			t.Errorf("a loop that begins later: %d first", id)
		}
		n++
	}
	if n != 10 {
		t.Errorf("a loop that begins later: %d units", n)
	}
	for id := range occupy.New().All() {
		t.Errorf("of an empty one: %d", id)
	}
}

// TestAllTurned moves, takes and puts units in the loop, which goes on through those that were there.
func TestAllTurned(t *testing.T) {
	want := many(9)
	x := index(t, want...)
	var got []unit
	for id, foot := range x.All() {
		got = append(got, unit{id, foot})
		asks(t, "Take", x.Take(id), api.OK)
		put(t, x, id+100, rect(0, id+20, 1, 1))
		if id < 9 {
			asks(t, "Move", x.Move(id+1, at(30, id)), api.OK)
		}
	}
	if !slices.Equal(got, want) {
		t.Errorf("gone through: %v", got)
	}
}

func TestWithin(t *testing.T) {
	// The Ids fall from left to right, so that neither the order of cells nor that of Put is theirs.
	x := index(t, unit{9, rect(0, 0, 2, 2)}, unit{4, rect(3, 0, 2, 2)}, unit{-1, rect(6, 0, 4, 4)}, unit{0, rect(0, 4, 4, 4)}, unit{math.MinInt, rect(far, far, 1, 1)})
	for _, c := range []struct {
		r    api.Rect
		want []int
	}{
		{rect(2, 0, 1, 4), nil}, {rect(2, 2, 4, 2), nil}, {rect(-4, -4, 4, 4), nil}, {rect(4, 4, 9, 9), nil}, {rect(-far, -far, far, far), nil},
		{rect(1, 1, 1, 1), []int{9}}, {rect(1, 1, 2, 3), []int{9}}, {rect(-3, -3, 4, 4), []int{9}}, {rect(1, 1, 3, 3), []int{4, 9}},
		{rect(1, 1, 4, 4), []int{0, 4, 9}}, {rect(1, 1, 6, 4), []int{-1, 0, 4, 9}}, {rect(0, 0, 10, 8), []int{-1, 0, 4, 9}},
		{rect(4, 1, 3, 1), []int{-1, 4}}, {rect(9, 3, 5, 5), []int{-1}}, {rect(3, 4, 7, 1), []int{0}}, {rect(3, 3, 4, 2), []int{-1, 0}},
		{rect(0, 0, 128, 128), []int{-1, 0, 4, 9}}, {rect(0, 0, 256, 256), []int{-1, 0, 4, 9}},
		{rect(7, 1, 1, 1), []int{-1}}, {rect(0, 1, 10, 1), []int{-1, 4, 9}}, {rect(6, 0, 4, 4), []int{-1}}, {rect(6, 0, 5, 4), []int{-1}},
		{rect(far, far, 1, 1), []int{math.MinInt}}, {rect(far-9, far-9, 10, 10), []int{math.MinInt}},
	} {
		if got := x.Within(c.r); !slices.Equal(got, c.want) {
			t.Errorf("Within(%v) = %v, want %v", c.r, got, c.want)
		}
	}
	for _, r := range badRects() {
		if got := x.Within(r); len(got) != 0 {
			t.Errorf("Within(%v) of one that may not be = %v", r, got)
		}
	}
	for _, r := range greatRects() {
		x.Within(r) // it ends
	}
}

// TestWithinIsNew turns what Within told, and the room behind it, and asks again.
func TestWithinIsNew(t *testing.T) {
	want := many(20)
	x := index(t, want...)
	for _, r := range []api.Rect{rect(0, 0, 16, 16), rect(0, 0, 2, 2), rect(3, 0, 1, 1), rect(30, 30, 5, 5)} {
		first := x.Within(r)
		old := slices.Clone(first)
		l := first[:cap(first)]
		for i := range l {
			l[i] = -77
		}
		if got := x.Within(r); !slices.Equal(got, old) {
			t.Errorf("Within(%v) behind the turn = %v, want %v", r, got, old)
		}
	}
	shows(t, x, want...)
	told := x.Within(rect(0, 0, 3, 1))
	asks(t, "Take", x.Take(2), api.OK)
	if !slices.Equal(told, []int{1, 2, 3}) {
		t.Errorf("what was told ahead was turned: %v", told)
	}
}

// Oc3: what follows.

// model is the index by its definition: a list, gone through from its beginning.
type model []unit

// place is where in the list a unit is; -1: it is not there.
func (m model) place(id int) int {
	return slices.IndexFunc(m, func(u unit) bool { return u.id == id })
}

// free asks of rectangles that may be.
func (m model) free(r api.Rect, but int) bool {
	return !slices.ContainsFunc(m, func(u unit) bool { return u.id != but && share(u.foot, r) })
}

func (m *model) put(id int, r api.Rect) api.Errno {
	switch {
	case r.W < 1 || r.H < 1 || r.W > 4 || r.H > 4:
		return api.ErrArg
	case m.place(id) >= 0:
		return api.ErrSame
	case len(*m) == 256:
		return api.ErrFull
	case !m.free(r, id):
		return api.ErrBusy
	}
	*m = append(*m, unit{id, r})
	slices.SortFunc(*m, func(a, b unit) int { return a.id - b.id })
	return api.OK
}

func (m model) move(id int, to api.Cell) api.Errno {
	i := m.place(id)
	if i < 0 {
		return api.ErrNone
	}
	there := rect(to.X, to.Y, m[i].foot.W, m[i].foot.H)
	if !m.free(there, id) {
		return api.ErrBusy
	}
	m[i].foot = there
	return api.OK
}

func (m *model) take(id int) api.Errno {
	i := m.place(id)
	if i < 0 {
		return api.ErrNone
	}
	*m = slices.Delete(*m, i, i+1)
	return api.OK
}

func (m model) within(r api.Rect) []int {
	var l []int
	for _, u := range m {
		if share(u.foot, r) {
			l = append(l, u.id)
		}
	}
	return l
}

// dice are numbers of no pattern, the same each time.
type dice uint64

// to is a number of 0 to n - 1.
func (d *dice) to(n int) int {
	*d = *d*6364136223846793005 + 1442695040888963407
	return int(uint64(*d)>>33) % n
}

// rect is one on or around a board of that side, sometimes above or below a unit's sides.
func (d *dice) rect(side int) api.Rect {
	return rect(d.to(side)-2, d.to(side)-2, d.to(6), d.to(6))
}

// do does one thing, to both, and tells both errors.
func (d *dice) do(x *occupy.Index, m *model, ids, side int) (got, want api.Errno) {
	id := d.to(ids) - ids/2
	switch d.to(6) {
	case 0, 1:
		r := d.rect(side)
		return x.Put(id, r), m.put(id, r)
	case 2, 3, 4:
		to := at(d.to(side)-2, d.to(side)-2)
		return x.Move(id, to), m.move(id, to)
	default:
		return x.Take(id), m.take(id)
	}
}

// TestModel does things of no pattern, and holds the index against the list each time.
func TestModel(t *testing.T) {
	for seed, side := range []int{6, 9, 14, 30} {
		d := dice(seed)
		x, m := occupy.New(), model{}
		seen := map[api.Errno]int{}
		for range 1500 {
			got, want := d.do(x, &m, 24, side)
			if got != want {
				t.Fatalf("error %d, want %d, with %v", got, want, m)
			}
			seen[got]++
			r, but := d.rect(side), d.to(24)-12
			r.W, r.H = r.W+d.to(2)*side/2, r.H+d.to(2)*side/2
			may := r.W > 0 && r.H > 0
			if free := x.Free(r, but); free != (may && m.free(r, but)) {
				t.Fatalf("Free(%v, %d) = %v with %v", r, but, free, m)
			}
			if l := x.Within(r); may && !slices.Equal(l, m.within(r)) || !may && len(l) > 0 {
				t.Fatalf("Within(%v) = %v with %v", r, l, m)
			}
			holds(t, x, m, side)
		}
		for _, code := range []api.Errno{api.OK, api.ErrArg, api.ErrSame, api.ErrBusy, api.ErrNone} {
			if seen[code] < 5 {
				t.Errorf("side %d: error %d was told just %d times", side, code, seen[code])
			}
		}
	}
}

// holds is shows of the list, over all of the board, where no cell is to have two units.
func holds(t *testing.T, x *occupy.Index, m model, side int) {
	t.Helper()
	if got := all(x); !slices.Equal(got, m) || x.Len() != len(m) {
		t.Fatalf("All = %v, Len %d, want %v", got, x.Len(), m)
	}
	board := rect(-3, -3, side+9, side+9)
	who := make(map[api.Cell]int, board.W*board.H)
	for id, foot := range x.All() {
		for _, c := range cells(foot) {
			if other, ok := who[c]; ok {
				t.Fatalf("%v has %d and %d", c, other, id)
			}
			who[c] = id
		}
	}
	for _, c := range cells(board) {
		id, ok := who[c]
		if got, gotOk := x.At(c); got != id || gotOk != ok {
			t.Fatalf("At(%v) = %d, %v, want %d, %v", c, got, gotOk, id, ok)
		}
	}
}

// TestSameCalls: the same calls make the same answers, whatever order a map is gone through in.
func TestSameCalls(t *testing.T) {
	for range 20 {
		x := occupy.New()
		for i, u := range many(200) {
			put(t, x, (i*77)%200, u.foot)
		}
		got, l := all(x), x.Within(rect(0, 0, 16, 16))
		for i := range 200 {
			if got[i].id != i || l[i] != i {
				t.Fatalf("the %d. is %d and %d", i, got[i].id, l[i])
			}
		}
	}
}

// An Index that New did not give.
func TestNotMade(t *testing.T) {
	var zero occupy.Index
	for name, x := range map[string]*occupy.Index{"nil": nil, "zero": &zero, "new": new(occupy.Index)} {
		t.Run(name, func(t *testing.T) {
			one := rect(0, 0, 1, 1)
			for range 2 {
				asks(t, "Put", x.Put(1, one), api.ErrArg)
				asks(t, "Put", x.Put(1, api.Rect{}), api.ErrArg)
				asks(t, "Move", x.Move(1, at(1, 1)), api.ErrArg)
				asks(t, "Take", x.Take(1), api.ErrArg)
			}
			if x.Free(one, 0) || x.Free(rect(0, 0, 9, 9), 0) || x.Free(api.Rect{}, 0) {
				t.Error("Free")
			}
			if id, ok := x.At(at(0, 0)); id != 0 || ok {
				t.Errorf("At = %d, %v", id, ok)
			}
			if foot, ok := x.Find(1); foot != (api.Rect{}) || ok {
				t.Errorf("Find = %v, %v", foot, ok)
			}
			if l := x.Within(rect(0, 0, 9, 9)); len(l) != 0 || x.Len() != 0 {
				t.Errorf("Within = %v, Len = %d", l, x.Len())
			}
			if len(x.Within(one)) != 0 || len(all(x)) != 0 {
				t.Error("there are units")
			}
		})
	}
}

func TestExamples(t *testing.T) {
	x := occupy.New()
	asks(t, "Put 1", x.Put(1, rect(2, 2, 2, 2)), api.OK)
	asks(t, "Put 2", x.Put(2, rect(3, 3, 2, 2)), api.ErrBusy)
	asks(t, "Put 2, of one cell", x.Put(2, rect(3, 3, 1, 1)), api.ErrBusy)
	asks(t, "Move 1", x.Move(1, at(3, 2)), api.OK)
	shows(t, x, unit{1, rect(3, 2, 2, 2)})
}
