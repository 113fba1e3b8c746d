package cache_test

import (
	"iter"
	"math"
	"slices"
	"testing"

	"phalanx/api"
	"phalanx/cache"
)

const far = api.Far

// numbers are of every kind: at the ends of the integers, at the bounds of cells and shapes, and such as are alike in their lower 32 bits.
var numbers = []int{math.MinInt, math.MinInt + 1, math.MinInt/2 - 1, math.MinInt32 - 1, math.MinInt32, -1<<32 + 1, -far - 1, -far, -257, -2, -1,
	0, 1, 2, 3, 4, 5, 255, 256, 257, far, far + 1, math.MaxInt32, math.MaxInt32 + 1, 1 << 32, 1<<32 + 1, math.MaxInt / 2, math.MaxInt - 1, math.MaxInt}

func at(x, y int) api.Cell { return api.Cell{X: x, Y: y} }

// key is one of many.
func key(n int) api.WayKey {
	return api.WayKey{Shape: api.Shape{Class: api.Foot, Size: 1}, To: at(n, 0)}
}

// cells is a list of X and Y, one behind the other.
func cells(numbers ...int) []api.Cell {
	var l []api.Cell
	for i := 0; i < len(numbers); i += 2 {
		l = append(l, at(numbers[i], numbers[i+1]))
	}
	return l
}

// row is so many cells.
func row(n int) []api.Cell {
	l := make([]api.Cell, n)
	for i := range l {
		l[i] = at(i, -i)
	}
	return l
}

// way is one of an outcome, with cells of X and Y.
func way(outcome int, numbers ...int) api.Way {
	return api.Way{Outcome: outcome, Cells: cells(numbers...)}
}

// kept is a way, and its key.
type kept struct {
	key api.WayKey
	way api.Way
}

// each is a way of each key number, told from others by its outcome and cell.
func each(keys ...int) []kept {
	var l []kept
	for _, n := range keys {
		l = append(l, kept{key(n), way(n, n, n+1)})
	}
	return l
}

// sameWay holds two ways against each other: nil and the empty list are the same.
func sameWay(a, b api.Way) bool {
	return a.Outcome == b.Outcome && slices.Equal(a.Cells, b.Cells)
}

func sameKept(a, b kept) bool { return a.key == b.key && sameWay(a.way, b.way) }

// made is a cache with room for so many, with ways that were put at an epoch.
func made(t *testing.T, room, epoch int, ways ...kept) *cache.Cache {
	t.Helper()
	c, code := cache.New(room)
	if code != api.OK || c == nil {
		t.Fatalf("New(%d) = %v, error %d", room, c, code)
	}
	put(t, c, epoch, ways...)
	return c
}

func put(t *testing.T, c *cache.Cache, epoch int, ways ...kept) {
	t.Helper()
	for _, x := range ways {
		if code := c.Put(x.key, epoch, x.way); code != api.OK {
			t.Fatalf("Put(%v, %d): error %d", x.key, epoch, code)
		}
	}
}

// gets asks for a key's way.
func gets(t *testing.T, c *cache.Cache, k api.WayKey, epoch int, want api.Way) {
	t.Helper()
	if got, ok := c.Get(k, epoch); !ok || !sameWay(got, want) {
		t.Errorf("Get(%v, %d) = %v, %v, want %v", k, epoch, got, ok, want)
	}
}

// lacks asks that there is no way of a key.
func lacks(t *testing.T, c *cache.Cache, k api.WayKey, epoch int) {
	t.Helper()
	if got, ok := c.Get(k, epoch); ok || got.Outcome != 0 || len(got.Cells) > 0 {
		t.Errorf("Get(%v, %d) = %v, %v, want none", k, epoch, got, ok)
	}
}

// told is what a loop tells.
func told(seq iter.Seq2[api.WayKey, api.Way]) []kept {
	var l []kept
	for k, w := range seq {
		l = append(l, kept{k, w})
	}
	return l
}

// shows holds all that a cache tells against the ways that it is to have, the oldest first, and asks twice: asking turns nothing.
func shows(t *testing.T, c *cache.Cache, epoch int, want ...kept) {
	t.Helper()
	for range 2 {
		if c.Len() != len(want) {
			t.Errorf("Len = %d, want %d", c.Len(), len(want))
		}
		if got := told(c.All()); !slices.EqualFunc(got, want, sameKept) {
			t.Errorf("All = %v, want %v", got, want)
		}
		for _, x := range want {
			gets(t, c, x.key, epoch, x.way)
			for _, other := range []int{epoch + 1, epoch - 1, -epoch - 1, epoch + 1<<32, ^epoch} {
				lacks(t, c, x.key, other)
			}
		}
	}
}

// The chapter's example.

func TestExample(t *testing.T) {
	c := made(t, 2, 0, each(1, 2, 3)...)
	shows(t, c, 0, each(2, 3)...)
	lacks(t, c, key(1), 0)
	put(t, c, 0, kept{key(2), way(9)})
	shows(t, c, 0, kept{key(2), way(9)}, each(3)[0])
	put(t, c, 0, each(4)...)
	lacks(t, c, key(2), 0)
	shows(t, c, 0, each(3, 4)...)
}

// Ca1: New.

func TestNewRefused(t *testing.T) {
	for _, room := range append([]int{-256, 258, 512, 1<<32 + 256, 1<<40 + 2, -1<<32 + 256}, numbers...) {
		if 1 <= room && room <= 256 {
			continue
		}
		if c, code := cache.New(room); c != nil || code != api.ErrArg {
			t.Errorf("New(%d) = %v, error %d", room, c, code)
		}
	}
}

func TestNewIsEmpty(t *testing.T) {
	for _, room := range []int{1, 2, 255, 256} {
		c := made(t, room, 0)
		shows(t, c, 0)
		for _, n := range numbers {
			lacks(t, c, key(n), 0)
			lacks(t, c, key(0), n)
			lacks(t, c, api.WayKey{}, n)
		}
		shows(t, c, 0)
	}
}

// TestRoom fills caches of every room, and puts more than there is room for.
func TestRoom(t *testing.T) {
	for room := 1; room <= api.MaxCache; room++ {
		c := made(t, room, 0)
		for n := range room {
			put(t, c, 0, each(n)...)
			if c.Len() != n+1 {
				t.Fatalf("Len = %d behind %d ways in a room of %d", c.Len(), n+1, room)
			}
			gets(t, c, key(0), 0, way(0, 0, 1))
		}
		put(t, c, 0, each(room)...)
		lacks(t, c, key(0), 0)
		if c.Len() != room {
			t.Fatalf("Len = %d with one more than a room of %d", c.Len(), room)
		}
		for n := 1; n <= room; n++ {
			gets(t, c, key(n), 0, way(n, n, n+1))
		}
	}
}

// TestManyTurns goes round a cache several times.
func TestManyTurns(t *testing.T) {
	for _, room := range []int{1, 2, 3, 7, 255, 256} {
		c := made(t, room, 3)
		var want []kept
		for n := range 3*room + 5 {
			put(t, c, 3, each(n)...)
			want = append(want, each(n)...)
			want = want[max(0, len(want)-room):]
			lacks(t, c, key(n-room), 3)
			lacks(t, c, key(n+1), 3)
			if n%room < 3 {
				shows(t, c, 3, want...)
			}
		}
		shows(t, c, 3, want...)
	}
}

// Ca1: Put.

func TestPutNew(t *testing.T) {
	c := made(t, 3, 0, each(5)...)
	shows(t, c, 0, each(5)...)
	put(t, c, 0, each(2)...)
	shows(t, c, 0, each(5, 2)...)
	// The last place.
	put(t, c, 0, each(9)...)
	shows(t, c, 0, each(5, 2, 9)...)
	// None.
	put(t, c, 0, each(7)...)
	shows(t, c, 0, each(2, 9, 7)...)
	put(t, c, 0, each(1)...)
	shows(t, c, 0, each(9, 7, 1)...)
	// One that went comes back as the youngest.
	put(t, c, 0, each(5)...)
	shows(t, c, 0, each(7, 1, 5)...)
}

// TestPutAnew: a key that is there keeps its place, whichever it is, with room and with none.
func TestPutAnew(t *testing.T) {
	for _, room := range []int{4, 5, 256} {
		for place := range 4 {
			c := made(t, room, 0, each(10, 11, 12, 13)...)
			want := each(10, 11, 12, 13)
			for _, w := range []api.Way{way(77, 1, 2, 3, 4), way(78), way(10+place, 5, 5), want[place].way, want[place].way} {
				want[place].way = w
				put(t, c, 0, want[place])
				shows(t, c, 0, want...)
			}
			// Its place is as old as it was: what goes first shows it.
			put(t, c, 0, each(20, 21, 22, 23)...)
			want = append(want, each(20, 21, 22, 23)...)
			shows(t, c, 0, want[max(0, len(want)-room):]...)
		}
	}
}

func TestPutAnewInARoomOfOne(t *testing.T) {
	c := made(t, 1, 0, each(1)...)
	put(t, c, 0, kept{key(1), way(8, 8, 8)})
	shows(t, c, 0, kept{key(1), way(8, 8, 8)})
	put(t, c, 0, each(2)...)
	shows(t, c, 0, each(2)...)
	lacks(t, c, key(1), 0)
}

// TestPutOtherEpoch: all ways go, and the epoch is the cache's, whether it is higher or lower, and whatever key is put.
func TestPutOtherEpoch(t *testing.T) {
	for _, from := range numbers {
		for _, to := range numbers {
			if from == to {
				continue
			}
			for _, room := range []int{1, 3, 5} {
				for _, n := range []int{1, 3, 9} {
					c := made(t, room, from, each(1, 2, 3)...)
					put(t, c, to, kept{key(n), way(50, 6, 7)})
					for _, other := range []int{1, 2, 3} {
						lacks(t, c, key(other), from)
						if other != n {
							lacks(t, c, key(other), to)
						}
					}
					gets(t, c, key(n), to, way(50, 6, 7))
					if c.Len() != 1 {
						t.Fatalf("Len = %d behind a Put at %d, and at %d ahead", c.Len(), to, from)
					}
				}
			}
		}
	}
}

// TestBackToAnEpoch: what went with an epoch does not come back with it.
func TestBackToAnEpoch(t *testing.T) {
	c := made(t, 3, 0, each(1, 2, 3)...)
	put(t, c, 1, each(4)...)
	shows(t, c, 1, each(4)...)
	put(t, c, 0, each(5)...)
	shows(t, c, 0, each(5)...)
	for n := 1; n <= 4; n++ {
		lacks(t, c, key(n), 0)
		lacks(t, c, key(n), 1)
	}
	// The room is whole, and its oldest is of this epoch.
	put(t, c, 0, each(3, 2)...)
	shows(t, c, 0, each(5, 3, 2)...)
	put(t, c, 0, each(1)...)
	shows(t, c, 0, each(3, 2, 1)...)
}

// TestNewIsOfEpochZero: a Put at epoch 0 lets nothing go, one at another epoch does.
func TestNewIsOfEpochZero(t *testing.T) {
	c := made(t, 4, 0, each(1, 2)...)
	shows(t, c, 0, each(1, 2)...)
	for _, epoch := range numbers {
		if epoch != 0 {
			lacks(t, c, key(1), epoch)
		}
	}
	c = made(t, 4, 0)
	put(t, c, -1, each(1)...)
	shows(t, c, -1, each(1)...)
	put(t, c, 0, each(2)...)
	shows(t, c, 0, each(2)...)
}

func TestManyEpochs(t *testing.T) {
	c := made(t, 2, 0)
	for _, epoch := range append(slices.Clone(numbers), 0, 1, 0, -1) {
		put(t, c, epoch, each(1, 2, 3)...)
		shows(t, c, epoch, each(2, 3)...)
	}
}

// Ca1: Get.

// TestGetTurnsNothing: neither a way that is told, nor one that is not, nor another epoch turns a place or the epoch.
func TestGetTurnsNothing(t *testing.T) {
	for _, epoch := range []int{0, 6, -6} {
		c := made(t, 3, epoch, each(1, 2, 3)...)
		for _, n := range numbers {
			c.Get(key(1), epoch)
			c.Get(key(1), n)
			c.Get(key(n), epoch)
			c.Get(key(n), n)
		}
		shows(t, c, epoch, each(1, 2, 3)...)
		// The oldest is the one that was put first, however often it was asked for.
		put(t, c, epoch, each(4)...)
		shows(t, c, epoch, each(2, 3, 4)...)
	}
}

func TestGetAtAnotherEpoch(t *testing.T) {
	for _, epoch := range numbers {
		c := made(t, 3, epoch, each(1, 2)...)
		for _, other := range numbers {
			if other == epoch {
				gets(t, c, key(1), other, way(1, 1, 2))
			} else {
				lacks(t, c, key(1), other)
			}
		}
		gets(t, c, key(2), epoch, way(2, 2, 3))
	}
}

// Keys.

// fields are the numbers of a key.
func fields(k *api.WayKey) []*int {
	return []*int{&k.Shape.Class, &k.Shape.Size, &k.From.X, &k.From.Y, &k.To.X, &k.To.Y}
}

// nearby is a key, and keys that differ from it in one number alone.
func nearby(base api.WayKey) []api.WayKey {
	l := []api.WayKey{base}
	for i := range fields(&base) {
		for _, by := range []int{1, -1, 8, 256, 1 << 20, 1 << 31, 1 << 32, math.MinInt} {
			k := base
			*fields(&k)[i] += by
			l = append(l, k)
		}
	}
	return l
}

// apart puts a way of each key, and asks that none was taken for another one.
func apart(t *testing.T, keys []api.WayKey) {
	t.Helper()
	c := made(t, api.MaxCache, 0)
	var want []kept
	for i, k := range keys {
		lacks(t, c, k, 0)
		want = append(want, kept{k, way(i, i, -i)})
		put(t, c, 0, want[i])
	}
	shows(t, c, 0, want...)
	for i := range want {
		want[i].way = way(-i, 1, i)
		put(t, c, 0, want[i])
	}
	shows(t, c, 0, want...)
}

func TestKeysOfOneOtherNumber(t *testing.T) {
	apart(t, nearby(api.WayKey{}))
	apart(t, nearby(api.WayKey{Shape: api.Shape{Class: api.Hover, Size: 4}, From: at(3, 9), To: at(100, 7)}))
	apart(t, nearby(api.WayKey{Shape: api.Shape{Class: -1, Size: math.MaxInt}, From: at(math.MinInt, far), To: at(-far-1, -1)}))
}

func TestKeysOfNumbersInOtherPlaces(t *testing.T) {
	var keys []api.WayKey
	// One number that is not 0, in each place, and the same six numbers, begun at each.
	for i := range 6 {
		var one, turned api.WayKey
		*fields(&one)[i] = 1
		for j := range 6 {
			*fields(&turned)[j] = 1 + (i+j)%6
		}
		keys = append(keys, one, turned)
	}
	// Start and goal, X and Y, class and size the other way round.
	keys = append(keys,
		api.WayKey{Shape: api.Shape{Class: 2, Size: 1}, From: at(3, 4), To: at(5, 6)},
		api.WayKey{Shape: api.Shape{Class: 1, Size: 2}, From: at(4, 3), To: at(5, 6)},
		api.WayKey{Shape: api.Shape{Class: 1, Size: 2}, From: at(3, 4), To: at(6, 5)},
		api.WayKey{Shape: api.Shape{Class: 1, Size: 2}, From: at(5, 6), To: at(3, 4)},
		// Numbers whose sum, or whose texts one behind the other, are alike.
		api.WayKey{From: at(1, 23)}, api.WayKey{From: at(12, 3)}, api.WayKey{From: at(123, 0)}, api.WayKey{From: at(-1, 1)}, api.WayKey{From: at(1, -1)},
	)
	apart(t, keys)
}

// TestAnyKey: shapes that may not be, cells that are not near, and numbers at the ends of the integers are keys like others.
func TestAnyKey(t *testing.T) {
	for i := range 6 {
		var keys []api.WayKey
		for _, n := range numbers {
			k := api.WayKey{Shape: api.Shape{Class: api.Boat, Size: 2}, From: at(4, 5), To: at(6, 7)}
			*fields(&k)[i] = n
			keys = append(keys, k)
		}
		apart(t, keys)
	}
	var keys []api.WayKey
	for _, n := range numbers {
		keys = append(keys, api.WayKey{Shape: api.Shape{Class: n, Size: n}, From: at(n, n), To: at(n, n)})
	}
	apart(t, keys)
}

// Ways.

func TestAnyWay(t *testing.T) {
	lists := [][]api.Cell{nil, {}, make([]api.Cell, 0, 9), cells(0, 0), cells(3, 3, 3, 3, 3, 3), row(2)[:1], row(api.Reach),
		row(api.MaxPath), row(api.MaxPath + 1), row(100000), cells(far+1, -far-1, math.MaxInt, math.MinInt, math.MinInt, math.MaxInt)}
	var want []kept
	for i, l := range lists {
		want = append(want, kept{key(i), api.Way{Outcome: i, Cells: l}})
	}
	shows(t, made(t, len(want), 0, want...), 0, want...)
	// Each in the place of each.
	for _, a := range want {
		for _, b := range want {
			c := made(t, 1, 0, kept{key(0), a.way}, kept{key(0), b.way})
			gets(t, c, key(0), 0, b.way)
		}
	}
}

func TestAnyOutcome(t *testing.T) {
	c := made(t, 1, 0)
	for _, n := range append([]int{api.RouteFound, api.RouteNone, api.RouteBudget}, numbers...) {
		for _, w := range []api.Way{way(n), way(n, 1, 2)} {
			put(t, c, 0, kept{key(1), w})
			shows(t, c, 0, kept{key(1), w})
		}
	}
}

// TestZeroWay: a way without outcome and cells is one all the same, of the zero key too.
func TestZeroWay(t *testing.T) {
	c := made(t, 2, 0, kept{})
	shows(t, c, 0, kept{})
	if _, ok := c.Get(api.WayKey{}, 0); !ok {
		t.Error("the zero way is none")
	}
	put(t, c, 0, each(1, 2)...)
	lacks(t, c, api.WayKey{}, 0)
	shows(t, c, 0, each(1, 2)...)
}

// Ca2: All.

// TestAllLeft: a loop may be left at any way, and the next one begins anew.
func TestAllLeft(t *testing.T) {
	want := each(4, 1, 3, 2)
	c := made(t, 9, 0, want...)
	seq := c.All()
	for n := range want {
		var got []kept
		for k, w := range seq {
			got = append(got, kept{k, w})
			if len(got) > n {
				break
			}
		}
		if !slices.EqualFunc(got, want[:n+1], sameKept) {
			t.Errorf("a loop that is left tells %v, want %v", got, want[:n+1])
		}
		if got := told(seq); !slices.EqualFunc(got, want, sameKept) {
			t.Errorf("the loop behind it tells %v, want %v", got, want)
		}
	}
	shows(t, c, 0, want...)
}

// TestAllStops: behind a false nothing more is told.
func TestAllStops(t *testing.T) {
	for most := 1; most <= 4; most++ {
		asked := 0
		made(t, 9, 0, each(1, 2, 3, 4)...).All()(func(api.WayKey, api.Way) bool {
			asked++
			return asked < most
		})
		if asked != most {
			t.Errorf("%d ways are told, %d were asked for", asked, most)
		}
	}
}

func TestAllInAll(t *testing.T) {
	want := each(1, 2, 3)
	c := made(t, 3, 0, want...)
	seq := c.All()
	n := 0
	for k := range seq {
		if k != want[n].key {
			t.Errorf("the outer loop tells %v, want %v", k, want[n].key)
		}
		n++
		if got := told(seq); !slices.EqualFunc(got, want, sameKept) {
			t.Errorf("the inner loop tells %v, want %v", got, want)
		}
	}
	if n != 3 {
		t.Errorf("the outer loop tells %d ways", n)
	}
}

func TestAllOfAnEmptyCache(t *testing.T) {
	c := made(t, 3, 0)
	seq := c.All()
	if got := told(seq); len(got) > 0 || len(told(c.All())) > 0 {
		t.Errorf("All = %v", got)
	}
	// A loop tells what is there when it begins, not when it was asked for.
	put(t, c, 0, each(1, 2)...)
	if got := told(seq); !slices.EqualFunc(got, each(1, 2), sameKept) {
		t.Errorf("All = %v, want %v", got, each(1, 2))
	}
	put(t, c, 5, each(3)...)
	if got := told(seq); !slices.EqualFunc(got, each(3), sameKept) {
		t.Errorf("All = %v, want %v", got, each(3))
	}
}

// TestPutInAll: a loop that puts ways ends, and tells those that there were when it began.
func TestPutInAll(t *testing.T) {
	for name, call := range map[string]func(c *cache.Cache, n int){
		"a new key":       func(c *cache.Cache, n int) { c.Put(key(100+n), 0, way(n)) },
		"many new keys":   func(c *cache.Cache, n int) { put(t, c, 0, each(100+n, 200+n, 300+n, 400+n)...) },
		"a key anew":      func(c *cache.Cache, n int) { c.Put(key(3), 0, way(99, n, n)) },
		"another epoch":   func(c *cache.Cache, n int) { c.Put(key(1), n+1, way(99)) },
		"an epoch, twice": func(c *cache.Cache, n int) { c.Put(key(1), 1, way(99)); c.Put(key(1), 0, way(98)) },
	} {
		c := made(t, 4, 0, each(1, 2, 3, 4)...)
		var got []kept
		for k, w := range c.All() {
			got = append(got, kept{k, w})
			call(c, len(got))
			if len(got) > 4 {
				break
			}
		}
		if !slices.EqualFunc(got, each(1, 2, 3, 4), sameKept) {
			t.Errorf("%s: All = %v", name, got)
		}
	}
}

// A cache that New did not give.

func TestNotMade(t *testing.T) {
	var zero cache.Cache
	for name, c := range map[string]*cache.Cache{"nil": nil, "zero": &zero, "new": new(cache.Cache)} {
		for range 2 {
			for _, n := range numbers {
				if code := c.Put(key(n), n, way(n, n, n)); code != api.ErrArg {
					t.Errorf("%s: Put(%d): error %d", name, n, code)
				}
				lacks(t, c, key(n), n)
				lacks(t, c, key(n), 0)
				lacks(t, c, api.WayKey{}, n)
			}
			if c.Len() != 0 {
				t.Errorf("%s: Len = %d", name, c.Len())
			}
			if got := told(c.All()); len(got) > 0 {
				t.Errorf("%s: All = %v", name, got)
			}
		}
	}
}

// R3: memory of one's own.

// scribble turns a list, and the room behind its end.
func scribble(l []api.Cell) {
	l = l[:cap(l)]
	for i := range l {
		l[i] = at(-7777, i)
	}
}

// TestPutKeepsNothing: what was handed in may be turned, and is not turned.
func TestPutKeepsNothing(t *testing.T) {
	for _, n := range []int{0, 1, 3, 5} {
		room := row(8)
		list := room[:n]
		c := made(t, 3, 0, kept{key(1), api.Way{Outcome: 1, Cells: list}}, kept{key(2), api.Way{Outcome: 2, Cells: list}})
		want := []kept{{key(1), api.Way{Outcome: 1, Cells: row(n)}}, {key(2), api.Way{Outcome: 2, Cells: row(n)}}}
		shows(t, c, 0, want...)
		put(t, c, 0, kept{key(1), api.Way{Outcome: 1, Cells: list[:n/2]}}, kept{key(1), api.Way{Outcome: 1, Cells: list}})
		w, _ := c.Get(key(1), 0)
		scribble(append(w.Cells, at(55, 55)))
		if !slices.Equal(room, row(8)) {
			t.Errorf("what was handed in is %v", room)
		}
		scribble(list)
		shows(t, c, 0, want...)
	}
}

// TestToldIsNew: what is told may be turned, its spare room too, and turns neither the cache nor what else was told.
func TestToldIsNew(t *testing.T) {
	for _, n := range []int{0, 1, 3, 5, 33} {
		list := row(n)
		var want []kept
		for i := range 3 {
			want = append(want, kept{key(i), api.Way{Outcome: i, Cells: list}})
		}
		c := made(t, 3, 0, want...)
		answers := func() [][]api.Cell {
			var l [][]api.Cell
			for i := range want {
				a, _ := c.Get(key(i), 0)
				b, _ := c.Get(key(i), 0)
				l = append(l, a.Cells, b.Cells)
			}
			for _, x := range slices.Concat(told(c.All()), told(c.All())) {
				l = append(l, x.way.Cells)
			}
			return l
		}
		for i := range answers() {
			l := answers()
			var ahead [][]api.Cell
			for _, other := range l {
				ahead = append(ahead, slices.Clone(other[:cap(other)]))
			}
			scribble(l[i])
			for j, other := range l {
				if j != i && !slices.Equal(other[:cap(other)], ahead[j]) {
					t.Fatalf("answer %d turned answer %d", i, j)
				}
			}
			shows(t, c, 0, want...)
		}
	}
}

// TestTurnedInALoop: what a loop turns in one way is not told of the next one, nor in the next loop.
func TestTurnedInALoop(t *testing.T) {
	list := row(5)
	want := []kept{{key(1), api.Way{Outcome: 1, Cells: list}}, {key(2), api.Way{Outcome: 2, Cells: list}}, {key(3), api.Way{Outcome: 3, Cells: list}}}
	c := made(t, 3, 0, want...)
	seq := c.All()
	for range 2 {
		for k, w := range seq {
			if !slices.Equal(w.Cells, row(5)) {
				t.Errorf("%v: %v", k, w)
			}
			scribble(w.Cells)
		}
	}
	shows(t, c, 0, want...)
}

// TestPutBack puts what was told for one key for another one, and turns it then.
func TestPutBack(t *testing.T) {
	c := made(t, 3, 0, kept{key(1), way(1, 1, 1, 2, 2)})
	w, _ := c.Get(key(1), 0)
	put(t, c, 0, kept{key(2), w}, kept{key(1), w})
	scribble(w.Cells)
	shows(t, c, 0, kept{key(1), way(1, 1, 1, 2, 2)}, kept{key(2), way(1, 1, 1, 2, 2)})
}

// TestTwoCaches know nothing of each other.
func TestTwoCaches(t *testing.T) {
	a, b := made(t, 2, 0), made(t, 3, 0)
	put(t, a, 0, each(1, 2)...)
	shows(t, b, 0)
	put(t, b, 0, kept{key(1), way(9)})
	shows(t, a, 0, each(1, 2)...)
	put(t, b, 7, each(5, 6, 7, 8)...)
	put(t, a, 0, each(3)...)
	shows(t, a, 0, each(2, 3)...)
	shows(t, b, 7, each(6, 7, 8)...)
	lacks(t, a, key(2), 7)
	lacks(t, b, key(6), 0)
	// By turns, from one into the other.
	for k, w := range a.All() {
		b.Put(k, 7, w)
		scribble(w.Cells)
	}
	shows(t, a, 0, each(2, 3)...)
	shows(t, b, 7, each(8, 2, 3)...)
}
