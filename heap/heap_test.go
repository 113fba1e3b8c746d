package heap_test

import (
	"cmp"
	"iter"
	"math"
	"math/bits"
	"slices"
	"strings"
	"testing"

	"phalanx/api"
	"phalanx/heap"
)

// rank is a value of which only the key orders: the tag tells likes apart.
type rank struct{ key, tag int }

func byKey(a, b rank) bool { return a.key < b.key }

func rising(a, b int) bool { return a < b }

// ranks are values of these keys, tagged as they come.
func ranks(keys ...int) []rank {
	var l []rank
	for i, k := range keys {
		l = append(l, rank{k, i})
	}
	return l
}

// filled is a heap into which the values were pushed.
func filled[T any](t *testing.T, ahead func(a, b T) bool, values ...T) *heap.Heap[T] {
	t.Helper()
	h := heap.New(ahead)
	if h == nil {
		t.Fatal("New = nil")
	}
	for i, v := range values {
		h.Push(v)
		if h.Len() != i+1 {
			t.Fatalf("Len = %d behind %d values", h.Len(), i+1)
		}
	}
	return h
}

// popped takes all out by Pop, and asks Top and Len ahead of each.
func popped[T comparable](t *testing.T, h *heap.Heap[T]) []T {
	t.Helper()
	var l []T
	for n := h.Len(); n > 0; n-- {
		top, has := h.Top()
		v, ok := h.Pop()
		if !has || !ok || top != v {
			t.Fatalf("Top = %v, %v, then Pop = %v, %v, with %d values", top, has, v, ok, n)
		}
		if h.Len() != n-1 {
			t.Fatalf("Len = %d behind Pop of %d values", h.Len(), n)
		}
		l = append(l, v)
	}
	isEmpty(t, h)
	return l
}

// isEmpty asks all that tells that there is no value.
func isEmpty[T comparable](t *testing.T, h *heap.Heap[T]) {
	t.Helper()
	var none T
	if h.Len() != 0 {
		t.Errorf("Len = %d, want 0", h.Len())
	}
	if v, ok := h.Top(); v != none || ok {
		t.Errorf("Top = %v, %v, want none", v, ok)
	}
	if v, ok := h.Pop(); v != none || ok {
		t.Errorf("Pop = %v, %v, want none", v, ok)
	}
	for v := range h.Drain() {
		t.Errorf("Drain tells %v, want nothing", v)
	}
	if h.Len() != 0 {
		t.Errorf("Len = %d behind Pop and Drain of none", h.Len())
	}
}

// same holds two lists against each other.
func same[T comparable](t *testing.T, what string, got, want []T) {
	t.Helper()
	if !slices.Equal(got, want) {
		t.Errorf("%s = %v, want %v", what, got, want)
	}
}

// sorted is a list in order, likes as they stood.
func sorted[T any](l []T, ahead func(a, b T) bool) []T {
	l = slices.Clone(l)
	slices.SortStableFunc(l, func(a, b T) int {
		if ahead(a, b) {
			return -1
		}
		if ahead(b, a) {
			return 1
		}
		return 0
	})
	return l
}

// sorts holds what is popped, and what is drained, against a stable sort.
func sorts[T comparable](t *testing.T, ahead func(a, b T) bool, values ...T) {
	t.Helper()
	want := sorted(values, ahead)
	same(t, "Pop, again and again", popped(t, filled(t, ahead, values...)), want)
	h := filled(t, ahead, values...)
	same(t, "Drain", slices.Collect(h.Drain()), want)
	isEmpty(t, h)
}

// dice are numbers of no pattern, the same each time.
type dice uint64

// to is a number of 0 to n - 1.
func (d *dice) to(n int) int {
	*d = *d*6364136223846793005 + 1442695040888963407
	return int(uint64(*d)>>33) % n
}

// plain is the plain definition: values as they were pushed, and what comes ahead is looked for.
type plain[T any] struct {
	ahead  func(a, b T) bool
	values []T
}

// top is where the value is that is to be told.
func (p *plain[T]) top() int {
	return slices.IndexFunc(p.values, func(v T) bool {
		return !slices.ContainsFunc(p.values, func(other T) bool { return p.ahead(other, v) })
	})
}

func (p *plain[T]) pop() (T, bool) {
	var none T
	if len(p.values) == 0 {
		return none, false
	}
	i := p.top()
	v := p.values[i]
	p.values = slices.Delete(p.values, i, i+1)
	return v, true
}

func TestNewIsEmpty(t *testing.T) {
	isEmpty(t, heap.New(rising))
	isEmpty(t, heap.New(byKey))
	isEmpty(t, heap.New(func(a, b string) bool { return a < b }))
	isEmpty(t, heap.New(func(a, b *int) bool { return *a < *b }))
}

func TestNewOfNil(t *testing.T) {
	if h := heap.New[int](nil); h != nil {
		t.Errorf("New(nil) = %v", h)
	}
	if h := heap.New[rank](nil); h != nil {
		t.Errorf("New(nil) = %v", h)
	}
	if h := heap.New[*string](nil); h != nil {
		t.Errorf("New(nil) = %v", h)
	}
}

// TestNotMade: a nil heap, and one that New did not give, take nothing and tell nothing.
func TestNotMade(t *testing.T) {
	for name, h := range map[string]*heap.Heap[rank]{"nil": nil, "the zero one": {}, "New of nil": heap.New[rank](nil)} {
		t.Run(name, func(t *testing.T) {
			isEmpty(t, h)
			for i := range 3 {
				h.Push(rank{i, i})
				isEmpty(t, h)
			}
			if h.Drain() == nil {
				t.Error("Drain = nil: it can't be ranged over")
			}
		})
	}
	var zero heap.Heap[string]
	zero.Push("a")
	isEmpty(t, &zero)
}

func TestOneValue(t *testing.T) {
	for _, v := range []int{0, 1, -1, math.MinInt, math.MaxInt} {
		h := filled(t, rising, v)
		for range 3 {
			if top, ok := h.Top(); top != v || !ok || h.Len() != 1 {
				t.Errorf("Top = %d, %v, Len = %d, want %d", top, ok, h.Len(), v)
			}
		}
		if got, ok := h.Pop(); got != v || !ok {
			t.Errorf("Pop = %d, %v, want %d", got, ok, v)
		}
		isEmpty(t, h)
	}
}

func TestTwoValues(t *testing.T) {
	for _, c := range []struct{ push, want []rank }{
		{ranks(1, 2), []rank{{1, 0}, {2, 1}}},
		{ranks(2, 1), []rank{{1, 1}, {2, 0}}},
		{ranks(1, 1), []rank{{1, 0}, {1, 1}}},
		{ranks(0, -1), []rank{{-1, 1}, {0, 0}}},
		{ranks(math.MaxInt, math.MinInt), []rank{{math.MinInt, 1}, {math.MaxInt, 0}}},
	} {
		same(t, "Pop", popped(t, filled(t, byKey, c.push...)), c.want)
	}
}

// TestExample is the chapter's.
func TestExample(t *testing.T) {
	h := heap.New(rising)
	h.Push(3)
	h.Push(1)
	h.Push(2)
	same(t, "Drain", slices.Collect(h.Drain()), []int{1, 2, 3})
	isEmpty(t, h)
}

// TestTopTurnsNothing: neither Top nor Len, however often, turns what comes behind.
func TestTopTurnsNothing(t *testing.T) {
	values := ranks(5, 3, 5, 1, 1, 4, 3, 5, 1, 2)
	asked, left := heap.New(byKey), heap.New(byKey)
	for _, v := range values {
		asked.Push(v)
		left.Push(v)
		first, _ := asked.Top()
		for range 5 {
			if v, ok := asked.Top(); v != first || !ok {
				t.Fatalf("Top = %v, %v, was %v", v, ok, first)
			}
		}
	}
	for range len(values) {
		asked.Top()
		asked.Len()
		a, _ := asked.Pop()
		b, _ := left.Pop()
		if a != b {
			t.Errorf("Pop = %v where Top was asked, %v where not", a, b)
		}
	}
}

// TestTopAsItGrows: behind each Push the top is the least so far, of likes the first.
func TestTopAsItGrows(t *testing.T) {
	h := heap.New(byKey)
	for _, c := range []struct{ push, want rank }{
		{rank{5, 0}, rank{5, 0}}, {rank{5, 1}, rank{5, 0}}, {rank{6, 2}, rank{5, 0}}, {rank{4, 3}, rank{4, 3}},
		{rank{4, 4}, rank{4, 3}}, {rank{5, 5}, rank{4, 3}}, {rank{-9, 6}, rank{-9, 6}}, {rank{-9, 7}, rank{-9, 6}},
	} {
		h.Push(c.push)
		if top, ok := h.Top(); top != c.want || !ok {
			t.Errorf("Top = %v, %v behind Push of %v, want %v", top, ok, c.push, c.want)
		}
	}
}

// TestAllSmall: all rows of up to seven keys out of three, and of up to six out of four.
func TestAllSmall(t *testing.T) {
	for _, c := range []struct{ keys, most int }{{3, 7}, {4, 6}} {
		rows := [][]int{nil}
		for range c.most + 1 {
			var longer [][]int
			for _, row := range rows {
				sorts(t, byKey, ranks(row...)...)
				for k := range c.keys {
					longer = append(longer, append(slices.Clone(row), k))
				}
			}
			rows = longer
		}
	}
}

// row is n keys by a rule.
func row(n int, rule func(i int) int) []rank {
	var keys []int
	for i := range n {
		keys = append(keys, rule(i))
	}
	return ranks(keys...)
}

// TestManyValues: rising, falling, equal and mixed, at and round the lengths at which the tree has one row more.
func TestManyValues(t *testing.T) {
	var d dice = 9
	rules := map[string]func(n int) func(i int) int{
		"rising":            func(n int) func(i int) int { return func(i int) int { return i } },
		"falling":           func(n int) func(i int) int { return func(i int) int { return n - i } },
		"equal":             func(n int) func(i int) int { return func(i int) int { return 7 } },
		"rising in pairs":   func(n int) func(i int) int { return func(i int) int { return i / 2 } },
		"falling in threes": func(n int) func(i int) int { return func(i int) int { return (n - i) / 3 } },
		"by turns":          func(n int) func(i int) int { return func(i int) int { return i % 2 } },
		"up and down":       func(n int) func(i int) int { return func(i int) int { return min(i, n-i) } },
		"mixed, few keys":   func(n int) func(i int) int { return func(i int) int { return d.to(5) } },
		"mixed, many keys":  func(n int) func(i int) int { return func(i int) int { return d.to(1<<30) - 1<<29 } },
	}
	for name, rule := range rules {
		t.Run(name, func(t *testing.T) {
			for _, n := range []int{0, 1, 2, 3, 4, 5, 6, 7, 8, 9, 14, 15, 16, 17, 30, 31, 32, 33, 100, 255, 256, 257, 1000} {
				sorts(t, byKey, row(n, rule(n))...)
			}
		})
	}
}

func TestVeryMany(t *testing.T) {
	var d dice = 1
	sorts(t, byKey, row(100000, func(int) int { return d.to(1000) })...)
}

// TestOrders: other orders that are strict and weak.
func TestOrders(t *testing.T) {
	var d dice = 2
	values := row(300, func(int) int { return d.to(100) - 50 })
	for name, ahead := range map[string]func(a, b rank) bool{
		"falling":          func(a, b rank) bool { return a.key > b.key },
		"by tens":          func(a, b rank) bool { return (a.key+50)/10 < (b.key+50)/10 },
		"even ones first":  func(a, b rank) bool { return a.key%2 == 0 && b.key%2 != 0 },
		"none ahead":       func(a, b rank) bool { return false },
		"the last first":   func(a, b rank) bool { return a.tag > b.tag },
		"by key, then tag": func(a, b rank) bool { return a.key < b.key || a.key == b.key && a.tag > b.tag },
		"one ahead of all": func(a, b rank) bool { return a.tag == 150 && b.tag != 150 },
		"one behind all":   func(a, b rank) bool { return a.tag != 0 && b.tag == 0 },
	} {
		t.Run(name, func(t *testing.T) { sorts(t, ahead, values...) })
	}
}

// TestPopThenPush: a heap that was emptied takes values as a new one does.
func TestPopThenPush(t *testing.T) {
	h := heap.New(byKey)
	for round := range 20 {
		values := row(round*3%17, func(i int) int { return (i*7 + round) % 4 })
		for _, v := range values {
			h.Push(v)
		}
		same(t, "Pop", popped(t, h), sorted(values, byKey))
	}
}

// TestByTurns: pushes and pops of no pattern, against the plain definition.
func TestByTurns(t *testing.T) {
	for seed := range 60 {
		d := dice(seed)
		keys := []int{1, 2, 3, 10, 1000}[seed%5]
		h, p := heap.New(byKey), plain[rank]{ahead: byKey}
		grows := 2 + d.to(3) // of five steps so many push
		for step := range 800 {
			if d.to(5) < grows {
				v := rank{d.to(keys), step}
				h.Push(v)
				p.values = append(p.values, v)
			} else {
				got, ok := h.Pop()
				if want, wantOk := p.pop(); got != want || ok != wantOk {
					t.Fatalf("Pop = %v, %v, want %v, %v (seed %d, step %d)", got, ok, want, wantOk, seed, step)
				}
			}
			if h.Len() != len(p.values) {
				t.Fatalf("Len = %d, want %d (seed %d, step %d)", h.Len(), len(p.values), seed, step)
			}
			if top, ok := h.Top(); ok != (len(p.values) > 0) || ok && top != p.values[p.top()] {
				t.Fatalf("Top = %v, %v of %v (seed %d, step %d)", top, ok, p.values, seed, step)
			}
		}
		same(t, "what is left", popped(t, h), sorted(p.values, byKey))
	}
}

// TestAllSmallTurns: all rows of up to nine steps, each a Pop or a Push of one of two keys.
func TestAllSmallTurns(t *testing.T) {
	const steps, kinds = 9, 3
	for code := range 19683 {
		h, p := heap.New(byKey), plain[rank]{ahead: byKey}
		for step, rest := 0, code; step < steps; step, rest = step+1, rest/kinds {
			if key := rest % kinds; key < 2 {
				h.Push(rank{key, step})
				p.values = append(p.values, rank{key, step})
				continue
			}
			got, ok := h.Pop()
			if want, wantOk := p.pop(); got != want || ok != wantOk {
				t.Fatalf("row %d, step %d: Pop = %v, %v, want %v, %v", code, step, got, ok, want, wantOk)
			}
		}
		same(t, "what is left", popped(t, h), sorted(p.values, byKey))
	}
}

// TestLikesByTurns: many values that are alike, pushed and popped by turns, come as they were pushed.
func TestLikesByTurns(t *testing.T) {
	h := heap.New(byKey)
	in, out := 0, 0
	take := func(n int) {
		t.Helper()
		for range n {
			if v, ok := h.Pop(); v != (rank{4, out}) || !ok {
				t.Fatalf("Pop = %v, %v, want number %d", v, ok, out)
			}
			out++
		}
	}
	for round := range 500 {
		for range 1 + round%7 {
			h.Push(rank{4, in})
			in++
		}
		take(min(round%6, in-out))
		if h.Len() != in-out {
			t.Fatalf("Len = %d, want %d", h.Len(), in-out)
		}
	}
	take(in - out)
	isEmpty(t, h)
}

// TestLikesAmongOthers: likes come as they were pushed, though others come and go between them.
func TestLikesAmongOthers(t *testing.T) {
	h := heap.New(byKey)
	for i := range 100 {
		h.Push(rank{5, i})
		h.Push(rank{1, 1000 + i})
		h.Push(rank{9, 2000 + i})
		if v, ok := h.Pop(); v != (rank{1, 1000 + i}) || !ok {
			t.Fatalf("Pop = %v, %v, want the key 1", v, ok)
		}
	}
	var want []rank
	for i := range 100 {
		want = append(want, rank{5, i})
	}
	for i := range 100 {
		want = append(want, rank{9, 2000 + i})
	}
	same(t, "Pop", popped(t, h), want)
}

func TestSameValueOftenPushed(t *testing.T) {
	h := filled(t, rising, 3, 1, 3, 1, 1, 3)
	same(t, "Pop", popped(t, h), []int{1, 1, 1, 3, 3, 3})
}

func TestTypes(t *testing.T) {
	sorts(t, func(a, b string) bool { return a < b }, "b", "", "a", "ab", "\xff", "b", "\x00", "é")
	sorts(t, func(a, b string) bool { return len(a) < len(b) }, "bb", "a", "aa", "b", "", "ccc", "c")
	sorts(t, func(a, b byte) bool { return a < b }, 255, 0, 128, 127, 0, 255)
	sorts(t, func(a, b int64) bool { return a > b }, math.MinInt64, 0, math.MaxInt64, -1, 1)
	sorts(t, func(a, b uint64) bool { return a < b }, math.MaxUint64, 0, 1<<63)
	sorts(t, func(a, b float64) bool { return a < b }, 1.5, math.Inf(-1), -0.5, math.Inf(1), 0)
	sorts(t, func(a, b bool) bool { return !a && b }, true, false, true, false)
	sorts(t, func(a, b [2]int) bool { return a[1] < b[1] }, [2]int{1, 9}, [2]int{2, 3}, [2]int{3, 9}, [2]int{4, 3})
	sorts(t, func(a, b struct{}) bool { return false }, struct{}{}, struct{}{}, struct{}{})
	sorts(t, func(a, b any) bool { return a.(int) < b.(int) }, any(3), any(1), any(2), any(1))
	sorts(t, func(a, b api.Cell) bool { return a.Y < b.Y }, api.Cell{X: 1, Y: 2}, api.Cell{X: 9, Y: 0}, api.Cell{X: 0, Y: 2}, api.Cell{X: 3, Y: 0})
}

// TestPointers: a heap tells the pointers themselves, nil ones too, and does not look behind them.
func TestPointers(t *testing.T) {
	number := func(p *int) int {
		if p == nil {
			return 0
		}
		return *p
	}
	ahead := func(a, b *int) bool { return number(a) < number(b) }
	a, b, c := 2, 1, 2
	sorts(t, ahead, &a, &b, &c, nil, &b, nil)
	h := filled(t, ahead, &a, &b, &c)
	if p, ok := h.Pop(); p != &b || !ok {
		t.Errorf("Pop = %p, %v, want %p", p, ok, &b)
	}
	if p, ok := h.Top(); p != &a || !ok {
		t.Errorf("Top = %p, %v, want %p: it was pushed ahead of its like", p, ok, &a)
	}
	if a != 2 || b != 1 || c != 2 {
		t.Errorf("what the pointers point to was turned: %d, %d, %d", a, b, c)
	}
	none := filled(t, ahead, nil)
	if p, ok := none.Pop(); p != nil || !ok {
		t.Errorf("Pop = %v, %v, want nil, true", p, ok)
	}
}

// TestNotComparable: values that == can't hold against each other.
func TestNotComparable(t *testing.T) {
	shorter := func(a, b []string) bool { return len(a) < len(b) }
	h := filled(t, shorter, []string{"a", "b"}, nil, []string{"c"}, []string{}, []string{"d", "e"})
	var told []string
	for l := range h.Drain() {
		told = append(told, strings.Join(l, "+"))
	}
	same(t, "Drain", told, []string{"", "", "c", "a+b", "d+e"})

	calls := heap.New(func(a, b func() int) bool { return a() < b() })
	for _, n := range []int{2, 3, 1} {
		calls.Push(func() int { return n })
	}
	var numbers []int
	for f := range calls.Drain() {
		numbers = append(numbers, f())
	}
	same(t, "Drain", numbers, []int{1, 2, 3})
}

func TestDrainWhole(t *testing.T) {
	h := filled(t, byKey, ranks(3, 1, 2, 1, 3)...)
	seq := h.Drain()
	if h.Len() != 5 {
		t.Errorf("Len = %d: Drain took something ahead of the loop", h.Len())
	}
	left := 5
	for range seq {
		left--
		if h.Len() != left {
			t.Errorf("Len = %d in the loop, want %d", h.Len(), left)
		}
	}
	if left != 0 {
		t.Errorf("%d values were not told", left)
	}
	isEmpty(t, h)
}

// drained takes n values out by one loop, which it then leaves.
func drained[T any](seq iter.Seq[T], n int) []T {
	var l []T
	for v := range seq {
		l = append(l, v)
		if len(l) == n {
			break
		}
	}
	return l
}

// TestDrainLeft: what was told is gone, and no more; another loop goes on behind it.
func TestDrainLeft(t *testing.T) {
	keys := []int{4, 2, 5, 2, 1, 5, 3, 1, 4}
	want := sorted(ranks(keys...), byKey)
	for n := 1; n <= len(keys); n++ {
		h := filled(t, byKey, ranks(keys...)...)
		same(t, "Drain, left", drained(h.Drain(), n), want[:n])
		if h.Len() != len(keys)-n {
			t.Errorf("Len = %d behind %d of %d values", h.Len(), n, len(keys))
		}
		if top, ok := h.Top(); ok != (n < len(keys)) || ok && top != want[n] {
			t.Errorf("Top = %v, %v behind %d values", top, ok, n)
		}
		same(t, "Drain, begun anew", slices.Collect(h.Drain()), want[n:])
		isEmpty(t, h)
	}
}

func TestDrainOneByOne(t *testing.T) {
	h := filled(t, byKey, ranks(2, 1, 2, 1)...)
	var l []rank
	for range 4 {
		l = append(l, drained(h.Drain(), 1)...)
	}
	same(t, "four loops, each left at the first", l, []rank{{1, 1}, {1, 3}, {2, 0}, {2, 2}})
	isEmpty(t, h)
}

// TestDrainTwice: two loops behind one call of Drain: the second one goes on, with what was pushed since.
func TestDrainTwice(t *testing.T) {
	h := filled(t, rising, 3, 1, 2)
	seq := h.Drain()
	same(t, "the first loop", slices.Collect(seq), []int{1, 2, 3})
	same(t, "the second loop", slices.Collect(seq), nil)
	h.Push(5)
	h.Push(4)
	same(t, "the third loop", drained(seq, 1), []int{4})
	same(t, "the fourth loop", slices.Collect(seq), []int{5})
	h.Push(6)
	same(t, "another call", slices.Collect(h.Drain()), []int{6})
	isEmpty(t, h)
}

// TestDrainIsPop: Drain tells what is there when it is gone through, not when it was called.
func TestDrainIsPop(t *testing.T) {
	h := heap.New(rising)
	seq := h.Drain()
	h.Push(2)
	h.Push(1)
	same(t, "Drain of an empty heap that was filled", slices.Collect(seq), []int{1, 2})
}

func TestPushAndPopBetweenDrains(t *testing.T) {
	h := filled(t, byKey, ranks(5, 3, 5, 3, 1)...)
	same(t, "Drain", drained(h.Drain(), 2), []rank{{1, 4}, {3, 1}})
	h.Push(rank{3, 5})
	h.Push(rank{0, 6})
	if v, ok := h.Pop(); v != (rank{0, 6}) || !ok {
		t.Errorf("Pop = %v, %v, want the key 0", v, ok)
	}
	h.Push(rank{5, 7})
	same(t, "Drain", slices.Collect(h.Drain()), []rank{{3, 3}, {3, 5}, {5, 0}, {5, 2}, {5, 7}})
	isEmpty(t, h)
}

// TestPushAndPopInDrain: Drain is Pop, again and again, so what the loop itself does counts.
func TestPushAndPopInDrain(t *testing.T) {
	h := filled(t, rising, 1, 4, 6)
	var l []int
	for v := range h.Drain() {
		l = append(l, v)
		if v == 1 {
			h.Push(2)
			h.Push(5)
			h.Push(0)
		}
		if v == 4 {
			h.Pop()
		}
	}
	same(t, "Drain", l, []int{1, 0, 2, 4, 6})
	isEmpty(t, h)
}

func TestDrainInDrain(t *testing.T) {
	h := filled(t, rising, 5, 3, 1, 4, 2)
	var outer, inner []int
	for v := range h.Drain() {
		outer = append(outer, v)
		inner = append(inner, drained(h.Drain(), 1)...)
	}
	same(t, "the outer loop", outer, []int{1, 3, 5})
	same(t, "the inner loops", inner, []int{2, 4})
}

// TestPanicOfALoop: a loop's own panic is the loop's: Drain does not swallow it, and only what was told is gone.
func TestPanicOfALoop(t *testing.T) {
	h := filled(t, rising, 3, 1, 2)
	func() {
		defer func() {
			if r := recover(); r != "mine" {
				t.Errorf("recover = %v", r)
			}
		}()
		for range h.Drain() {
			panic("mine")
		}
	}()
	same(t, "Drain behind it", slices.Collect(h.Drain()), []int{2, 3})
}

// TestTwoHeaps: what is done to one is not seen by the other.
func TestTwoHeaps(t *testing.T) {
	a, b := heap.New(byKey), heap.New(byKey)
	for i := range 50 {
		a.Push(rank{i % 3, i})
	}
	isEmpty(t, b)
	for i := range 20 {
		b.Push(rank{-i % 4, i})
		a.Pop()
	}
	if a.Len() != 30 || b.Len() != 20 {
		t.Errorf("Len = %d and %d", a.Len(), b.Len())
	}
	seqA, seqB := a.Drain(), b.Drain()
	var first, second []rank
	for range 30 {
		first = append(first, drained(seqA, 1)...)
		second = append(second, drained(seqB, 1)...)
	}
	all := row(50, func(i int) int { return i % 3 })
	same(t, "the one", first, sorted(all, byKey)[20:])
	same(t, "the other", second, sorted(row(20, func(i int) int { return -i % 4 }), byKey))
	isEmpty(t, a)
	isEmpty(t, b)
}

func TestTwoOrders(t *testing.T) {
	up, down := heap.New(rising), heap.New(func(a, b int) bool { return a > b })
	for _, n := range []int{2, 3, 1} {
		up.Push(n)
		down.Push(n)
	}
	same(t, "rising", popped(t, up), []int{1, 2, 3})
	same(t, "falling", popped(t, down), []int{3, 2, 1})
}

// TestSameCallsSameAnswers: what is told hangs on the calls alone (R4).
func TestSameCallsSameAnswers(t *testing.T) {
	run := func() []rank {
		var d dice = 77
		h := heap.New(byKey)
		var l []rank
		for step := range 2000 {
			if d.to(3) > 0 {
				h.Push(rank{d.to(9), step})
			} else if v, ok := h.Pop(); ok {
				l = append(l, v)
			}
		}
		return append(l, slices.Collect(h.Drain())...)
	}
	same(t, "a second run", run(), run())
}

// TestListIsNotTurned: pushing a list's values turns neither it nor the room behind its end (R3).
func TestListIsNotTurned(t *testing.T) {
	room := []int{5, 3, 4, 1, 9, 9}
	list := room[:4]
	h := filled(t, rising, list...)
	got := slices.Collect(h.Drain())
	same(t, "Drain", got, []int{1, 3, 4, 5})
	got[0] = 100
	same(t, "what was handed in", room, []int{5, 3, 4, 1, 9, 9})
}

// TestFewQuestions: it is a binary heap: a call asks the order about no more values than the tree is high.
func TestFewQuestions(t *testing.T) {
	const n = 5000
	asked := 0
	h := heap.New(func(a, b int) bool { asked++; return a < b })
	var d dice = 3
	for _, rule := range []func(i int) int{func(i int) int { return i }, func(i int) int { return -i }, func(int) int { return d.to(n) }} {
		for i := range n {
			asked = 0
			h.Push(rule(i))
			if most := 2 * bits.Len(uint(h.Len())); asked > most {
				t.Fatalf("Push of number %d asked %d times", i, asked)
			}
		}
		asked = 0
		h.Top()
		h.Len()
		if asked != 0 {
			t.Errorf("Top and Len asked %d times", asked)
		}
		for h.Len() > 0 {
			most := 4 * bits.Len(uint(h.Len()))
			asked = 0
			h.Pop()
			if asked > most {
				t.Fatalf("Pop of %d values asked %d times", h.Len()+1, asked)
			}
		}
	}
}

// TestQuestionsAreOfValues: the order is asked only about values that were pushed and not popped.
func TestQuestionsAreOfValues(t *testing.T) {
	in := map[rank]int{}
	h := heap.New(func(a, b rank) bool {
		if in[a] == 0 || in[b] == 0 {
			t.Errorf("asked about %v and %v", a, b)
		}
		return a.key < b.key
	})
	var d dice = 4
	for step := range 2000 {
		if d.to(5) < 3 {
			v := rank{d.to(9), step + 1}
			in[v]++
			h.Push(v)
		} else if v, ok := h.Pop(); ok {
			delete(in, v)
		}
	}
}

// otherOrders are not strict, or not weak, or do what an order does not: nothing is promised of them but that calls end.
func otherOrders() map[string]func(a, b int) bool {
	turn := false
	var d dice = 5
	asked := 0
	return map[string]func(a, b int) bool{
		"always true":             func(a, b int) bool { return true },
		"always false":            func(a, b int) bool { return false },
		"the other way by turns":  func(a, b int) bool { turn = !turn; return a < b == turn },
		"true by turns":           func(a, b int) bool { turn = !turn; return turn },
		"not strict":              func(a, b int) bool { return a <= b },
		"unlike":                  func(a, b int) bool { return a != b },
		"like":                    func(a, b int) bool { return a == b },
		"not transitive":          func(a, b int) bool { return (b-a+3)%3 == 1 },
		"likes that are not weak": func(a, b int) bool { return a+1 < b },
		"of no pattern":           func(a, b int) bool { return d.to(2) == 0 },
		"by how often it is":      func(a, b int) bool { asked++; return asked%7 < 3 },
		"of the first alone":      func(a, b int) bool { return a%2 == 0 },
		"of the second alone":     func(a, b int) bool { return b%2 == 0 },
		"panics":                  func(a, b int) bool { panic("an order") },
		"panics by turns": func(a, b int) bool {
			turn = !turn
			if turn {
				panic("an order")
			}
			return a < b
		},
		"divides by zero": func(a, b int) bool { return a/(b%2) > 1 },
	}
}

// TestOtherOrders: every call ends, and Len goes on counting right.
func TestOtherOrders(t *testing.T) {
	for name, ahead := range otherOrders() {
		t.Run(name, func(t *testing.T) {
			h := heap.New(ahead)
			var d dice = 6
			n := 0
			for range 3000 {
				switch d.to(8) {
				case 0, 1, 2, 3:
					h.Push(d.to(9))
					n++
				case 4, 5, 6:
					if _, ok := h.Pop(); ok != (n > 0) {
						t.Fatalf("Pop tells %v of %d values", ok, n)
					}
					n = max(n-1, 0)
				default:
					n -= len(drained(h.Drain(), 2))
				}
				if _, ok := h.Top(); h.Len() != n || ok != (n > 0) {
					t.Fatalf("Len = %d, Top %v, want %d", h.Len(), ok, n)
				}
			}
			for range 200 {
				h.Push(d.to(9))
			}
			if told := slices.Collect(h.Drain()); len(told) != n+200 {
				t.Errorf("Drain tells %d values, want %d", len(told), n+200)
			}
			isEmpty(t, h)
		})
	}
}

// TestNotANumber: NaN is like all others, which are not like each other: the order of floats is not weak with it.
func TestNotANumber(t *testing.T) {
	h := heap.New(cmp.Less[float64])
	odd := heap.New(func(a, b float64) bool { return a < b })
	for i := range 100 {
		v := float64(i * 7 % 10)
		if i%3 == 0 {
			v = math.NaN()
		}
		h.Push(v)
		odd.Push(v)
	}
	if h.Len() != 100 || odd.Len() != 100 {
		t.Errorf("Len = %d and %d, want 100", h.Len(), odd.Len())
	}
	told := slices.Collect(h.Drain())
	if !slices.IsSorted(told) || len(told) != 100 {
		t.Errorf("Drain by cmp.Less, which puts NaN first: %v", told)
	}
	if told := slices.Collect(odd.Drain()); len(told) != 100 {
		t.Errorf("Drain tells %d values, want 100", len(told))
	}
}

// TestOrderThatCallsItsHeap: every call ends, what the order calls turns nothing, and what it tells still counts.
func TestOrderThatCallsItsHeap(t *testing.T) {
	for name, call := range map[string]func(h *heap.Heap[int]){
		"Push":      func(h *heap.Heap[int]) { h.Push(1000) },
		"Pop":       func(h *heap.Heap[int]) { h.Pop() },
		"Drain":     func(h *heap.Heap[int]) { drained(h.Drain(), 1000) },
		"Top":       func(h *heap.Heap[int]) { h.Top() },
		"Len":       func(h *heap.Heap[int]) { h.Len() },
		"Pop, Push": func(h *heap.Heap[int]) { h.Pop(); h.Push(-1000) },
	} {
		t.Run(name, func(t *testing.T) {
			var h *heap.Heap[int]
			h = heap.New(func(a, b int) bool {
				call(h)
				return a < b
			})
			var d dice = 8
			var values []int
			for i := range 100 {
				values = append(values, d.to(50))
				h.Push(values[i])
				if h.Len() != i+1 {
					t.Fatalf("Len = %d, want %d", h.Len(), i+1)
				}
			}
			slices.Sort(values)
			same(t, "Pop", popped(t, h), values)
		})
	}
}

// TestBehindAPanic: a heap whose order panicked once goes on taking and giving values.
func TestBehindAPanic(t *testing.T) {
	bad := true
	h := heap.New(func(a, b int) bool {
		if bad {
			panic("an order")
		}
		return a < b
	})
	h.Push(2)
	h.Push(1)
	if h.Len() != 2 {
		t.Errorf("Len = %d, want 2", h.Len())
	}
	h.Pop()
	h.Pop()
	bad = false
	for _, n := range []int{3, 1, 2} {
		h.Push(n)
	}
	same(t, "Pop", popped(t, h), []int{1, 2, 3})
}
