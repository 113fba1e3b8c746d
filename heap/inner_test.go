package heap

import "testing"

// TestNothingIsKept: what is popped is gone from the room behind the list's end, too.
func TestNothingIsKept(t *testing.T) {
	h := New(func(a, b *int) bool { return *a < *b })
	for i := range 40 {
		h.Push(&i)
		if i%3 == 2 {
			h.Pop()
		}
	}
	for h.Len() > 0 {
		h.Pop()
		for i, it := range h.items[h.Len():cap(h.items)] {
			if it.value != nil || it.push != 0 {
				t.Fatalf("with %d values, %d behind the end: %v", h.Len(), i, it)
			}
		}
	}
}

// TestTree: behind every call no item is popped before the one above it.
func TestTree(t *testing.T) {
	h := New(func(a, b int) bool { return a < b })
	check := func() {
		t.Helper()
		for i := 1; i < len(h.items); i++ {
			if h.before(i, (i-1)/2) {
				t.Fatalf("place %d is before the one above it: %v", i, h.items)
			}
		}
	}
	for i := range 200 {
		h.Push(i * 37 % 11)
		check()
		if i%4 == 3 {
			h.Pop()
			check()
		}
	}
	for range h.Drain() {
		check()
	}
}
