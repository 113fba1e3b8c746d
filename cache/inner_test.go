package cache

import (
	"testing"

	"phalanx/api"
)

func key(n int) api.WayKey { return api.WayKey{To: api.Cell{X: n}} }

// TestEpochOfANewOne: no call tells an empty cache's epoch.
func TestEpochOfANewOne(t *testing.T) {
	if c, _ := New(3); c.epoch != 0 {
		t.Errorf("epoch %d", c.epoch)
	}
}

// TestNothingElseIsKept: of ways that went no more is there than the calls tell.
func TestNothingElseIsKept(t *testing.T) {
	c, _ := New(7)
	for n := range 500 {
		c.Put(key(n*37%20), n/90, api.Way{Outcome: n, Cells: make([]api.Cell, n%5)})
		if len(c.ways) != c.Len() || len(c.order) != c.Len() || c.Len() > 7 {
			t.Fatalf("%d ways, %d keys, Len %d", len(c.ways), len(c.order), c.Len())
		}
		for _, k := range c.order {
			if _, ok := c.ways[k]; !ok {
				t.Fatalf("%v is in its place, and has no way", k)
			}
		}
	}
}

// TestNoRoomIsKept: a way with no cells keeps nothing of the list's room.
func TestNoRoomIsKept(t *testing.T) {
	c, _ := New(1)
	c.Put(key(1), 0, api.Way{Cells: make([]api.Cell, 0, 100)})
	if w := c.ways[key(1)]; w.Cells != nil {
		t.Errorf("room for %d cells", cap(w.Cells))
	}
}
