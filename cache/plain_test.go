package cache_test

import (
	"slices"
	"testing"

	"phalanx/api"
	"phalanx/cache"
)

// plain is the words' plain definition: a list of ways, the oldest first.
type plain struct {
	room, epoch int
	ways        []kept
}

func (p *plain) place(k api.WayKey) int {
	return slices.IndexFunc(p.ways, func(x kept) bool { return x.key == k })
}

func (p *plain) put(k api.WayKey, epoch int, w api.Way) {
	if epoch != p.epoch {
		p.ways, p.epoch = nil, epoch
	}
	if i := p.place(k); i >= 0 {
		p.ways[i].way = w
		return
	}
	if len(p.ways) == p.room {
		p.ways = p.ways[1:]
	}
	p.ways = append(p.ways, kept{k, w})
}

func (p *plain) get(k api.WayKey, epoch int) (api.Way, bool) {
	if i := p.place(k); i >= 0 && epoch == p.epoch {
		return p.ways[i].way, true
	}
	return api.Way{}, false
}

// last is Ca3's: what was put last for each key, whether it is still kept or not, and at which epoch.
type last struct {
	epoch int
	way   api.Way
}

// dice are numbers of no pattern, the same ones each time.
type dice uint64

func (d *dice) to(n int) int {
	*d = *d*6364136223846793005 + 1442695040888963407
	return int(uint64(*d)>>33) % n
}

func (d *dice) cells() []api.Cell {
	l := make([]api.Cell, d.to(6))
	for i := range l {
		l[i] = at(d.to(9)-4, d.to(9)-4)
	}
	return l
}

// key draws one of some 3 times as many keys.
func (d *dice) key(n int) api.WayKey {
	return api.WayKey{Shape: api.Shape{Class: d.to(3)}, From: at(d.to(max(1, n/8)), 0), To: at(0, d.to(8))}
}

// sameGet asks both for a key's way.
func sameGet(t *testing.T, c *cache.Cache, p *plain, k api.WayKey, epoch int) {
	t.Helper()
	want, has := p.get(k, epoch)
	if got, ok := c.Get(k, epoch); ok != has || !sameWay(got, want) {
		t.Fatalf("Get(%v, %d) = %v, %v, want %v, %v", k, epoch, got, ok, want, has)
	}
}

// sameAll holds all ways against each other.
func sameAll(t *testing.T, c *cache.Cache, p *plain) {
	t.Helper()
	if got := told(c.All()); !slices.EqualFunc(got, p.ways, sameKept) || c.Len() != len(p.ways) {
		t.Fatalf("All = %v, Len %d, want %v", got, c.Len(), p.ways)
	}
}

// TestDrawn holds long runs of drawn calls against the plain list, and what is told against what was put last.
func TestDrawn(t *testing.T) {
	for _, room := range []int{1, 2, 3, 8, 60, 255, 256} {
		for _, seldom := range []int{5, 50, 5000} {
			d := dice(room*10 + seldom)
			c, p := made(t, room, 0), &plain{room: room}
			latest := map[api.WayKey]last{}
			epoch := 0
			for step := range 8000 {
				if d.to(seldom) == 0 {
					epoch = d.to(5) - 2
				}
				k := d.key(2 * room)
				if d.to(3) > 0 {
					w := api.Way{Outcome: step, Cells: d.cells()}
					put(t, c, epoch, kept{k, w})
					p.put(k, epoch, w)
					latest[k] = last{epoch, w}
				}
				k = d.key(2 * room)
				sameGet(t, c, p, k, epoch)
				sameGet(t, c, p, k, d.to(5)-2)
				if w, ok := c.Get(k, epoch); ok && (latest[k].epoch != epoch || !sameWay(latest[k].way, w)) {
					t.Fatalf("Get(%v, %d) = %v, and %v was put last", k, epoch, w, latest[k])
				}
				if step%(1+room/4) == 0 {
					sameAll(t, c, p)
				}
			}
			sameAll(t, c, p)
		}
	}
}

// TestAllSmall goes through all rows of six Puts of three keys at two epochs, and holds each against the plain list.
func TestAllSmall(t *testing.T) {
	const keys, epochs, steps = 3, 2, 6
	rows := 1
	for range steps {
		rows *= keys * epochs
	}
	for room := 1; room <= 3; room++ {
		for row := range rows {
			c, p := made(t, room, 0), &plain{room: room}
			for step, left := 0, row; step < steps; step++ {
				k, epoch := key(left%keys), left/keys%epochs
				left /= keys * epochs
				w := way(step, left, step)
				c.Put(k, epoch, w)
				p.put(k, epoch, w)
			}
			sameAll(t, c, p)
			for n := range keys {
				for epoch := range epochs {
					sameGet(t, c, p, key(n), epoch)
				}
			}
		}
	}
}

// TestSameCalls: what is told hangs on the calls alone (R4), in what order too.
func TestSameCalls(t *testing.T) {
	run := func() []kept {
		var d dice = 99
		c := made(t, 40, 0)
		var l []kept
		for step := range 2000 {
			c.Put(d.key(80), d.to(300)/299, way(step, d.to(9), d.to(9)))
			if step%50 == 0 {
				l = append(l, told(c.All())...)
			}
		}
		return l
	}
	first := run()
	for range 5 {
		if !slices.EqualFunc(first, run(), sameKept) {
			t.Fatal("a second run tells other ways")
		}
	}
}
