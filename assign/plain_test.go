package assign_test

import (
	"slices"
	"testing"

	"phalanx/api"
	"phalanx/assign"
)

// pair is a unit and a place, by their numbers.
type pair struct{ unit, place int }

// plainDistance goes there, over corners as long as both sides ask for it.
func plainDistance(from, to api.Cell) int {
	cost := 0
	for from != to {
		step := at(toward(from.X, to.X), toward(from.Y, to.Y))
		if step.X != 0 && step.Y != 0 {
			cost += 14
		} else {
			cost += 10
		}
		from.X += step.X
		from.Y += step.Y
	}
	return cost
}

// toward is a step from one number to another.
func toward(from, to int) int {
	if from < to {
		return 1
	}
	if from > to {
		return -1
	}
	return 0
}

// plainAhead tells whether one pair comes ahead of another.
func plainAhead(units, places []api.Cell, a, b pair) bool {
	far, further := plainDistance(units[a.unit], places[a.place]), plainDistance(units[b.unit], places[b.place])
	if far != further {
		return far < further
	}
	if a.unit != b.unit {
		return a.unit < b.unit
	}
	return a.place < b.place
}

// plainMatch takes, as often as there are units, the first of all pairs that neither has one yet.
func plainMatch(units, places []api.Cell) []int {
	m, whose := make([]int, len(units)), make([]int, len(units))
	for i := range units {
		m[i], whose[i] = -1, -1
	}
	for range units {
		first, found := pair{}, false
		for unit := range units {
			for place := range places {
				next := pair{unit, place}
				if m[unit] < 0 && whose[place] < 0 && (!found || plainAhead(units, places, next, first)) {
					first, found = next, true
				}
			}
		}
		m[first.unit], whose[first.place] = first.place, first.unit
	}
	return m
}

// plainRivals are the pairs that would rather have each other.
func plainRivals(units, places []api.Cell, m []int) []pair {
	var l []pair
	for unit := range units {
		for place := range places {
			next := pair{unit, place}
			whose := slices.Index(m, place)
			if plainAhead(units, places, next, pair{unit, m[unit]}) && plainAhead(units, places, next, pair{whose, place}) {
				l = append(l, next)
			}
		}
	}
	return l
}

// plainCode is the error that the words name.
func plainCode(units, places []api.Cell) api.Errno {
	if len(units) > 64 {
		return api.ErrLong
	}
	if len(units) != len(places) {
		return api.ErrArg
	}
	for _, c := range slices.Concat(units, places) {
		if c.X < -128 || c.X > 256 || c.Y < -128 || c.Y > 256 {
			return api.ErrArg
		}
	}
	return api.OK
}

// plainOnce tells whether each number is there just once.
func plainOnce(m []int, n int) bool {
	for number := range n {
		times := 0
		for _, k := range m {
			if k == number {
				times++
			}
		}
		if times != 1 {
			return false
		}
	}
	return len(m) == n
}

// same holds a match against the plain reckoning.
func same(t *testing.T, units, places []api.Cell) {
	t.Helper()
	if code := plainCode(units, places); code != api.OK {
		refuses(t, units, places, code)
		return
	}
	matches(t, units, places, plainMatch(units, places)...)
}

// holds holds a total, and whether a match is stable, against the plain reckoning.
func holds(t *testing.T, units, places []api.Cell, m []int) {
	t.Helper()
	if plainCode(units, places) != api.OK || !plainOnce(m, len(places)) {
		broken(t, units, places, m...)
		return
	}
	total := 0
	for unit, place := range m {
		total += plainDistance(units[unit], places[place])
	}
	adds(t, units, places, m, total)
	if len(plainRivals(units, places, m)) == 0 {
		stable(t, units, places, m...)
	} else {
		unstable(t, units, places, m...)
	}
}

// dice are numbers of no pattern, the same ones each time.
type dice uint64

func (d *dice) to(n int) int {
	*d = *d*6364136223846793005 + 1442695040888963407
	return int(uint64(*d)>>33) % n
}

// between draws a number of low to high.
func (d *dice) between(low, high int) int { return low + d.to(high-low+1) }

// cells draws cells of a square that is drawn, too: in a small one many are as far apart as others.
func (d *dice) cells(n, side int) []api.Cell {
	from := at(d.between(-128, 256-side), d.between(-128, 256-side))
	l := make([]api.Cell, n)
	for i := range l {
		l[i] = at(from.X+d.between(0, side), from.Y+d.between(0, side))
	}
	return l
}

// lists draws units and as many places.
func (d *dice) lists(n int) (units, places []api.Cell) {
	side := []int{2, 5, 12, 40, 384}[d.to(5)]
	both := d.cells(2*n, side)
	if d.to(4) == 0 {
		// Somewhere else: far from the units.
		return both[:n:n], d.cells(n, side)
	}
	return both[:n:n], both[n:]
}

// order draws an order of numbers.
func (d *dice) order(n int) []int {
	m := counted(n)
	for i := range m {
		k := d.between(i, n-1)
		m[i], m[k] = m[k], m[i]
	}
	return m
}

// TestDrawn holds drawn units and places against the plain reckoning.
func TestDrawn(t *testing.T) {
	var d dice = 18
	for range 40000 {
		units, places := d.lists(d.between(1, 8))
		same(t, units, places)
	}
	for range 30 {
		units, places := d.lists(d.between(9, 64))
		same(t, units, places)
	}
}

// TestDrawnMatches holds drawn orders of places, some of them nearly the match, against the plain reckoning.
func TestDrawnMatches(t *testing.T) {
	var d dice = 81
	const stood, fell = 0, 1
	var seen [2]int
	for range 20000 {
		n := d.between(1, 8)
		units, places := d.lists(n)
		m := d.order(n)
		if d.to(2) == 0 {
			m = plainMatch(units, places)
			i, k := d.to(n), d.to(n)
			m[i], m[k] = m[k], m[i]
		}
		holds(t, units, places, m)
		if assign.Stable(units, places, m) {
			seen[stood]++
		} else {
			seen[fell]++
		}
	}
	if seen[stood] < 1000 || seen[fell] < 1000 {
		t.Errorf("only %d stable ones and %d others were drawn", seen[stood], seen[fell])
	}
}

// TestDrawnRefused draws such as often may not be.
func TestDrawnRefused(t *testing.T) {
	var d dice = 181
	refused := map[api.Errno]int{}
	for range 20000 {
		n := d.between(0, 5)
		if d.to(3) == 0 {
			n = d.between(62, 67)
		}
		units, places := d.cells(n, 40), d.cells(n, 40)
		if d.to(3) == 0 {
			places = d.cells(d.between(max(0, n-2), n+2), 40)
		}
		for _, l := range [][]api.Cell{units, places} {
			if len(l) > 0 && d.to(4) == 0 {
				l[d.to(len(l))] = at(d.between(-140, 270), d.between(-140, 270))
			}
		}
		code := plainCode(units, places)
		refused[code]++
		if code != api.OK {
			refuses(t, units, places, code)
		} else if n < 8 {
			same(t, units, places)
		}
		m := d.order(len(units))
		if len(m) > 0 && d.to(3) == 0 {
			m[d.to(len(m))] = d.between(-2, len(m)+2)
		}
		if d.to(5) == 0 {
			m = m[:max(0, len(m)-1)]
		}
		if n < 8 || code != api.OK {
			holds(t, units, places, m)
		}
	}
	for _, code := range []api.Errno{api.OK, api.ErrArg, api.ErrLong} {
		if refused[code] < 1000 {
			t.Errorf("only %d with error %d were drawn", refused[code], code)
		}
	}
}

// TestAllSmall goes through all units and places of some few cells, with all lists of numbers of their length.
func TestAllSmall(t *testing.T) {
	for _, x := range []struct {
		n    int
		grid []api.Cell
	}{
		{1, cells(0, 0, 1, 0, 0, 1, 1, 1, 5, 3)},
		{2, cells(0, 0, 1, 0, 2, 0, 0, 1, 1, 1, 2, 2)},
		{3, line(0, 1, 2, 4)},
	} {
		ms := lists(x.n, []int{-1, 0, 1, 2, 3}[:x.n+2])
		for _, units := range lists(x.n, x.grid) {
			for _, places := range lists(x.n, x.grid) {
				same(t, units, places)
				for _, m := range ms {
					holds(t, units, places, m)
				}
			}
		}
	}
}

// lists are all lists of n things.
func lists[T any](n int, of []T) [][]T {
	if n == 0 {
		return [][]T{nil}
	}
	var l [][]T
	for _, shorter := range lists(n-1, of) {
		for _, next := range of {
			l = append(l, append(slices.Clone(shorter), next))
		}
	}
	return l
}

// TestAllNumbers goes through all X and Y that a cell may have, and some beyond.
func TestAllNumbers(t *testing.T) {
	for n := -140; n <= 270; n++ {
		for _, c := range cells(n, 0, 0, n, n, n) {
			same(t, []api.Cell{c}, line(0))
			same(t, line(0), []api.Cell{c})
			same(t, []api.Cell{at(100, 100), c}, cells(0, 0, -128, 256))
		}
	}
}

// TestSameCalls: what is told hangs on the arguments alone (R4), whatever was asked ahead.
func TestSameCalls(t *testing.T) {
	type answer struct {
		units, places []api.Cell
		m, other      []int
		total         int
		stable        bool
	}
	var d dice = 5
	var l []answer
	for range 200 {
		n := d.between(1, 64)
		x := answer{other: d.order(n)}
		x.units, x.places = d.lists(n)
		x.m = matched(t, x.units, x.places)
		x.total, _ = assign.Total(x.units, x.places, x.other)
		x.stable = assign.Stable(x.units, x.places, x.other)
		l = append(l, x)
	}
	slices.Reverse(l)
	for _, x := range l {
		matches(t, x.units, x.places, x.m...)
		adds(t, x.units, x.places, x.other, x.total)
		if got := assign.Stable(x.units, x.places, x.other); got != x.stable {
			t.Fatalf("Stable(%v, %v, %v) = %v, then %v", x.units, x.places, x.other, x.stable, got)
		}
	}
}
