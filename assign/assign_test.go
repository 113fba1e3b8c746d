package assign_test

import (
	"math"
	"slices"
	"testing"

	"phalanx/api"
	"phalanx/assign"
)

// ends are numbers about which sums and products wrap, or that are alike in their lower 32 bits with such as may be.
var ends = []int{math.MinInt, math.MinInt + 1, math.MinInt / 2, math.MinInt/4 + 1, math.MinInt32 - 1, math.MinInt32, -1 << 32, -1<<32 + 1, -api.Far - 1, -api.Far,
	api.Far, api.Far + 1, math.MaxInt32, math.MaxInt32 + 1, 1 << 32, 1<<32 + 1, 1<<32 + 4, 1 << 62, math.MaxInt/2 + 2, math.MaxInt - 1, math.MaxInt}

// within are X or Y of cells that may be: at both bounds, next to them, and between.
var within = []int{-128, -127, -64, -1, 0, 1, 10, 127, 128, 129, 255, 256}

// beyond are X or Y of cells that may not be.
var beyond = append([]int{-1000, -257, -256, -130, -129, 257, 258, 384, 512, 1000}, ends...)

func at(x, y int) api.Cell { return api.Cell{X: x, Y: y} }

// cells is a list of X and Y, one behind the other.
func cells(numbers ...int) []api.Cell {
	var l []api.Cell
	for i := 0; i < len(numbers); i += 2 {
		l = append(l, at(numbers[i], numbers[i+1]))
	}
	return l
}

// line is cells on a line: at these X.
func line(numbers ...int) []api.Cell {
	l := make([]api.Cell, len(numbers))
	for i, x := range numbers {
		l[i] = at(x, 0)
	}
	return l
}

// spread is so many cells on the map, of no two at one place.
func spread(n int) []api.Cell {
	l := make([]api.Cell, n)
	for i := range l {
		l[i] = at(i*37%128, i*53%101)
	}
	return l
}

// with is a copy of cells in which one is another.
func with(l []api.Cell, place int, c api.Cell) []api.Cell {
	l = slices.Clone(l)
	l[place] = c
	return l
}

// counted is 0, 1, and so on.
func counted(n int) []int {
	l := make([]int, n)
	for i := range l {
		l[i] = i
	}
	return l
}

// backwards is n-1, n-2, and so on.
func backwards(n int) []int {
	l := counted(n)
	slices.Reverse(l)
	return l
}

// matched is a match, that is to be told.
func matched(t *testing.T, units, places []api.Cell) []int {
	t.Helper()
	got, code := assign.Match(units, places)
	if code != api.OK || len(got) != len(units) {
		t.Fatalf("Match(%v, %v) = %v, error %d", units, places, got, code)
	}
	return got
}

// matches asks for a match, and that it is stable.
func matches(t *testing.T, units, places []api.Cell, want ...int) {
	t.Helper()
	if got := matched(t, units, places); !slices.Equal(got, want) {
		t.Errorf("Match(%v, %v) = %v, want %v", units, places, got, want)
	}
	stable(t, units, places, want...)
}

// adds asks for a total.
func adds(t *testing.T, units, places []api.Cell, m []int, want int) {
	t.Helper()
	if got, code := assign.Total(units, places, m); got != want || code != api.OK {
		t.Errorf("Total(%v, %v, %v) = %d, error %d, want %d", units, places, m, got, code, want)
	}
}

// stable asks that no unit and no place would rather have each other.
func stable(t *testing.T, units, places []api.Cell, m ...int) {
	t.Helper()
	if !assign.Stable(units, places, m) {
		t.Errorf("Stable(%v, %v, %v) = false", units, places, m)
	}
}

// unstable asks that a unit and a place would, though all places have their unit.
func unstable(t *testing.T, units, places []api.Cell, m ...int) {
	t.Helper()
	if assign.Stable(units, places, m) {
		t.Errorf("Stable(%v, %v, %v) = true", units, places, m)
	}
	if _, code := assign.Total(units, places, m); code != api.OK {
		t.Errorf("Total(%v, %v, %v): error %d", units, places, m, code)
	}
}

// broken asks that a list is nobody's match.
func broken(t *testing.T, units, places []api.Cell, m ...int) {
	t.Helper()
	if got, code := assign.Total(units, places, m); got != 0 || code != api.ErrArg {
		t.Errorf("Total(%v, %v, %v) = %d, error %d, want error %d", units, places, m, got, code, api.ErrArg)
	}
	if assign.Stable(units, places, m) {
		t.Errorf("Stable(%v, %v, %v) = true", units, places, m)
	}
}

// refuses asks that units and places are refused, whatever is handed in as their match.
func refuses(t *testing.T, units, places []api.Cell, want api.Errno) {
	t.Helper()
	if got, code := assign.Match(units, places); code != want || len(got) > 0 {
		t.Errorf("Match(%v, %v) = %v, error %d, want %d", units, places, got, code, want)
	}
	broken(t, units, places)
	for _, n := range []int{len(units), len(places), len(units) - 1, len(places) + 1} {
		if n > 0 {
			broken(t, units, places, counted(n)...)
			broken(t, units, places, backwards(n)...)
		}
	}
}

// The chapter's example.

func TestExample(t *testing.T) {
	matches(t, line(0, 3), line(2, 9), 1, 0)
	adds(t, line(0, 3), line(2, 9), []int{1, 0}, 90+10)
	unstable(t, line(0, 3), line(2, 9), 0, 1)
}

// As1: matches.

func TestNone(t *testing.T) {
	room := line(1, 2, 3)
	for _, units := range [][]api.Cell{nil, {}, room[:0]} {
		for _, places := range [][]api.Cell{nil, {}, room[:0]} {
			matches(t, units, places)
			for _, m := range [][]int{nil, {}, counted(3)[:0]} {
				adds(t, units, places, m, 0)
				stable(t, units, places, m...)
			}
			for _, n := range append(ends, -1, 0, 1) {
				broken(t, units, places, n)
			}
			broken(t, units, places, 0, 1)
		}
		refuses(t, units, line(0), api.ErrArg)
		refuses(t, line(0), units, api.ErrArg)
		refuses(t, units, spread(65), api.ErrArg)
		refuses(t, spread(65), units, api.ErrLong)
	}
}

func TestOne(t *testing.T) {
	for _, x := range within {
		for _, y := range within {
			matches(t, cells(x, y), cells(10, 20), 0)
			matches(t, cells(10, 20), cells(x, y), 0)
			matches(t, cells(x, y), cells(y, x), 0)
		}
	}
}

func TestFew(t *testing.T) {
	matches(t, line(0, 10), line(1, 11), 0, 1)
	matches(t, line(0, 10), line(11, 1), 1, 0)
	matches(t, line(0, 10, 20), line(21, 1, 11), 1, 2, 0)
	// One is nearest to all: the nearest pair has it, and who would have been second takes what is left.
	matches(t, line(1, 2, 3), line(4, 50, 60), 2, 1, 0)
	matches(t, line(3, 2, 1), line(4, 50, 60), 0, 1, 2)
	matches(t, line(2, 3, 1), line(4, 50, 60), 1, 0, 2)
	matches(t, line(4, 50, 60), line(1, 2, 3), 2, 1, 0)
	// Not the least of all totals: 0, 1 would come to 30 and 40.
	matches(t, line(0, 4), line(3, 8), 1, 0)
	adds(t, line(0, 4), line(3, 8), []int{1, 0}, 80+10)
	adds(t, line(0, 4), line(3, 8), []int{0, 1}, 30+40)
	matches(t, line(0, 2, 5, 9), line(1, 3, 6, 12), 0, 1, 2, 3)
	matches(t, line(0, 4, 7, 9), line(3, 6, 8, 10), 3, 0, 1, 2)
}

// TestDistance: it is what a way costs, not how far it is over the one side, over both, or as the crow flies.
func TestDistance(t *testing.T) {
	for _, x := range []struct {
		near, far       api.Cell
		nearBy, farther int
	}{
		{at(4, 0), at(3, 3), 40, 42}, // over one side it would be farther
		{at(5, 5), at(8, 0), 70, 80}, // over both sides it would be
		{at(4, 4), at(5, 2), 56, 58}, // as the crow flies it would be
		{at(5, 0), at(0, 6), 50, 60}, // along either side
		{at(1, 0), at(1, 1), 10, 14},
		{at(2, 2), at(3, 0), 28, 30},
		{at(5, 5), at(5, 6), 70, 80},
		{at(100, 0), at(72, 72), 1000, 1008},
	} {
		for _, turned := range []func(api.Cell) api.Cell{
			func(c api.Cell) api.Cell { return c },
			func(c api.Cell) api.Cell { return at(c.Y, c.X) },
			func(c api.Cell) api.Cell { return at(-c.X, c.Y) },
			func(c api.Cell) api.Cell { return at(c.X, -c.Y) },
			func(c api.Cell) api.Cell { return at(-c.Y, -c.X) },
		} {
			near, far := turned(x.near), turned(x.far)
			units := []api.Cell{at(0, 0), at(256, 256)}
			matches(t, units, []api.Cell{near, far}, 0, 1)
			matches(t, units, []api.Cell{far, near}, 1, 0)
			matches(t, []api.Cell{near, far}, units, 0, 1)
			matches(t, []api.Cell{far, near}, units, 1, 0)
			adds(t, []api.Cell{near, far}, []api.Cell{{}, {}}, []int{1, 0}, x.nearBy+x.farther)
			adds(t, []api.Cell{{}}, []api.Cell{near}, []int{0}, x.nearBy)
			adds(t, []api.Cell{far}, []api.Cell{{}}, []int{0}, x.farther)
		}
	}
}

// TestOneDistance: the lower unit comes first, then the lower place.
func TestOneDistance(t *testing.T) {
	// Of two units.
	matches(t, line(-1, 1), line(0, 50), 0, 1)
	matches(t, line(1, -1), line(0, 50), 0, 1)
	matches(t, line(1, -1), line(50, 0), 1, 0)
	matches(t, line(90, 1, -1), line(50, 0, 100), 2, 1, 0)
	unstable(t, line(-1, 1), line(0, 50), 1, 0)
	// Of two places.
	matches(t, line(0, 50), line(-1, 1), 0, 1)
	matches(t, line(0, 50), line(1, -1), 0, 1)
	matches(t, line(50, 0), line(1, -1), 1, 0)
	matches(t, line(50, 0, 100), line(90, 1, -1), 2, 1, 0)
	unstable(t, line(0, 50), line(-1, 1), 1, 0)
	// All pairs: the unit is asked for first, though a later unit's place is a lower one.
	matches(t, cells(0, 0, 2, 2), cells(2, 0, 0, 2), 0, 1)
	matches(t, cells(0, 0, 2, 2), cells(0, 2, 2, 0), 0, 1)
	unstable(t, cells(0, 0, 2, 2), cells(2, 0, 0, 2), 1, 0)
	// In a ring each is as far from the next as from the one ahead.
	matches(t, line(0, 2, 4), line(1, 3, 5), 0, 1, 2)
	matches(t, line(0, 2, 4), line(5, 3, 1), 2, 1, 0)
	matches(t, line(4, 2, 0), line(1, 3, 5), 1, 0, 2)
	matches(t, line(2, 4, 0), line(3, 5, 1), 0, 1, 2)
	// 14 over corners and 10 along a side come to the same: 70.
	matches(t, cells(0, 0, 90, 90), cells(7, 0, 5, 5), 0, 1)
	matches(t, cells(0, 0, 90, 90), cells(5, 5, 7, 0), 0, 1)
	matches(t, cells(7, 0, 5, 5), cells(0, 0, 90, 90), 0, 1)
	matches(t, cells(5, 5, 7, 0), cells(0, 0, 90, 90), 0, 1)
}

func TestOneCell(t *testing.T) {
	for n := 1; n <= 64; n++ {
		same, other := slices.Repeat(cells(7, 9), n), slices.Repeat(cells(-3, 40), n)
		matches(t, same, other, counted(n)...)
		matches(t, same, same, counted(n)...)
	}
	// Units on one cell: the nearest place is the lowest unit's.
	matches(t, line(5, 5, 5), line(9, 6, 7), 1, 2, 0)
	matches(t, line(5, 8, 5), line(9, 0, 6), 2, 0, 1)
	// Places that are one cell: the nearest unit takes the lowest of them.
	matches(t, line(9, 6, 7), line(5, 5, 5), 2, 0, 1)
	matches(t, line(9, 0, 6), line(5, 8, 5), 1, 2, 0)
}

// TestOnPlaces: units that stand on their places already, in another order.
func TestOnPlaces(t *testing.T) {
	for n := 1; n <= 64; n++ {
		units := spread(n)
		matches(t, units, units, counted(n)...)
		adds(t, units, units, counted(n), 0)
		places := slices.Clone(units)
		slices.Reverse(places)
		matches(t, units, places, backwards(n)...)
		adds(t, units, places, backwards(n), 0)
	}
	// One stands on its place, and so does another one, that comes behind it.
	matches(t, line(4, 4, 8), line(8, 4, 3), 1, 2, 0)
}

// TestMost: the most units that there may be.
func TestMost(t *testing.T) {
	for _, n := range []int{63, 64} {
		units, behind, before := make([]api.Cell, n), make([]api.Cell, n), make([]api.Cell, n)
		for i := range n {
			units[i], behind[i], before[n-1-i] = at(3*i, 0), at(3*i+1, 5), at(3*i-1, -5)
		}
		matches(t, units, behind, counted(n)...)
		matches(t, units, before, backwards(n)...)
		adds(t, units, behind, counted(n), n*54)
		adds(t, units, before, backwards(n), n*54)
	}
}

// TestMany: more than there may be are refused as such, whatever else may not be.
func TestMany(t *testing.T) {
	for _, n := range []int{65, 66, 128, 1000} {
		for _, k := range []int{0, 1, 63, 64, 65, 66, n - 1, n, n + 1} {
			refuses(t, spread(n), spread(k), api.ErrLong)
		}
		for _, place := range []int{0, 32, 63, 64, n - 1} {
			for _, c := range []api.Cell{at(257, 0), at(0, -129), at(math.MinInt, math.MaxInt)} {
				refuses(t, with(spread(n), place, c), spread(n), api.ErrLong)
				refuses(t, spread(n), with(spread(n), place, c), api.ErrLong)
				refuses(t, with(spread(n), place, c), spread(3), api.ErrLong)
				refuses(t, with(spread(n), place, c), with(spread(n+1), place, c), api.ErrLong)
			}
		}
	}
}

func TestFewerAndMorePlaces(t *testing.T) {
	for _, n := range []int{1, 2, 3, 10, 63, 64} {
		for _, k := range []int{0, 1, 2, 3, 10, 62, 63, 64, 65, 66, 128} {
			if n != k {
				refuses(t, spread(n), spread(k), api.ErrArg)
			}
		}
		refuses(t, spread(n), with(spread(n+1), n, at(257, 0)), api.ErrArg)
		refuses(t, with(spread(n), 0, at(257, 0)), spread(n+1), api.ErrArg)
	}
}

// TestBounds: cells up to the bounds do, and those beyond are refused.
func TestBounds(t *testing.T) {
	for _, x := range within {
		for _, y := range within {
			// The one that is far stands on its place.
			matches(t, cells(x, y, 3, 3), cells(3, 3, x, y), 1, 0)
		}
		for _, far := range beyond {
			for _, c := range []api.Cell{at(x, far), at(far, x)} {
				refuses(t, []api.Cell{c}, line(0), api.ErrArg)
				refuses(t, line(0), []api.Cell{c}, api.ErrArg)
				refuses(t, []api.Cell{c}, []api.Cell{c}, api.ErrArg)
			}
		}
	}
	for _, x := range beyond {
		for _, y := range beyond {
			refuses(t, cells(x, y), line(0), api.ErrArg)
			refuses(t, line(0), cells(x, y), api.ErrArg)
		}
	}
}

// TestBoundsAnywhere: one that may not be, at each place of its list.
func TestBoundsAnywhere(t *testing.T) {
	for _, n := range []int{2, 3, 4, 5, 63, 64} {
		l := spread(n)
		for place := range n {
			if n > 5 && place > 2 && place < n-2 && place != n/2 {
				continue
			}
			for _, far := range beyond {
				for _, c := range []api.Cell{at(0, far), at(far, 0)} {
					refuses(t, with(l, place, c), l, api.ErrArg)
					refuses(t, l, with(l, place, c), api.ErrArg)
				}
			}
		}
		for place := range n {
			for _, c := range cells(-129, 0, 0, -129, 257, 0, 0, 257) {
				refuses(t, with(l, place, c), l, api.ErrArg)
				refuses(t, l, with(l, place, c), api.ErrArg)
			}
			for _, c := range cells(-128, 0, 0, -128, 256, 0, 0, 256) {
				matched(t, with(l, place, c), l)
				matched(t, l, with(l, place, c))
			}
		}
	}
}

// As2: totals.

func TestTotal(t *testing.T) {
	adds(t, line(0), line(0), []int{0}, 0)
	adds(t, line(0), line(7), []int{0}, 70)
	adds(t, cells(2, 3), cells(5, -4), []int{0}, 3*14+4*10)
	adds(t, cells(5, -4), cells(2, 3), []int{0}, 3*14+4*10)
	// It need not be the match.
	adds(t, line(0, 3), line(2, 9), []int{0, 1}, 20+60)
	adds(t, line(0, 3), line(2, 9), []int{1, 0}, 90+10)
	// Unit 0's place comes first in m, not place 0's unit.
	units, places := cells(0, 0, 10, 0, 0, 20), cells(1, 0, 0, 2, 40, 40)
	adds(t, units, places, []int{0, 1, 2}, 10+(2*14+8*10)+(20*14+20*10))
	adds(t, units, places, []int{0, 2, 1}, 10+(30*14+10*10)+180)
	adds(t, units, places, []int{1, 0, 2}, 20+90+(20*14+20*10))
	adds(t, units, places, []int{1, 2, 0}, 20+(30*14+10*10)+(14+19*10))
	adds(t, units, places, []int{2, 0, 1}, 40*14+90+180)
	adds(t, units, places, []int{2, 1, 0}, 40*14+(2*14+8*10)+(14+19*10))
}

// TestFarthest: as far apart as they may be.
func TestFarthest(t *testing.T) {
	for _, n := range []int{1, 2, 63, 64} {
		for _, x := range []struct {
			from, to api.Cell
			each     int
		}{
			{at(-128, -128), at(256, 256), 384 * 14},
			{at(256, -128), at(-128, 256), 384 * 14},
			{at(-128, 0), at(256, 0), 384 * 10},
			{at(5, 256), at(5, -128), 384 * 10},
			{at(-128, 256), at(256, 255), 14 + 383*10},
		} {
			units, places := slices.Repeat([]api.Cell{x.from}, n), slices.Repeat([]api.Cell{x.to}, n)
			adds(t, units, places, counted(n), n*x.each)
			adds(t, units, places, backwards(n), n*x.each)
			adds(t, places, units, counted(n), n*x.each)
			matches(t, units, places, counted(n)...)
		}
	}
}

// TestBroken: lists that have not each place's number just once.
func TestBroken(t *testing.T) {
	for _, n := range []int{1, 2, 3, 5, 63, 64} {
		units, places := spread(n), spread(n)
		broken(t, units, places)
		broken(t, units, places, counted(n-1)...)
		broken(t, units, places, counted(n+1)...)
		broken(t, units, places, counted(n)[1:]...)
		for _, place := range []int{0, n / 2, n - 1} {
			// One more, at each place, is too long whatever it is.
			for _, number := range []int{-1, 0, n - 1, n, n + 1} {
				broken(t, units, places, slices.Insert(counted(n), place, number)...)
			}
			for _, number := range append(ends, -n-1, -n, -2, -1, n, n+1, 2*n, 64, 65) {
				if number < 0 || number >= n {
					m := counted(n)
					m[place] = number
					broken(t, units, places, m...)
				}
			}
			for twice := range n {
				if twice != place {
					m := backwards(n)
					m[place] = m[twice]
					broken(t, units, places, m...)
				}
			}
		}
		adds(t, units, places, counted(n), 0)
	}
	broken(t, line(0, 0, 0), line(0, 0, 0), 0, 0, 0)
	broken(t, line(0, 0, 0), line(0, 0, 0), 1, 1, 1)
	broken(t, line(0, 0, 0), line(0, 0, 0), 2, 1, 1)
	broken(t, line(0, 0, 0), line(0, 0, 0), 2, 2, 0)
}

// As2: whether a match is stable.

// TestWould: of each of these exactly one pair would rather have each other.
func TestWould(t *testing.T) {
	for _, x := range []struct {
		units, places []api.Cell
		m             []int
		unit, place   int
	}{
		{line(0, 3), line(2, 9), []int{0, 1}, 1, 0},
		{line(3, 0), line(2, 9), []int{1, 0}, 0, 0},
		{line(3, 0), line(9, 2), []int{0, 1}, 0, 1},
		{line(0, 3), line(9, 2), []int{1, 0}, 1, 1},
		// With another one, that stands on its place, at each end and between.
		{line(0, 100, 3), line(2, 100, 9), []int{0, 1, 2}, 2, 0},
		{line(100, 0, 3), line(100, 2, 9), []int{0, 1, 2}, 2, 1},
		{line(3, 100, 0), line(2, 100, 9), []int{2, 1, 0}, 0, 0},
		{line(3, 0, 100), line(9, 2, 100), []int{0, 1, 2}, 0, 1},
		// Only the order of pairs of one distance tells that they would.
		{line(5, 5), line(6, 7), []int{1, 0}, 0, 0},
		{line(6, 7), line(5, 5), []int{1, 0}, 0, 0},
		{line(5, 5), line(6, 6), []int{1, 0}, 0, 0},
		{line(90, 5, 5), line(6, 90, 6), []int{1, 2, 0}, 1, 0},
	} {
		if rivals := plainRivals(x.units, x.places, x.m); !slices.Equal(rivals, []pair{{x.unit, x.place}}) {
			t.Errorf("%v, %v, %v: %v would rather have each other", x.units, x.places, x.m, rivals)
		}
		unstable(t, x.units, x.places, x.m...)
	}
}

// TestWouldAlone: a unit would, but the place wouldn't; or the other way round.
func TestWouldAlone(t *testing.T) {
	// Unit 1 would have place 0, which has a nearer one.
	stable(t, line(0, 3), line(1, 6), 0, 1)
	stable(t, line(3, 0), line(1, 6), 1, 0)
	stable(t, line(0, 3), line(6, 1), 1, 0)
	unstable(t, line(0, 3), line(1, 6), 1, 0)
	// Place 1 would have unit 0, which has a nearer one.
	stable(t, line(0, -5), line(1, -2), 0, 1)
	stable(t, line(-5, 0), line(1, -2), 1, 0)
	stable(t, line(0, -5), line(-2, 1), 1, 0)
	unstable(t, line(0, -5), line(1, -2), 1, 0)
	// By the order of pairs of one distance alone.
	stable(t, line(5, 5), line(6, 7), 0, 1)
	stable(t, line(6, 7), line(5, 5), 0, 1)
}

// TestWouldAnywhere: where all others are as they ought to be, two that changed places are told, wherever they stand.
func TestWouldAnywhere(t *testing.T) {
	const n = 64
	units, places := make([]api.Cell, n), make([]api.Cell, n)
	for i := range n {
		units[i], places[i] = at(i*4-128, 0), at(i*4-127, 1)
	}
	stable(t, units, places, counted(n)...)
	for first := range n {
		for second := first + 1; second < n; second++ {
			m := counted(n)
			m[first], m[second] = m[second], m[first]
			unstable(t, units, places, m...)
		}
	}
}

// As3.

// orders are all orders of 0 to n-1.
func orders(n int) [][]int {
	if n == 0 {
		return [][]int{nil}
	}
	var l [][]int
	for _, shorter := range orders(n - 1) {
		for place := range n {
			l = append(l, slices.Insert(slices.Clone(shorter), place, n-1))
		}
	}
	return l
}

// TestOnlyOne: of all orders of places just the match is stable.
func TestOnlyOne(t *testing.T) {
	for n := 1; n <= 6; n++ {
		for _, lists := range [][2][]api.Cell{
			{spread(n), spread(2 * n)[n:]},
			{spread(n), spread(n)},
			{slices.Repeat(line(4), n), slices.Repeat(line(9), n)},
			{line(0, 1, 2, 3, 4, 5)[:n], slices.Repeat(line(9), n)},
			{slices.Repeat(line(9), n), line(0, 18, 1, 17, 2, 16)[:n]},
			{line(0, 2, 4, 6, 8, 10)[:n], line(11, 9, 7, 5, 3, 1)[:n]},
			{cells(0, 0, 5, 5, 0, 5, 5, 0, 2, 7, 7, 2)[:n], cells(2, 2, 7, 7, 5, 1, 1, 5, 0, 0, 9, 9)[:n]},
		} {
			want := matched(t, lists[0], lists[1])
			for _, m := range orders(n) {
				if slices.Equal(m, want) {
					stable(t, lists[0], lists[1], m...)
				} else {
					unstable(t, lists[0], lists[1], m...)
				}
			}
		}
	}
}

// TestOnce: each place is taken once.
func TestOnce(t *testing.T) {
	for n := 1; n <= 64; n++ {
		places := spread(2 * n)[n:]
		for _, units := range [][]api.Cell{spread(n), slices.Repeat(line(0), n), slices.Repeat(places[n-1:], n)} {
			m := matched(t, units, places)
			slices.Sort(m)
			if !slices.Equal(m, counted(n)) {
				t.Errorf("of %d places are taken: %v", n, m)
			}
		}
	}
}

// R3: memory.

func TestHandedIn(t *testing.T) {
	for n := range 67 {
		// What lies in the room behind a list's end is nobody's: there may be anything.
		units := append(spread(n), at(0, 0), at(math.MinInt, 257), at(1, 1))
		places := append(spread(2 * n)[n:], at(0, 0), at(math.MaxInt, -129), at(2, 2))
		m := append(backwards(n), n, -7, 0)
		wereUnits, werePlaces, was := slices.Clone(units), slices.Clone(places), slices.Clone(m)
		for _, k := range []int{n, n + 1, n + 2} {
			assign.Match(units[:n], places[:k])
			assign.Total(units[:n], places[:k], m[:n])
			assign.Stable(units[:n], places[:k], m[:n])
			assign.Stable(units[:n], places[:n], m[:k])
		}
		if !slices.Equal(units, wereUnits) || !slices.Equal(places, werePlaces) || !slices.Equal(m, was) {
			t.Fatalf("of %d: %v, %v, %v became %v, %v, %v", n, wereUnits, werePlaces, was, units, places, m)
		}
	}
	// A nearer one in that room is none of them.
	matches(t, line(0, 10, 1)[:2], line(2, 12, 0)[:2], 0, 1)
	adds(t, line(0, 10, 1)[:2], line(2, 12, 0)[:2], []int{1, 0, 2}[:2], 120+80)
}

func TestTold(t *testing.T) {
	units, places := spread(10), spread(20)[10:]
	first, second := matched(t, units, places), matched(t, units, places)
	want := slices.Clone(first)
	for i := range first[:cap(first)] {
		first[:cap(first)][i] = -9
	}
	if !slices.Equal(second, want) {
		t.Errorf("what was told became %v, want %v", second, want)
	}
	matches(t, units, places, want...)
	// Nor is what was handed in kept: what comes of it later turns nothing that was told.
	for i := range units {
		units[i], places[i] = at(i, 0), at(-i, 0)
	}
	if !slices.Equal(second, want) {
		t.Errorf("what was told became %v, want %v", second, want)
	}
}
