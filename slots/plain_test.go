package slots_test

import (
	"slices"
	"testing"

	"phalanx/api"
	"phalanx/slots"
)

// plainLayout goes from the first unit on: to the right by the pitch, and, behind a row's last column, to the beginning of the next one.
func plainLayout(l []api.Shape, to api.Cell) []api.Cell {
	columns := plainColumns(len(l))
	rows, pitch := 0, 0
	for i, s := range l {
		if i%columns == 0 {
			rows++
		}
		if s.Size > pitch {
			pitch = s.Size
		}
	}
	first := to
	for range columns / 2 {
		first.X -= pitch
	}
	for range rows / 2 {
		first.Y -= pitch
	}
	var spots []api.Cell
	for next := first; len(spots) < len(l); next.X, next.Y = first.X, next.Y+pitch {
		for column := 0; column < columns && len(spots) < len(l); column++ {
			spots = append(spots, next)
			next.X += pitch
		}
	}
	return spots
}

// plainColumns goes down from more columns than there may be, as long as one less does.
func plainColumns(n int) int {
	columns := 100
	for (columns-1)*(columns-1) >= n {
		columns--
	}
	return columns
}

// plainBox goes through all tiles of all footprints.
func plainBox(l []api.Shape, spots []api.Cell) api.Rect {
	var across, along []int
	for i, c := range spots {
		for step := range l[i].Size {
			across, along = append(across, c.X+step), append(along, c.Y+step)
		}
	}
	slices.Sort(across)
	slices.Sort(along)
	x, y := across[0], along[0]
	return rect(x, y, across[len(across)-1]-x+1, along[len(along)-1]-y+1)
}

// plainCode is the error that the words name.
func plainCode(l []api.Shape, to api.Cell) api.Errno {
	if len(l) > 64 {
		return api.ErrLong
	}
	for _, s := range l {
		if s.Class < 0 || s.Class > 3 || s.Size < 1 || s.Size > 4 {
			return api.ErrArg
		}
	}
	if len(l) == 0 || to.X < -128 || to.X > 256 || to.Y < -128 || to.Y > 256 {
		return api.ErrArg
	}
	return api.OK
}

// same holds all that a group is told against the plain reckoning.
func same(t *testing.T, l []api.Shape, to api.Cell) {
	t.Helper()
	code := plainCode(l, to)
	if code != api.OK {
		refuses(t, l, to, code)
		return
	}
	if want := plainColumns(len(l)); slots.Columns(len(l)) != want {
		t.Fatalf("Columns(%d) = %d, want %d", len(l), slots.Columns(len(l)), want)
	}
	spots := plainLayout(l, to)
	if got := laid(t, l, to); !slices.Equal(got, spots) {
		t.Fatalf("Layout(%v, %v) = %v, want %v", l, to, got, spots)
	}
	boxes(t, l, to, plainBox(l, spots))
}

// dice are numbers of no pattern, the same ones each time.
type dice uint64

func (d *dice) to(n int) int {
	*d = *d*6364136223846793005 + 1442695040888963407
	return int(uint64(*d)>>33) % n
}

// between draws a number of low to high.
func (d *dice) between(low, high int) int { return low + d.to(high-low+1) }

// shapes draws a group, of sizes up to one that is drawn, too, so that the pitch is not always 4.
func (d *dice) shapes(n int) []api.Shape {
	most := d.between(1, 4)
	l := make([]api.Shape, n)
	for i := range l {
		l[i] = shape(d.to(4), d.between(1, most))
	}
	return l
}

// spoiled is a group with one shape, of which one number is drawn anew: it may be, or may not.
func (d *dice) spoiled(l []api.Shape) []api.Shape {
	if len(l) == 0 {
		return l
	}
	s := &l[d.to(len(l))]
	if d.to(2) == 0 {
		s.Class = d.between(-2, 5)
	} else {
		s.Size = d.between(-1, 6)
	}
	return l
}

// TestDrawn holds drawn groups, at drawn places, against the plain reckoning.
func TestDrawn(t *testing.T) {
	var d dice = 17
	for range 60000 {
		l := d.shapes(d.between(1, 64))
		same(t, l, at(d.between(-128, 256), d.between(-128, 256)))
	}
}

// TestDrawnRefused draws such as often may not be.
func TestDrawnRefused(t *testing.T) {
	var d dice = 71
	refused := map[api.Errno]int{}
	for range 60000 {
		l, to := d.shapes(d.between(0, 68)), at(d.between(-128, 256), d.between(-128, 256))
		if d.to(2) == 0 {
			l = d.spoiled(l)
		}
		if d.to(4) == 0 {
			to = at(d.between(-140, 270), d.between(-140, 270))
		}
		same(t, l, to)
		refused[plainCode(l, to)]++
	}
	for _, code := range []api.Errno{api.OK, api.ErrArg, api.ErrLong} {
		if refused[code] < 1000 {
			t.Errorf("only %d groups with error %d were drawn", refused[code], code)
		}
	}
}

// TestAllSmall goes through all groups of up to five units, of all sizes.
func TestAllSmall(t *testing.T) {
	for n, groups := 1, 4; n <= 5; n, groups = n+1, groups*4 {
		for group := range groups {
			l := make([]api.Shape, n)
			for i, left := 0, group; i < n; i, left = i+1, left/4 {
				l[i] = shape(i%api.Classes, 1+left%4)
			}
			same(t, l, at(group%7, -group%5))
		}
	}
}

// TestAllPlaces goes through all X and Y that a place may have, and some beyond.
func TestAllPlaces(t *testing.T) {
	for n := -140; n <= 270; n++ {
		for _, l := range [][]api.Shape{sized(3), sized(1, 2, 1), mixed(64, 3)} {
			same(t, l, at(n, 0))
			same(t, l, at(0, n))
			same(t, l, at(n, n))
		}
	}
}

// TestSameCalls: what is told hangs on the arguments alone (R4), whatever was asked ahead.
func TestSameCalls(t *testing.T) {
	type answer struct {
		shapes []api.Shape
		to     api.Cell
		spots  []api.Cell
		box    api.Rect
	}
	var d dice = 5
	var l []answer
	for range 500 {
		x := answer{shapes: d.shapes(d.between(1, 64)), to: at(d.between(-128, 256), d.between(-128, 256))}
		x.spots, x.box = laid(t, x.shapes, x.to), boxed(t, x.shapes, x.to)
		l = append(l, x)
	}
	slices.Reverse(l)
	for _, x := range l {
		boxes(t, x.shapes, x.to, x.box)
		if got := laid(t, x.shapes, x.to); !slices.Equal(got, x.spots) {
			t.Fatalf("Layout(%v, %v) = %v, then %v", x.shapes, x.to, x.spots, got)
		}
	}
}
