package fixed_test

import (
	"math"
	"math/big"
	"testing"

	"phalanx/api"
	"phalanx/fixed"
)

const (
	least = math.MinInt64
	most  = math.MaxInt64
)

// answer is what a call tells.
type answer struct {
	n  int64
	ok bool
}

func of(n int64, ok bool) answer { return answer{n, ok} }

func yes(n int64) answer { return answer{n, true} }

// no is the answer where there is no value: 0 and false.
var no = answer{0, false}

// pairCase is a call of two numbers, and what it is to tell.
type pairCase struct {
	a, b int64
	want answer
}

func checkPairs(t *testing.T, name string, call func(a, b int64) (int64, bool), cases []pairCase) {
	t.Helper()
	for _, c := range cases {
		if got := of(call(c.a, c.b)); got != c.want {
			t.Errorf("%s(%d, %d) = %v, want %v", name, c.a, c.b, got, c.want)
		}
	}
}

// shiftCase is a call of a number and of how many bits.
type shiftCase struct {
	a    int64
	n    int
	want answer
}

func checkShifts(t *testing.T, name string, call func(a int64, n int) (int64, bool), cases []shiftCase) {
	t.Helper()
	for _, c := range cases {
		if got := of(call(c.a, c.n)); got != c.want {
			t.Errorf("%s(%d, %d) = %v, want %v", name, c.a, c.n, got, c.want)
		}
	}
}

// Fi1, by hand.

func TestAdd(t *testing.T) {
	checkPairs(t, "Add", fixed.Add, []pairCase{
		{2, 3, yes(5)}, {2, -3, yes(-1)}, {0, 0, yes(0)},
		{most, 0, yes(most)}, {most, 1, no}, {most, most, no}, {most - 1, 1, yes(most)},
		{least, 0, yes(least)}, {least, -1, no}, {least, least, no}, {least + 1, -1, yes(least)},
		{least, most, yes(-1)}, {most, least, yes(-1)},
	})
}

func TestSub(t *testing.T) {
	checkPairs(t, "Sub", fixed.Sub, []pairCase{
		{2, 3, yes(-1)}, {2, -3, yes(5)}, {0, 0, yes(0)},
		{0, most, yes(-most)}, {0, least, no}, {-1, least, yes(most)}, {-1, most, yes(least)}, {-2, most, no},
		{least, 1, no}, {least, least, yes(0)}, {most, -1, no}, {most, most, yes(0)}, {most, least, no}, {least, most, no},
	})
}

func TestMul(t *testing.T) {
	checkPairs(t, "Mul", fixed.Mul, []pairCase{
		{6, 7, yes(42)}, {-6, 7, yes(-42)}, {-6, -7, yes(42)}, {0, least, yes(0)}, {most, 0, yes(0)},
		{least, 1, yes(least)}, {least, -1, no}, {-1, least, no}, {most, -1, yes(-most)}, {most, 2, no},
		{1 << 31, 1 << 31, yes(1 << 62)}, {1 << 31, 1 << 32, no}, {-1 << 31, 1 << 32, yes(least)}, {1 << 32, 1 << 32, no},
		{least, least, no}, {most, most, no}, {least, most, no}, {3037000499, 3037000499, yes(9223372030926249001)}, {3037000500, 3037000500, no},
	})
}

func TestDiv(t *testing.T) {
	checkPairs(t, "Div", fixed.Div, []pairCase{
		{7, 2, yes(3)}, {-7, 2, yes(-4)}, {7, -2, yes(-4)}, {-7, -2, yes(3)},
		{6, 2, yes(3)}, {-6, 2, yes(-3)}, {6, -2, yes(-3)}, {-6, -2, yes(3)},
		{0, 5, yes(0)}, {0, -5, yes(0)}, {1, most, yes(0)}, {-1, most, yes(-1)}, {1, least, yes(-1)}, {-1, least, yes(0)},
		{0, 0, no}, {1, 0, no}, {-1, 0, no}, {least, 0, no}, {most, 0, no},
		{least, -1, no}, {least, 1, yes(least)}, {most, -1, yes(-most)}, {least, most, yes(-2)}, {most, least, yes(-1)},
		{least, least, yes(1)}, {least + 1, -1, yes(most)}, {least, 2, yes(-1 << 62)}, {least, -2, yes(1 << 62)},
	})
}

func TestMod(t *testing.T) {
	checkPairs(t, "Mod", fixed.Mod, []pairCase{
		{7, 2, yes(1)}, {-7, 2, yes(1)}, {7, -2, yes(-1)}, {-7, -2, yes(-1)},
		{6, 2, yes(0)}, {-6, 2, yes(0)}, {6, -2, yes(0)}, {-6, -2, yes(0)}, {0, 5, yes(0)}, {0, -5, yes(0)},
		{0, 0, no}, {1, 0, no}, {least, 0, no}, {most, 0, no}, {least, -1, no}, {least, 1, yes(0)}, {most, -1, yes(0)},
		{least, most, yes(most - 1)}, {most, least, yes(-1)}, {1, least, yes(least + 1)}, {-1, most, yes(most - 1)}, {-1, least, yes(-1)},
	})
}

func TestShl(t *testing.T) {
	checkShifts(t, "Shl", fixed.Shl, []shiftCase{
		{3, 0, yes(3)}, {3, 4, yes(48)}, {-3, 4, yes(-48)}, {least, 0, yes(least)}, {most, 0, yes(most)}, {most, 1, no}, {least, 1, no},
		{1, 62, yes(1 << 62)}, {1, 63, no}, {-1, 63, yes(least)}, {-2, 63, no}, {-2, 62, yes(least)}, {2, 62, no}, {0, 63, yes(0)},
		{1, 64, no}, {-1, 64, no}, {0, 64, yes(0)}, {1, 65, no}, {0, 65, yes(0)}, {least, 64, no},
		{0, math.MaxInt, yes(0)}, {1, math.MaxInt, no}, {-1, math.MaxInt, no}, {1, 1 << 32, no}, {1, 128, no},
		{0, -1, no}, {1, -1, no}, {-1, -1, no}, {2, -64, no}, {0, math.MinInt, no}, {1, math.MinInt, no},
	})
}

func TestSqrt(t *testing.T) {
	for a, want := range map[int64]answer{
		0: yes(0), 1: yes(1), 2: yes(1), 3: yes(1), 4: yes(2), 8: yes(2), 9: yes(3), 15: yes(3), 16: yes(4), 99: yes(9), 100: yes(10),
		1<<62 - 1: yes(1<<31 - 1), 1 << 62: yes(1 << 31), most: yes(3037000499),
		9223372030926249001: yes(3037000499), 9223372030926249000: yes(3037000498),
		-1: no, -4: no, least: no,
	} {
		if got := of(fixed.Sqrt(a)); got != want {
			t.Errorf("Sqrt(%d) = %v, want %v", a, got, want)
		}
	}
}

func TestNarrow(t *testing.T) {
	checkShifts(t, "Narrow", fixed.Narrow, []shiftCase{
		{127, 8, yes(127)}, {128, 8, no}, {-128, 8, yes(-128)}, {-129, 8, no}, {256, 8, no},
		{0, 1, yes(0)}, {-1, 1, yes(-1)}, {1, 1, no}, {-2, 1, no}, {1, 2, yes(1)}, {2, 2, no},
		{most, 64, yes(most)}, {least, 64, yes(least)}, {most, 63, no}, {least, 63, no}, {1<<62 - 1, 63, yes(1<<62 - 1)}, {-1 << 62, 63, yes(-1 << 62)},
		{0, 0, no}, {-1, 0, no}, {0, 65, no}, {1, 65, no}, {0, -1, no}, {5, -8, no}, {0, math.MaxInt, no}, {0, math.MinInt, no}, {0, 72, no},
	})
}

// Fi2, by hand.

func TestFrom(t *testing.T) {
	for n, want := range map[int64]answer{
		0: yes(0), 1: yes(api.One), -1: yes(-api.One), 5: yes(5 * api.One),
		1<<31 - 1: yes((1<<31 - 1) * api.One), 1 << 31: no, -1 << 31: yes(least), -1<<31 - 1: no, 1 << 32: no, most: no, least: no,
	} {
		if got := of(fixed.From(n)); got != want {
			t.Errorf("From(%d) = %v, want %v", n, got, want)
		}
	}
}

func TestFloor(t *testing.T) {
	for q, want := range map[int64]int64{
		0: 0, 1: 0, -1: -1, api.One: 1, api.One - 1: 0, api.One + 1: 1, -api.One: -1, -api.One + 1: -1, -api.One - 1: -2,
		7 * api.One / 2: 3, -7 * api.One / 2: -4, most: 1<<31 - 1, least: -1 << 31,
	} {
		if got := fixed.Floor(q); got != want {
			t.Errorf("Floor(%d) = %d, want %d", q, got, want)
		}
	}
}

func TestMulQ(t *testing.T) {
	checkPairs(t, "MulQ", fixed.MulQ, []pairCase{
		{3 * api.One / 2, -api.One / 2, yes(-3 * api.One / 4)}, {2 * api.One, 3 * api.One, yes(6 * api.One)},
		{0, least, yes(0)}, {1, 1, yes(0)}, {1, -1, yes(-1)}, {-1, -1, yes(0)}, {-1, 1, yes(-1)}, {api.One - 1, 1, yes(0)}, {api.One, -1, yes(-1)}, {api.One + 1, -1, yes(-2)},
		{most, api.One, yes(most)}, {least, api.One, yes(least)}, {least, -api.One, no}, {most, -api.One, yes(-most)}, {most, api.One + 1, no},
		{most, 2 * api.One, no}, {least, 2 * api.One, no}, {least, least, no}, {most, most, no}, {least, most, no}, {most, least, no},
		{1 << 47, 1 << 47, yes(1 << 62)}, {1 << 48, 1 << 47, no}, {-1 << 48, 1 << 47, yes(least)}, {-1<<48 - 1, 1 << 47, no}, {most, api.One / 2, yes(1<<62 - 1)}, {most, -api.One / 2, yes(-1 << 62)},
	})
}

func TestDivQ(t *testing.T) {
	checkPairs(t, "DivQ", fixed.DivQ, []pairCase{
		{api.One, 3 * api.One, yes(api.One / 3)}, {-api.One, 3 * api.One, yes(-api.One/3 - 1)}, {api.One, -3 * api.One, yes(-api.One/3 - 1)}, {-api.One, -3 * api.One, yes(api.One / 3)},
		{6 * api.One, 2 * api.One, yes(3 * api.One)}, {0, 7, yes(0)}, {0, -7, yes(0)}, {0, least, yes(0)},
		{0, 0, no}, {1, 0, no}, {-1, 0, no}, {most, 0, no}, {least, 0, no},
		{most, api.One, yes(most)}, {least, api.One, yes(least)}, {least, -api.One, no}, {most, -api.One, yes(-most)},
		{most, most, yes(api.One)}, {least, least, yes(api.One)}, {least, most, yes(-api.One - 1)}, {most, least, yes(-api.One)},
		{most, 1, no}, {least, 1, no}, {most, -1, no}, {least, -1, no}, {1 << 31, 1, no}, {1<<31 - 1, 1, yes(most - api.One + 1)}, {-1 << 31, 1, yes(least)}, {1 << 31, -1, yes(least)}, {-1 << 31, -1, no}, {-1<<31 - 1, 1, no},
		{1, most, yes(0)}, {-1, most, yes(-1)}, {1, least, yes(-1)}, {-1, least, yes(0)}, {1 << 62, api.One / 2, no}, {-1 << 62, api.One / 2, yes(least)}, {1 << 62, -api.One / 2, yes(least)}, {-1<<62 - 1, api.One / 2, no},
		{most, 1<<31 - 1, no}, {most, 1 << 31, no}, {-most, api.One - 1, no},
	})
}

// Fi3, by hand.

func TestOctile(t *testing.T) {
	const alone = most / api.Straight
	const even = most / api.Diagonal
	checkPairs(t, "Octile", fixed.Octile, []pairCase{
		{3, -5, yes(62)}, {5, 3, yes(62)}, {0, 0, yes(0)}, {4, 0, yes(40)}, {0, -4, yes(40)}, {-4, 4, yes(56)}, {1, 2, yes(24)},
		{alone, 0, yes(alone * api.Straight)}, {0, -alone, yes(alone * api.Straight)}, {alone + 1, 0, no}, {0, -alone - 1, no},
		{alone, 1, yes(alone*api.Straight + 4)}, {alone, 2, no},
		{even, even, yes(even * api.Diagonal)}, {-even, even, yes(even * api.Diagonal)}, {even + 1, even + 1, no}, {even + 1, even, no},
		{most, 0, no}, {most, most, no}, {least, 0, no}, {0, least, no}, {least, least, no}, {least, most, no}, {most, least, no}, {least, 1, no}, {least, -most, no},
	})
}

func TestExamples(t *testing.T) {
	for _, c := range []struct {
		name      string
		got, want answer
	}{
		{"Div(-7, 2)", of(fixed.Div(-7, 2)), yes(-4)},
		{"Mod(-7, 2)", of(fixed.Mod(-7, 2)), yes(1)},
		{"Mod(7, -2)", of(fixed.Mod(7, -2)), yes(-1)},
		{"Div(-2^63, -1)", of(fixed.Div(least, -1)), no},
		{"MulQ(3 * One / 2, -One / 2)", of(fixed.MulQ(3*api.One/2, -api.One/2)), yes(-3 * api.One / 4)},
		{"Octile(3, -5)", of(fixed.Octile(3, -5)), yes(62)},
	} {
		if c.got != c.want {
			t.Errorf("%s = %v, want %v", c.name, c.got, c.want)
		}
	}
}

// Fi1 to Fi3, held against numbers of any length.

// sample is numbers at and beside the powers of 2 and the edges of sums, products and roots, and some scattered ones.
func sample() []int64 {
	seen := map[int64]bool{}
	var l []int64
	add := func(n int64) {
		if !seen[n] {
			seen[n] = true
			l = append(l, n)
		}
	}
	for _, n := range []int64{0, 3, 5, 6, 7, 10, 14, 100, 3037000499, 3037000500, most / 10, most / 14, most / 3, 3 * api.One / 2, 5*api.One/3 + 1} {
		for d := int64(-1); d <= 1; d++ {
			add(n + d)
			add(-n + d)
		}
	}
	for k := range 63 {
		for d := int64(-1); d <= 1; d++ {
			add(1<<k + d)
			add(-1<<k + d)
		}
	}
	add(most)
	add(most - 1)
	add(least)
	add(least + 1)
	// A plain congruence, for a test is to tell the same each time.
	x := uint64(1)
	for i := range 120 {
		x = x*6364136223846793005 + 1442695040888963407
		add(int64(x) >> (i % 60))
	}
	return l
}

// told is what a call is to tell of a value: nil is none.
func told(v *big.Int) answer {
	if v == nil || !v.IsInt64() {
		return no
	}
	return yes(v.Int64())
}

// down is a quotient rounded down; nil by 0.
func down(a, b *big.Int) *big.Int {
	if b.Sign() == 0 {
		return nil
	}
	q, r := new(big.Int).QuoRem(a, b, new(big.Int))
	if r.Sign() != 0 && r.Sign() != b.Sign() {
		q.Sub(q, big.NewInt(1))
	}
	return q
}

// left is what a quotient leaves; nil, if that is no number of 64 bits.
func left(a, b *big.Int) *big.Int {
	q := down(a, b)
	if q == nil || !q.IsInt64() {
		return nil
	}
	return q.Sub(a, q.Mul(q, b))
}

func bigOctile(dx, dy *big.Int) *big.Int {
	x, y := new(big.Int).Abs(dx), new(big.Int).Abs(dy)
	if x.Cmp(y) > 0 {
		x, y = y, x
	}
	difference := new(big.Int).Sub(y, x)
	x.Mul(x, big.NewInt(api.Diagonal))
	return x.Add(x, difference.Mul(difference, big.NewInt(api.Straight)))
}

func TestPairsAgainstLongNumbers(t *testing.T) {
	one := big.NewInt(api.One)
	calls := []struct {
		name string
		call func(a, b int64) (int64, bool)
		want func(a, b *big.Int) *big.Int
	}{
		{"Add", fixed.Add, func(a, b *big.Int) *big.Int { return new(big.Int).Add(a, b) }},
		{"Sub", fixed.Sub, func(a, b *big.Int) *big.Int { return new(big.Int).Sub(a, b) }},
		{"Mul", fixed.Mul, func(a, b *big.Int) *big.Int { return new(big.Int).Mul(a, b) }},
		{"Div", fixed.Div, down},
		{"Mod", fixed.Mod, left},
		{"MulQ", fixed.MulQ, func(a, b *big.Int) *big.Int { return down(new(big.Int).Mul(a, b), one) }},
		{"DivQ", fixed.DivQ, func(a, b *big.Int) *big.Int { return down(new(big.Int).Mul(a, one), b) }},
		{"Octile", fixed.Octile, bigOctile},
	}
	l := sample()
	for _, c := range calls {
		for _, a := range l {
			for _, b := range l {
				if got, want := of(c.call(a, b)), told(c.want(big.NewInt(a), big.NewInt(b))); got != want {
					t.Fatalf("%s(%d, %d) = %v, want %v", c.name, a, b, got, want)
				}
			}
		}
	}
}

func TestShiftsAgainstLongNumbers(t *testing.T) {
	for _, a := range sample() {
		for n := -70; n <= 200; n++ {
			shifted, narrowed := no, no
			if n >= 0 {
				shifted = told(new(big.Int).Lsh(big.NewInt(a), uint(n)))
			}
			if n >= 1 && n <= 64 {
				edge := new(big.Int).Lsh(big.NewInt(1), uint(n-1))
				if big.NewInt(a).Cmp(edge) < 0 && big.NewInt(a).Cmp(new(big.Int).Neg(edge)) >= 0 {
					narrowed = yes(a)
				}
			}
			if got := of(fixed.Shl(a, n)); got != shifted {
				t.Fatalf("Shl(%d, %d) = %v, want %v", a, n, got, shifted)
			}
			if got := of(fixed.Narrow(a, n)); got != narrowed {
				t.Fatalf("Narrow(%d, %d) = %v, want %v", a, n, got, narrowed)
			}
		}
	}
}

func TestSinglesAgainstLongNumbers(t *testing.T) {
	one := big.NewInt(api.One)
	for _, a := range sample() {
		root := no
		if a >= 0 {
			root = told(new(big.Int).Sqrt(big.NewInt(a)))
		}
		if got := of(fixed.Sqrt(a)); got != root {
			t.Errorf("Sqrt(%d) = %v, want %v", a, got, root)
		}
		if got, want := of(fixed.From(a)), told(new(big.Int).Mul(big.NewInt(a), one)); got != want {
			t.Errorf("From(%d) = %v, want %v", a, got, want)
		}
		if got, want := fixed.Floor(a), down(big.NewInt(a), one).Int64(); got != want {
			t.Errorf("Floor(%d) = %d, want %d", a, got, want)
		}
	}
}

// Squares and what lies beside them are where a root turns.
func TestSqrtBesideSquares(t *testing.T) {
	for _, r := range sample() {
		square, ok := fixed.Mul(r, r)
		if r < 1 || !ok {
			continue
		}
		if got := of(fixed.Sqrt(square)); got != yes(r) {
			t.Errorf("Sqrt(%d) = %v, want %d", square, got, r)
		}
		if got := of(fixed.Sqrt(square - 1)); got != yes(r-1) {
			t.Errorf("Sqrt(%d) = %v, want %d", square-1, got, r-1)
		}
	}
}

// Fi4.

func TestUndo(t *testing.T) {
	l := sample()
	for _, a := range l {
		if n, ok := fixed.From(a); ok && fixed.Floor(n) != a {
			t.Errorf("Floor(From(%d)) = %d", a, fixed.Floor(n))
		}
		for _, b := range l {
			if sum, ok := fixed.Add(a, b); ok && of(fixed.Sub(sum, b)) != yes(a) {
				t.Fatalf("Sub does not undo Add(%d, %d)", a, b)
			}
			product, ok := fixed.Mul(a, b)
			if !ok || b == 0 {
				continue
			}
			if q, ok := fixed.Div(product, b); ok && q != a {
				t.Fatalf("Div does not undo Mul(%d, %d)", a, b)
			}
		}
	}
}

func TestDivAndModMakeTheNumber(t *testing.T) {
	l := sample()
	for _, a := range l {
		for _, b := range l {
			q, divides := fixed.Div(a, b)
			m, leaves := fixed.Mod(a, b)
			if divides != leaves {
				t.Fatalf("Div(%d, %d) tells %v, Mod %v", a, b, divides, leaves)
			}
			if !leaves {
				continue
			}
			if m != 0 && (m < 0) != (b < 0) {
				t.Fatalf("Mod(%d, %d) = %d: not of the divisor's sign", a, b, m)
			}
			// Of long numbers, for b times Div may be more than 64 bits.
			v := new(big.Int).Mul(big.NewInt(b), big.NewInt(q))
			if v.Add(v, big.NewInt(m)).Cmp(big.NewInt(a)) != 0 {
				t.Fatalf("%d times Div, and Mod, are %v, want %d", b, v, a)
			}
		}
	}
}

func TestOctileIsTheSameForSignsAndOrders(t *testing.T) {
	l := sample()
	for _, x := range l {
		for _, y := range l {
			want := of(fixed.Octile(x, y))
			if got := of(fixed.Octile(y, x)); got != want {
				t.Fatalf("Octile(%d, %d) = %v, the other way round %v", x, y, want, got)
			}
			// The least number has no other sign.
			if x == least || y == least {
				continue
			}
			for _, got := range []answer{of(fixed.Octile(-x, y)), of(fixed.Octile(x, -y)), of(fixed.Octile(-x, -y))} {
				if got != want {
					t.Fatalf("Octile(%d, %d) = %v, with other signs %v", x, y, want, got)
				}
			}
		}
	}
}

func TestOctileIsNeverAboveItsParts(t *testing.T) {
	const side = 6
	for x := int64(-side); x <= side; x++ {
		for y := int64(-side); y <= side; y++ {
			checkParts(t, x, y, side)
		}
	}
	l := sample()
	for i, x := range l {
		for j, u := range l {
			y, v := l[(i*7+j)%len(l)], l[(j*5+i)%len(l)]
			checkPart(t, x, y, u, v)
		}
	}
}

// checkParts parts one way at all places near it.
func checkParts(t *testing.T, x, y, side int64) {
	t.Helper()
	for u := -side; u <= side; u++ {
		for v := -side; v <= side; v++ {
			checkPart(t, x, y, u, v)
		}
	}
}

func checkPart(t *testing.T, x, y, u, v int64) {
	t.Helper()
	dx, goes := fixed.Add(x, u)
	dy, comes := fixed.Add(y, v)
	if !goes || !comes {
		return
	}
	first, ok1 := fixed.Octile(x, y)
	second, ok2 := fixed.Octile(u, v)
	whole, ok3 := fixed.Octile(dx, dy)
	if !ok1 || !ok2 || !ok3 {
		return
	}
	if sum, ok := fixed.Add(first, second); ok && whole > sum {
		t.Fatalf("Octile(%d, %d) = %d is above %d, by way of (%d, %d)", dx, dy, whole, sum, x, y)
	}
}
