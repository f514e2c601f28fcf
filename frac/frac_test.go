package frac

import (
	"math"
	"math/big"
	"testing"

	"weirhouse/api"
)

const most = 1 << 30

// invalid fractions: each of them breaks one bound of its numerator or
// denominator, or both.
var invalid = []api.Frac{
	{},
	{Num: 1, Den: 0},
	{Num: 1, Den: -1},
	{Num: 1, Den: -2},
	{Num: -1, Den: -1},
	{Num: 1, Den: most + 1},
	{Num: most + 1, Den: 1},
	{Num: -most - 1, Den: 1},
	{Num: 2 * most, Den: 2 * most},
	{Num: math.MaxInt, Den: 1},
	{Num: math.MinInt, Den: 1},
	{Num: 1, Den: math.MaxInt},
	{Num: 1, Den: math.MinInt},
	{Num: math.MinInt, Den: math.MinInt},
}

// valid fractions: small ones, in lowest terms or not, and those at the bounds.
var valid = grid()

func grid() []api.Frac {
	nums := []int{-most, 1 - most, -most / 2, -65536, -12, -7, -3, -2, -1, 0, 1, 2, 3, 4, 6, 9, 12, 32768, 65535, most / 3, most / 2, most - 1, most}
	dens := []int{1, 2, 3, 4, 6, 8, 9, 12, 32768, 65537, most / 3, most / 2, most - 1, most}
	var out []api.Frac
	for _, num := range nums {
		for _, den := range dens {
			out = append(out, api.Frac{Num: num, Den: den})
		}
	}
	return out
}

func exact(a api.Frac) *big.Rat { return big.NewRat(int64(a.Num), int64(a.Den)) }

// stored returns the fraction for r, which big.Rat keeps in lowest terms, or
// ErrFull if its numerator or denominator is out of bounds.
func stored(r *big.Rat) (api.Frac, api.Errno) {
	bound := big.NewInt(most)
	if r.Denom().Cmp(bound) > 0 || r.Num().CmpAbs(bound) > 0 {
		return api.Frac{}, api.ErrFull
	}
	return api.Frac{Num: int(r.Num().Int64()), Den: int(r.Denom().Int64())}, api.OK
}

// B1: arithmetic.

func TestRight(t *testing.T) {
	for _, a := range valid {
		if !Right(a) {
			t.Errorf("Right(%v) = false, want true", a)
		}
	}
	for _, a := range invalid {
		if Right(a) {
			t.Errorf("Right(%v) = true, want false", a)
		}
	}
}

func TestLow(t *testing.T) {
	cases := []struct{ a, want api.Frac }{
		{api.Frac{Num: 12, Den: 8}, api.Frac{Num: 3, Den: 2}},
		{api.Frac{Num: -12, Den: 8}, api.Frac{Num: -3, Den: 2}},
		{api.Frac{Num: 3, Den: 2}, api.Frac{Num: 3, Den: 2}},
		{api.Frac{Num: 7, Den: 1}, api.Frac{Num: 7, Den: 1}},
		{api.Frac{Num: 8, Den: 4}, api.Frac{Num: 2, Den: 1}},
		{api.Frac{Num: 0, Den: 1}, api.Frac{Num: 0, Den: 1}},
		{api.Frac{Num: 0, Den: 9}, api.Frac{Num: 0, Den: 1}},
		{api.Frac{Num: 0, Den: most}, api.Frac{Num: 0, Den: 1}},
		{api.Frac{Num: most, Den: most}, api.Frac{Num: 1, Den: 1}},
		{api.Frac{Num: -most, Den: most}, api.Frac{Num: -1, Den: 1}},
		{api.Frac{Num: most, Den: most - 1}, api.Frac{Num: most, Den: most - 1}},
		{api.Frac{Num: 2, Den: most}, api.Frac{Num: 1, Den: most / 2}},
	}
	for _, c := range cases {
		if got, err := Low(c.a); got != c.want || err != api.OK {
			t.Errorf("Low(%v) = %v, %d, want %v", c.a, got, err, c.want)
		}
	}
	for _, a := range valid {
		want, _ := stored(exact(a))
		if got, err := Low(a); got != want || err != api.OK {
			t.Errorf("Low(%v) = %v, %d, want %v", a, got, err, want)
		}
	}
	for _, a := range invalid {
		if got, err := Low(a); got != (api.Frac{}) || err != api.ErrRange {
			t.Errorf("Low(%v) = %v, %d, want ErrRange", a, got, err)
		}
	}
}

func TestCmp(t *testing.T) {
	cases := []struct {
		a, b api.Frac
		want int
	}{
		{api.Frac{Num: 1, Den: 3}, api.Frac{Num: 1, Den: 2}, -1},
		{api.Frac{Num: 1, Den: 2}, api.Frac{Num: 1, Den: 3}, 1},
		{api.Frac{Num: 2, Den: 4}, api.Frac{Num: 3, Den: 6}, 0},
		{api.Frac{Num: 0, Den: 5}, api.Frac{Num: 0, Den: 7}, 0},
		{api.Frac{Num: -1, Den: 2}, api.Frac{Num: -1, Den: 3}, -1},
		{api.Frac{Num: -1, Den: 2}, api.Frac{Num: 1, Den: 3}, -1},
		{api.Frac{Num: most - 1, Den: most}, api.Frac{Num: most - 2, Den: most - 1}, 1},
		{api.Frac{Num: most, Den: 1}, api.Frac{Num: -most, Den: 1}, 1},
	}
	for _, c := range cases {
		if got, err := Cmp(c.a, c.b); got != c.want || err != api.OK {
			t.Errorf("Cmp(%v, %v) = %d, %d, want %d", c.a, c.b, got, err, c.want)
		}
	}
}

func TestAdd(t *testing.T) {
	cases := []struct {
		a, b, want api.Frac
		err        api.Errno
	}{
		{api.Frac{Num: 1, Den: 6}, api.Frac{Num: 1, Den: 3}, api.Frac{Num: 1, Den: 2}, api.OK},
		{api.Frac{Num: 2, Den: 12}, api.Frac{Num: 3, Den: 9}, api.Frac{Num: 1, Den: 2}, api.OK},
		{api.Frac{Num: 1, Den: 2}, api.Frac{Num: -1, Den: 2}, api.Frac{Num: 0, Den: 1}, api.OK},
		{api.Frac{Num: -7, Den: 2}, api.Frac{Num: 3, Den: 2}, api.Frac{Num: -2, Den: 1}, api.OK},
		// At the bounds of the numerator.
		{api.Frac{Num: most - 1, Den: 1}, api.Frac{Num: 1, Den: 1}, api.Frac{Num: most, Den: 1}, api.OK},
		{api.Frac{Num: most, Den: 1}, api.Frac{Num: 1, Den: 1}, api.Frac{}, api.ErrFull},
		{api.Frac{Num: 1 - most, Den: 1}, api.Frac{Num: -1, Den: 1}, api.Frac{Num: -most, Den: 1}, api.OK},
		{api.Frac{Num: -most, Den: 1}, api.Frac{Num: -1, Den: 1}, api.Frac{}, api.ErrFull},
		// At the bound of the denominator: what counts is the sum in lowest terms.
		{api.Frac{Num: 1, Den: 32768}, api.Frac{Num: 1, Den: 32767}, api.Frac{Num: 65535, Den: 32768 * 32767}, api.OK},
		{api.Frac{Num: 1, Den: 32768}, api.Frac{Num: 1, Den: 32769}, api.Frac{}, api.ErrFull},
		{api.Frac{Num: 1, Den: most}, api.Frac{Num: 0, Den: most}, api.Frac{Num: 1, Den: most}, api.OK},
		{api.Frac{Num: 1, Den: most}, api.Frac{Num: 1, Den: most}, api.Frac{Num: 1, Den: most / 2}, api.OK},
		{api.Frac{Num: 1, Den: most}, api.Frac{Num: 1, Den: most - 1}, api.Frac{}, api.ErrFull},
		{api.Frac{Num: most, Den: most}, api.Frac{Num: most, Den: most}, api.Frac{Num: 2, Den: 1}, api.OK},
	}
	for _, c := range cases {
		if got, err := Add(c.a, c.b); got != c.want || err != c.err {
			t.Errorf("Add(%v, %v) = %v, %d, want %v, %d", c.a, c.b, got, err, c.want, c.err)
		}
	}
}

func TestMul(t *testing.T) {
	cases := []struct {
		a, b, want api.Frac
		err        api.Errno
	}{
		{api.Frac{Num: 2, Den: 3}, api.Frac{Num: 3, Den: 4}, api.Frac{Num: 1, Den: 2}, api.OK},
		{api.Frac{Num: -7, Den: 2}, api.Frac{Num: 4, Den: 7}, api.Frac{Num: -2, Den: 1}, api.OK},
		{api.Frac{Num: -3, Den: 2}, api.Frac{Num: -3, Den: 2}, api.Frac{Num: 9, Den: 4}, api.OK},
		{api.Frac{Num: 0, Den: most}, api.Frac{Num: most, Den: most - 1}, api.Frac{Num: 0, Den: 1}, api.OK},
		// At the bounds of the numerator and of the denominator.
		{api.Frac{Num: most / 2, Den: 1}, api.Frac{Num: 2, Den: 1}, api.Frac{Num: most, Den: 1}, api.OK},
		{api.Frac{Num: most / 2, Den: 1}, api.Frac{Num: 3, Den: 1}, api.Frac{}, api.ErrFull},
		{api.Frac{Num: most / 2, Den: 1}, api.Frac{Num: -2, Den: 1}, api.Frac{Num: -most, Den: 1}, api.OK},
		{api.Frac{Num: most / 2, Den: 1}, api.Frac{Num: -3, Den: 1}, api.Frac{}, api.ErrFull},
		{api.Frac{Num: 1, Den: most / 2}, api.Frac{Num: 1, Den: 2}, api.Frac{Num: 1, Den: most}, api.OK},
		{api.Frac{Num: 1, Den: most / 2}, api.Frac{Num: 1, Den: 3}, api.Frac{}, api.ErrFull},
		{api.Frac{Num: most, Den: most - 1}, api.Frac{Num: most - 1, Den: most}, api.Frac{Num: 1, Den: 1}, api.OK},
		{api.Frac{Num: -most, Den: 1}, api.Frac{Num: -most, Den: 1}, api.Frac{}, api.ErrFull},
		{api.Frac{Num: -most, Den: most}, api.Frac{Num: most, Den: most}, api.Frac{Num: -1, Den: 1}, api.OK},
	}
	for _, c := range cases {
		if got, err := Mul(c.a, c.b); got != c.want || err != c.err {
			t.Errorf("Mul(%v, %v) = %v, %d, want %v, %d", c.a, c.b, got, err, c.want, c.err)
		}
	}
}

func TestPairsAreExact(t *testing.T) {
	for _, a := range valid {
		for _, b := range valid {
			x, y := exact(a), exact(b)
			if got, err := Cmp(a, b); got != x.Cmp(y) || err != api.OK {
				t.Errorf("Cmp(%v, %v) = %d, %d, want %d", a, b, got, err, x.Cmp(y))
			}
			sum, code := stored(new(big.Rat).Add(x, y))
			if got, err := Add(a, b); got != sum || err != code {
				t.Errorf("Add(%v, %v) = %v, %d, want %v, %d", a, b, got, err, sum, code)
			}
			product, code := stored(new(big.Rat).Mul(x, y))
			if got, err := Mul(a, b); got != product || err != code {
				t.Errorf("Mul(%v, %v) = %v, %d, want %v, %d", a, b, got, err, product, code)
			}
		}
	}
}

// An invalid operand is reported whichever operand it is, and before ErrFull:
// with most as the other operand many of the results would not be valid either.
func TestPairsWithInvalidOperands(t *testing.T) {
	others := append([]api.Frac{{Num: 1, Den: 2}, {Num: most, Den: 1}, {Num: 0, Den: 1}}, invalid...)
	for _, bad := range invalid {
		for _, other := range others {
			wantErrRange(t, bad, other)
			wantErrRange(t, other, bad)
		}
	}
}

func wantErrRange(t *testing.T, a, b api.Frac) {
	t.Helper()
	if got, err := Cmp(a, b); got != 0 || err != api.ErrRange {
		t.Errorf("Cmp(%v, %v) = %d, %d, want ErrRange", a, b, got, err)
	}
	if got, err := Add(a, b); got != (api.Frac{}) || err != api.ErrRange {
		t.Errorf("Add(%v, %v) = %v, %d, want ErrRange", a, b, got, err)
	}
	if got, err := Mul(a, b); got != (api.Frac{}) || err != api.ErrRange {
		t.Errorf("Mul(%v, %v) = %v, %d, want ErrRange", a, b, got, err)
	}
}

// B2: rounding and roots.

func TestFloorAndCeil(t *testing.T) {
	cases := []struct {
		a           api.Frac
		floor, ceil int
	}{
		{api.Frac{Num: 0, Den: 1}, 0, 0},
		{api.Frac{Num: 0, Den: 9}, 0, 0},
		{api.Frac{Num: 7, Den: 2}, 3, 4},
		{api.Frac{Num: -7, Den: 2}, -4, -3},
		{api.Frac{Num: 8, Den: 2}, 4, 4},
		{api.Frac{Num: -8, Den: 2}, -4, -4},
		{api.Frac{Num: 1, Den: most}, 0, 1},
		{api.Frac{Num: -1, Den: most}, -1, 0},
		{api.Frac{Num: most, Den: 1}, most, most},
		{api.Frac{Num: -most, Den: 1}, -most, -most},
		{api.Frac{Num: most, Den: most - 1}, 1, 2},
		{api.Frac{Num: -most, Den: most - 1}, -2, -1},
	}
	for _, c := range cases {
		if got, err := Floor(c.a); got != c.floor || err != api.OK {
			t.Errorf("Floor(%v) = %d, %d, want %d", c.a, got, err, c.floor)
		}
		if got, err := Ceil(c.a); got != c.ceil || err != api.OK {
			t.Errorf("Ceil(%v) = %d, %d, want %d", c.a, got, err, c.ceil)
		}
	}
	for _, a := range invalid {
		if got, err := Floor(a); got != 0 || err != api.ErrRange {
			t.Errorf("Floor(%v) = %d, %d, want ErrRange", a, got, err)
		}
		if got, err := Ceil(a); got != 0 || err != api.ErrRange {
			t.Errorf("Ceil(%v) = %d, %d, want ErrRange", a, got, err)
		}
	}
}

func TestFloorAndCeilEncloseTheFraction(t *testing.T) {
	for _, a := range valid {
		down, err := Floor(a)
		if err != api.OK || down*a.Den > a.Num || (down+1)*a.Den <= a.Num {
			t.Errorf("Floor(%v) = %d, %d", a, down, err)
		}
		up, err := Ceil(a)
		if err != api.OK || up*a.Den < a.Num || (up-1)*a.Den >= a.Num {
			t.Errorf("Ceil(%v) = %d, %d", a, up, err)
		}
	}
}

func TestRoot(t *testing.T) {
	cases := []struct{ n, want uint64 }{
		{0, 0},
		{1, 1},
		{2, 1},
		{3, 1},
		{4, 2},
		{8, 2},
		{9, 3},
		{99, 9},
		{100, 10},
		{1<<62 - 1, 1<<31 - 1},
		{1 << 62, 1 << 31},
		{1 << 63, 3037000499},
		{math.MaxUint64, 1<<32 - 1},
	}
	for _, c := range cases {
		if got := Root(c.n); got != c.want {
			t.Errorf("Root(%d) = %d, want %d", c.n, got, c.want)
		}
	}
}

// The numbers beside a square are where a root that rounds would be wrong.
func TestRootBesideSquares(t *testing.T) {
	roots := []uint64{1<<26 - 1, 1 << 26, 94906265, 94906266, 94906267, 1<<31 - 1, 1 << 31, 3037000499, 3037000500, 1<<32 - 2, 1<<32 - 1}
	for root := uint64(1); root <= 2000; root++ {
		roots = append(roots, root)
	}
	for _, root := range roots {
		square := root * root
		if got := Root(square - 1); got != root-1 {
			t.Errorf("Root(%d) = %d, want %d", square-1, got, root-1)
		}
		if got := Root(square); got != root {
			t.Errorf("Root(%d) = %d, want %d", square, got, root)
		}
		// (root+1)^2 - 1, which is less than 2^64 for every root of 32 bits.
		if last := square + 2*root; Root(last) != root {
			t.Errorf("Root(%d) = %d, want %d", last, Root(last), root)
		}
	}
}
