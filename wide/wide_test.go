package wide

import (
	"math"
	"math/big"
	"testing"

	"weirhouse/api"
)

const most = math.MaxUint64

var (
	zero    = api.Wide{}
	one     = api.Wide{Lo: 1}
	lowMost = api.Wide{Lo: most}
	twoTo64 = api.Wide{Hi: 1}
	largest = api.Wide{Hi: most, Lo: most}
)

// A1: ordering, addition, subtraction, saturation and multiplication.

func TestCmp(t *testing.T) {
	cases := []struct {
		a, b api.Wide
		want int
	}{
		{zero, zero, 0},
		{zero, one, -1},
		{one, zero, 1},
		{lowMost, twoTo64, -1},
		{twoTo64, lowMost, 1},
		{api.Wide{Hi: 2, Lo: 1}, api.Wide{Hi: 1, Lo: 2}, 1},
		{api.Wide{Hi: 1, Lo: 2}, api.Wide{Hi: 2, Lo: 1}, -1},
		{api.Wide{Hi: 5, Lo: 6}, api.Wide{Hi: 5, Lo: 7}, -1},
		{api.Wide{Hi: 5, Lo: 7}, api.Wide{Hi: 5, Lo: 6}, 1},
		{api.Wide{Hi: 1 << 63}, api.Wide{Hi: 1<<63 - 1, Lo: most}, 1},
		{api.Wide{Lo: 1 << 63}, api.Wide{Lo: 1<<63 - 1}, 1},
		{largest, largest, 0},
		{largest, zero, 1},
	}
	for _, c := range cases {
		if got := Cmp(c.a, c.b); got != c.want {
			t.Errorf("Cmp(%v, %v) = %d, want %d", c.a, c.b, got, c.want)
		}
	}
}

func TestAddAndSat(t *testing.T) {
	cases := []struct {
		a, b, sum api.Wide
		over      bool
		sat       api.Wide
	}{
		{zero, zero, zero, false, zero},
		{api.Wide{Lo: 2}, api.Wide{Lo: 3}, api.Wide{Lo: 5}, false, api.Wide{Lo: 5}},
		{lowMost, one, twoTo64, false, twoTo64},
		{lowMost, lowMost, api.Wide{Hi: 1, Lo: most - 1}, false, api.Wide{Hi: 1, Lo: most - 1}},
		{api.Wide{Hi: 3, Lo: 4}, api.Wide{Hi: 5, Lo: 6}, api.Wide{Hi: 8, Lo: 10}, false, api.Wide{Hi: 8, Lo: 10}},
		{largest, zero, largest, false, largest},
		{api.Wide{Hi: most, Lo: most - 1}, one, largest, false, largest},
		{largest, one, zero, true, largest},
		{largest, largest, api.Wide{Hi: most, Lo: most - 1}, true, largest},
		{api.Wide{Hi: 1 << 63}, api.Wide{Hi: 1 << 63}, zero, true, largest},
		{api.Wide{Hi: most}, api.Wide{Hi: 1, Lo: 7}, api.Wide{Lo: 7}, true, largest},
	}
	for _, c := range cases {
		for _, pair := range [][2]api.Wide{{c.a, c.b}, {c.b, c.a}} {
			a, b := pair[0], pair[1]
			if sum, over := Add(a, b); sum != c.sum || over != c.over {
				t.Errorf("Add(%v, %v) = %v, %v, want %v, %v", a, b, sum, over, c.sum, c.over)
			}
			if got := Sat(a, b); got != c.sat {
				t.Errorf("Sat(%v, %v) = %v, want %v", a, b, got, c.sat)
			}
		}
	}
}

func TestSub(t *testing.T) {
	cases := []struct {
		a, b, want api.Wide
		less       bool
	}{
		{zero, zero, zero, false},
		{api.Wide{Lo: 5}, api.Wide{Lo: 3}, api.Wide{Lo: 2}, false},
		{twoTo64, one, lowMost, false},
		{api.Wide{Hi: 8, Lo: 1}, api.Wide{Hi: 3, Lo: 2}, api.Wide{Hi: 4, Lo: most}, false},
		{largest, largest, zero, false},
		{largest, zero, largest, false},
		{zero, one, largest, true},
		{api.Wide{Lo: 3}, api.Wide{Lo: 5}, api.Wide{Hi: most, Lo: most - 1}, true},
		{api.Wide{Hi: 4, Lo: 1}, api.Wide{Hi: 4, Lo: 2}, largest, true},
		{api.Wide{Hi: 4, Lo: 9}, api.Wide{Hi: 5, Lo: 2}, api.Wide{Hi: most, Lo: 7}, true},
		{zero, largest, one, true},
	}
	for _, c := range cases {
		if got, less := Sub(c.a, c.b); got != c.want || less != c.less {
			t.Errorf("Sub(%v, %v) = %v, %v, want %v, %v", c.a, c.b, got, less, c.want, c.less)
		}
	}
}

func TestMul(t *testing.T) {
	cases := []struct {
		a, b uint64
		want api.Wide
	}{
		{0, 0, zero},
		{0, most, zero},
		{1, most, lowMost},
		{6, 7, api.Wide{Lo: 42}},
		{1 << 32, 1 << 32, twoTo64},
		{1 << 63, 2, twoTo64},
		{2, most, api.Wide{Hi: 1, Lo: most - 1}},
		{most, most, api.Wide{Hi: most - 1, Lo: 1}},
	}
	for _, c := range cases {
		if got := Mul(c.a, c.b); got != c.want {
			t.Errorf("Mul(%d, %d) = %v, want %v", c.a, c.b, got, c.want)
		}
		if got := Mul(c.b, c.a); got != c.want {
			t.Errorf("Mul(%d, %d) = %v, want %v", c.b, c.a, got, c.want)
		}
	}
}

// A2: division and divisors.

func TestDiv(t *testing.T) {
	cases := []struct {
		a        api.Wide
		b        uint64
		quotient api.Wide
		rest     uint64
	}{
		{zero, 1, zero, 0},
		{zero, most, zero, 0},
		{api.Wide{Lo: 17}, 5, api.Wide{Lo: 3}, 2},
		{api.Wide{Lo: 4}, 5, zero, 4},
		{twoTo64, 2, api.Wide{Lo: 1 << 63}, 0},
		{twoTo64, 3, api.Wide{Lo: most / 3}, 1},
		{api.Wide{Hi: 7, Lo: 9}, 7, api.Wide{Hi: 1, Lo: 1}, 2},
		{api.Wide{Hi: 6, Lo: 9}, 7, api.Wide{Lo: 15811494920322472815}, 0},
		{api.Wide{Hi: most - 1, Lo: most}, most, lowMost, most - 1},
		{largest, 1, largest, 0},
		{largest, 2, api.Wide{Hi: 1<<63 - 1, Lo: most}, 1},
		{largest, most, api.Wide{Hi: 1, Lo: 1}, 0},
	}
	for _, c := range cases {
		quotient, rest, err := Div(c.a, c.b)
		if quotient != c.quotient || rest != c.rest || err != api.OK {
			t.Errorf("Div(%v, %d) = %v, %d, %d, want %v, %d, 0", c.a, c.b, quotient, rest, err, c.quotient, c.rest)
		}
	}
}

func TestDivByZero(t *testing.T) {
	for _, a := range []api.Wide{zero, one, twoTo64, {Hi: 7, Lo: 9}, largest} {
		quotient, rest, err := Div(a, 0)
		if quotient != zero || rest != 0 || err != api.ErrRange {
			t.Errorf("Div(%v, 0) = %v, %d, %d, want zeros and %d", a, quotient, rest, err, api.ErrRange)
		}
	}
}

func TestGcdAndLcm(t *testing.T) {
	cases := []struct {
		a, b, gcd uint64
		lcm       api.Wide
	}{
		{0, 0, 0, zero},
		{0, 5, 5, zero},
		{0, most, most, zero},
		{1, 1, 1, one},
		{12, 18, 6, api.Wide{Lo: 36}},
		{7, 13, 1, api.Wide{Lo: 91}},
		{9, 27, 9, api.Wide{Lo: 27}},
		{1 << 63, 12, 4, api.Wide{Hi: 1, Lo: 1 << 63}},
		{most, 1, 1, lowMost},
		{most, 10, 5, api.Wide{Hi: 1, Lo: most - 1}},
		{most, most, most, lowMost},
		{most, most - 1, 1, api.Wide{Hi: most - 2, Lo: 2}},
		// Neighbours in the Fibonacci sequence need the most divisions.
		{12200160415121876738, 7540113804746346429, 1, api.Wide{Hi: 4986820308158669648, Lo: 12469063318035917434}},
	}
	for _, c := range cases {
		for _, pair := range [][2]uint64{{c.a, c.b}, {c.b, c.a}} {
			a, b := pair[0], pair[1]
			if got := Gcd(a, b); got != c.gcd {
				t.Errorf("Gcd(%d, %d) = %d, want %d", a, b, got, c.gcd)
			}
			if got := Lcm(a, b); got != c.lcm {
				t.Errorf("Lcm(%d, %d) = %v, want %v", a, b, got, c.lcm)
			}
		}
	}
}

// The tests below compare every function with math/big on all pairs of a grid
// of numbers around the places where carries and borrows begin and end.

var words = []uint64{0, 1, 2, 3, 10, 1<<32 - 1, 1 << 32, 1<<32 + 1, 0x9e3779b97f4a7c15, 1<<63 - 1, 1 << 63, 1<<63 + 1, most - 1, most}

func wides() []api.Wide {
	var out []api.Wide
	for _, hi := range words {
		for _, lo := range words {
			out = append(out, api.Wide{Hi: hi, Lo: lo})
		}
	}
	return out
}

func word(n uint64) *big.Int { return new(big.Int).SetUint64(n) }

func exact(a api.Wide) *big.Int {
	n := new(big.Int).Lsh(word(a.Hi), 64)
	return n.Add(n, word(a.Lo))
}

func TestSumsAreExact(t *testing.T) {
	limit := new(big.Int).Lsh(big.NewInt(1), 128)
	for _, a := range wides() {
		for _, b := range wides() {
			x, y := exact(a), exact(b)
			if got := Cmp(a, b); got != x.Cmp(y) {
				t.Fatalf("Cmp(%v, %v) = %d, want %d", a, b, got, x.Cmp(y))
			}
			want := new(big.Int).Add(x, y)
			sum, over := Add(a, b)
			if over != (want.Cmp(limit) >= 0) || exact(sum).Cmp(want.Mod(want, limit)) != 0 {
				t.Fatalf("Add(%v, %v) = %v, %v, want %v", a, b, sum, over, want)
			}
			if sat := Sat(a, b); over && sat != largest || !over && sat != sum {
				t.Fatalf("Sat(%v, %v) = %v", a, b, sat)
			}
			want = new(big.Int).Sub(x, y)
			rest, less := Sub(a, b)
			if less != (want.Sign() < 0) || exact(rest).Cmp(want.Mod(want, limit)) != 0 {
				t.Fatalf("Sub(%v, %v) = %v, %v, want %v", a, b, rest, less, want)
			}
		}
	}
}

func TestProductsAndDivisorsAreExact(t *testing.T) {
	for _, a := range words {
		for _, b := range words {
			product := new(big.Int).Mul(word(a), word(b))
			if got := Mul(a, b); exact(got).Cmp(product) != 0 {
				t.Errorf("Mul(%d, %d) = %v, want %v", a, b, got, product)
			}
			gcd := new(big.Int).GCD(nil, nil, word(a), word(b))
			if got := Gcd(a, b); word(got).Cmp(gcd) != 0 {
				t.Errorf("Gcd(%d, %d) = %d, want %v", a, b, got, gcd)
			}
			lcm := new(big.Int)
			if product.Sign() != 0 {
				lcm.Div(product, gcd)
			}
			if got := Lcm(a, b); exact(got).Cmp(lcm) != 0 {
				t.Errorf("Lcm(%d, %d) = %v, want %v", a, b, got, lcm)
			}
		}
	}
}

func TestQuotientsAreExact(t *testing.T) {
	for _, a := range wides() {
		for _, b := range words {
			if b == 0 {
				continue
			}
			quotient, rest := new(big.Int).DivMod(exact(a), word(b), new(big.Int))
			q, r, err := Div(a, b)
			if exact(q).Cmp(quotient) != 0 || word(r).Cmp(rest) != 0 || err != api.OK {
				t.Fatalf("Div(%v, %d) = %v, %d, %d, want %v, %v", a, b, q, r, err, quotient, rest)
			}
		}
	}
}
