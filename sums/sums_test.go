package sums

import (
	"bytes"
	"math/big"
	"math/rand"
	"slices"
	"testing"
)

// D1: checksums.

func TestOfAndCheck(t *testing.T) {
	cases := []struct {
		b   []byte
		sum uint16
	}{
		{nil, 0},
		{[]byte{}, 0},
		{[]byte{0}, 0},
		{[]byte{0, 0}, 0},
		{[]byte{1}, 0x0100},
		{[]byte{0xff}, 0xff00},
		{[]byte{0, 1}, 1},
		{[]byte{0x12, 0x34}, 0x1234},
		{[]byte{0x12, 0x34, 0x56}, 0x6834},
		{[]byte{1, 2, 3, 4, 5}, 0x0906},
		// A sum of 65535 stays as it is, and is not folded to 0.
		{[]byte{0xff, 0xff}, 0xffff},
		{[]byte{0xff, 0xfe, 0, 1}, 0xffff},
		{[]byte{0xff, 0xff, 0xff, 0xff}, 0xffff},
		{[]byte{0xff, 0xff, 0, 1}, 1},
		{[]byte{0x80, 0, 0x80, 0}, 1},
		{[]byte{0xff, 0xff, 1}, 0x0100},
		// 0x1ffff becomes 0x10000, which has to be folded once more.
		{[]byte{0xff, 0xff, 0xff, 0xff, 0, 1}, 1},
		{[]byte{0, 1, 0xf2, 3, 0xf4, 0xf5, 0xf6, 0xf7}, 0xddf2}, // from RFC 1071
		{[]byte{0x45, 0, 0, 60, 0x1c, 0x46, 0x40, 0, 64, 6, 0, 0, 172, 16, 10, 99, 172, 16, 10, 12}, 0x4e19},
		{[]byte{0x45, 0, 0, 60, 0x1c, 0x46, 0x40, 0, 64, 6, 0xb1, 0xe6, 172, 16, 10, 99, 172, 16, 10, 12}, 0xffff},
	}
	for _, c := range cases {
		if got := Of(c.b); got != c.sum {
			t.Errorf("Of(%x) = %#x, want %#x", c.b, got, c.sum)
		}
		if got := Check(c.b); got != 0xffff-c.sum {
			t.Errorf("Check(%x) = %#x, want %#x", c.b, got, 0xffff-c.sum)
		}
	}
}

// These sums do not fit in 32 bits: a carry that is lost there changes the result.
func TestOfManyBytes(t *testing.T) {
	cases := []struct {
		length int
		fill   byte
		sum    uint16
	}{
		{131_080, 0xff, 0xffff},
		{131_081, 0xff, 0xff00},
		{1 << 20, 0xff, 0xffff},
		{1 << 20, 0xfe, 0xf7f7},
		{1<<20 + 1, 0xfe, 0xf5f8},
	}
	for _, c := range cases {
		b := bytes.Repeat([]byte{c.fill}, c.length)
		if got := Of(b); got != c.sum {
			t.Errorf("Of(%d bytes %#x) = %#x, want %#x", c.length, c.fill, got, c.sum)
		}
		if got := Check(b); got != 0xffff-c.sum {
			t.Errorf("Check(%d bytes %#x) = %#x, want %#x", c.length, c.fill, got, 0xffff-c.sum)
		}
	}
}

func TestAdd(t *testing.T) {
	cases := []struct{ a, b, want uint16 }{
		{0, 0, 0},
		{0, 1, 1},
		{2, 3, 5},
		{0xffff, 0, 0xffff},
		{0xffff, 1, 1},
		{0xffff, 2, 2},
		{0xffff, 0xffff, 0xffff},
		{0xfffe, 1, 0xffff},
		{0xfffe, 2, 1},
		{0x8000, 0x7fff, 0xffff},
		{0x8000, 0x8000, 1},
		{0x00ff, 1, 0x0100},
	}
	for _, c := range cases {
		if got := Add(c.a, c.b); got != c.want {
			t.Errorf("Add(%#x, %#x) = %#x, want %#x", c.a, c.b, got, c.want)
		}
		if got := Add(c.b, c.a); got != c.want {
			t.Errorf("Add(%#x, %#x) = %#x, want %#x", c.b, c.a, got, c.want)
		}
	}
}

func TestTurn(t *testing.T) {
	cases := []struct{ check, was, now, want uint16 }{
		{0xdd2f, 0x5555, 0x3285, 0x0000}, // from RFC 1624
		{0xb1e6, 60, 61, 0xb1e5},
		{0xb1e6, 60, 59, 0xb1e7},
		{0x1234, 0, 0x1234, 0},
		{0x1234, 0, 0x1235, 0xfffe},
		{0xfffe, 1, 1, 0xfffe},
		// Check of two zero bytes is 65535: here comes the other zero.
		{0xfffe, 1, 0, 0},
		{9, 7, 7, 9},
		{9, 0xffff, 0, 9},
		{9, 0, 0xffff, 9},
		// Both representations of zero: the sums are not brought to one of them.
		{0, 0, 0, 0},
		{0xffff, 0, 0, 0},
		{0xffff, 0xffff, 0, 0xffff},
		{0, 0xffff, 0, 0},
		{0xffff, 0xffff, 0xffff, 0},
	}
	for _, c := range cases {
		if got := Turn(c.check, c.was, c.now); got != c.want {
			t.Errorf("Turn(%#x, %#x, %#x) = %#x, want %#x", c.check, c.was, c.now, got, c.want)
		}
	}
}

func TestSame(t *testing.T) {
	for _, a := range edges {
		for b := range 1 << 16 {
			b := uint16(b)
			want := a == b || a == 0 && b == 65535 || a == 65535 && b == 0
			if Same(a, b) != want || Same(b, a) != want {
				t.Errorf("Same(%d, %d) = %v and reversed %v, want %v", a, b, Same(a, b), Same(b, a), want)
			}
		}
	}
}

// edges are the words around which carries begin and end.
var edges = []uint16{0, 1, 2, 7, 0xfe, 0xff, 0x100, 0x1234, 0x7fff, 0x8000, 0x8001, 0xff00, 0xfffd, 0xfffe, 0xffff}

// folded is the definition by the remainder: a folded sum is 0 only if the sum
// itself is, and 65535 for the other multiples of 65535.
func folded(sum *big.Int) uint16 {
	if sum.Sign() == 0 {
		return 0
	}
	rest := new(big.Int).Mod(sum, big.NewInt(65535))
	if rest.Sign() == 0 {
		return 65535
	}
	return uint16(rest.Uint64())
}

func randomBytes(r *rand.Rand, length int) []byte {
	b := make([]byte, length)
	for i := range b {
		b[i] = []byte{0, 0xff, 0xfe, byte(r.Intn(256))}[r.Intn(4)]
	}
	return b
}

func TestOfAgainstRemainders(t *testing.T) {
	r := rand.New(rand.NewSource(4))
	for range 3000 {
		b := randomBytes(r, r.Intn(64))
		sum := new(big.Int)
		for i := 0; i < len(b); i += 2 {
			word := append(slices.Clone(b[i:min(i+2, len(b))]), 0)
			sum.Add(sum, new(big.Int).SetBytes(word[:2]))
		}
		if want := folded(sum); Of(b) != want || Check(b) != 65535-want {
			t.Fatalf("Of and Check of %x = %d and %d, want %d and %d", b, Of(b), Check(b), want, 65535-want)
		}
	}
}

func TestAddAndTurnAgainstRemainders(t *testing.T) {
	for _, a := range edges {
		for b := range int64(1 << 16) {
			want := folded(big.NewInt(int64(a) + b))
			if got := Add(a, uint16(b)); got != want {
				t.Fatalf("Add(%d, %d) = %d, want %d", a, b, got, want)
			}
		}
		for _, b := range edges {
			for _, c := range edges {
				want := 65535 - folded(big.NewInt(65535-int64(a)+65535-int64(b)+int64(c)))
				if got := Turn(a, b, c); got != want {
					t.Fatalf("Turn(%d, %d, %d) = %d, want %d", a, b, c, got, want)
				}
			}
		}
	}
}

func putWord(b []byte, at int, word uint16) {
	b[at], b[at+1] = byte(word>>8), byte(word)
}

func TestTurnFollowsAChangedWord(t *testing.T) {
	r := rand.New(rand.NewSource(5))
	for range 3000 {
		b := randomBytes(r, 2+r.Intn(40))
		at := 2 * r.Intn(len(b)/2)
		was, now := uint16(b[at])<<8|uint16(b[at+1]), uint16(r.Intn(1<<16))
		turned := Turn(Check(b), was, now)
		putWord(b, at, now)
		if !Same(turned, Check(b)) {
			t.Fatalf("Turn from %#x to %#x at %d gives %#x, and Check(%x) = %#x", was, now, at, turned, b, Check(b))
		}
	}
}

func TestSingleByteErrorsAreDetected(t *testing.T) {
	r := rand.New(rand.NewSource(6))
	for range 50 {
		b := randomBytes(r, 20)
		putWord(b, 10, 0)
		putWord(b, 10, Check(b))
		if Of(b) != 65535 {
			t.Fatalf("Of(%x) = %d, want 65535", b, Of(b))
		}
		for i, right := range b {
			for wrong := range 256 {
				b[i] = byte(wrong)
				if detected := Of(b) != 65535; detected != (b[i] != right) {
					t.Fatalf("byte %d of %x, which was %d: detected is %v", i, b, right, detected)
				}
			}
			b[i] = right
		}
	}
}

// AA2: the bytes are left as they are, and those behind them are not read.

func TestBytesAreNotModifiedAndSpareOnesNotRead(t *testing.T) {
	b := []byte{1, 2, 3, 4, 5, 6, 7, 8}
	before := slices.Clone(b)
	for n, want := range []uint16{0, 0x100, 0x102, 0x402, 0x406, 0x906, 0x90c, 0x100c, 0x1014} {
		if got := Of(b[:n]); got != want {
			t.Errorf("Of(%x) = %#x, want %#x", b[:n], got, want)
		}
		if got := Check(b[:n]); got != 0xffff-want {
			t.Errorf("Check(%x) = %#x, want %#x", b[:n], got, 0xffff-want)
		}
	}
	if !slices.Equal(b, before) {
		t.Errorf("the bytes are %x after the calls, want %x", b, before)
	}
}
