package trie

import (
	"math"
	"math/rand"
	"slices"
	"testing"

	"weirhouse/api"
)

func prefix(bits, to int, addr ...byte) api.Prefix {
	p := api.Prefix{Bits: bits, To: to}
	copy(p.Addr[:], addr)
	return p
}

// plainBit counts the bits of a from the first byte's most significant one.
func plainBit(a [4]byte, i int) int {
	n := int(a[i/8])
	for range 7 - i%8 {
		n /= 2
	}
	return n % 2
}

// plainWithin follows the chapter bit by bit.
func plainWithin(a [4]byte, p api.Prefix) bool {
	if p.Bits < 0 || p.Bits > 32 {
		return false
	}
	for i := range p.Bits {
		if plainBit(a, i) != plainBit(p.Addr, i) {
			return false
		}
	}
	return true
}

// plainWrong follows the chapter in its order.
func plainWrong(l []api.Prefix) api.Errno {
	if len(l) > 400 {
		return api.ErrRange
	}
	for i, p := range l {
		if p.Bits < 0 || p.Bits > 32 {
			return api.ErrRange
		}
		for at := p.Bits; at < 32; at++ {
			if plainBit(p.Addr, at) == 1 {
				return api.ErrForm
			}
		}
		for _, q := range l[:i] {
			if q.Bits == p.Bits && q.Addr == p.Addr {
				return api.ErrHeld
			}
		}
	}
	return api.OK
}

// plainFind looks at every prefix for every address.
func plainFind(l []api.Prefix, addrs [][4]byte) ([]int, []bool) {
	var to []int
	var found []bool
	for _, a := range addrs {
		best, bits := 0, -1
		for _, p := range l {
			if plainWithin(a, p) && p.Bits > bits {
				best, bits = p.To, p.Bits
			}
		}
		to, found = append(to, best), append(found, bits >= 0)
	}
	return to, found
}

// F1: Within.

func TestWithin(t *testing.T) {
	full := [4]byte{255, 255, 255, 255}
	cases := []struct {
		a    [4]byte
		p    api.Prefix
		want bool
	}{
		{[4]byte{}, api.Prefix{}, true},
		{full, api.Prefix{}, true},
		{full, prefix(0, 0, 1, 2, 3, 4), true},
		{full, prefix(32, 0, 255, 255, 255, 255), true},
		{full, prefix(32, 0, 255, 255, 255, 254), false},
		{full, prefix(31, 0, 255, 255, 255, 254), true},
		{[4]byte{}, prefix(32, 0), true},
		{[4]byte{0, 0, 0, 1}, prefix(32, 0), false},
		{[4]byte{0, 0, 0, 1}, prefix(31, 0), true},
		{[4]byte{10, 9}, prefix(8, 0, 10), true},
		{[4]byte{10, 9}, prefix(16, 0, 10), false},
		{[4]byte{10, 1, 2, 3}, prefix(16, 0, 10, 1), true},
		{[4]byte{11, 1, 2, 3}, prefix(16, 0, 10, 1), false},
		{[4]byte{127}, prefix(1, 0, 128), false},
		{[4]byte{128}, prefix(1, 0, 128), true},
		{[4]byte{1}, prefix(1, 0, 0), true},
		{[4]byte{3, 2, 1}, prefix(24, 0, 1, 2, 3), false},

		// The bits of Addr behind the first Bits ones do not matter.
		{[4]byte{10, 9}, prefix(8, 0, 10, 1, 2, 3), true},
		{[4]byte{10, 64}, prefix(9, 0, 10, 127, 255, 255), true},

		// Bits out of range.
		{[4]byte{}, prefix(-1, 0), false},
		{[4]byte{}, prefix(33, 0), false},
		{full, prefix(33, 0, 255, 255, 255, 255), false},
		{[4]byte{}, prefix(64, 0), false},
		{[4]byte{}, prefix(math.MinInt, 0), false},
		{[4]byte{}, prefix(math.MaxInt, 0), false},
		{[4]byte{}, prefix(-32, 0), false},
		{[4]byte{}, prefix(1<<32, 0), false},
	}
	for _, c := range cases {
		if got := Within(c.a, c.p); got != c.want {
			t.Errorf("Within(%v, %+v) = %t, want %t", c.a, c.p, got, c.want)
		}
	}
}

func TestWithinDependsOnEachOfTheFirstBits(t *testing.T) {
	r := rand.New(rand.NewSource(6))
	for range 200 {
		var p api.Prefix
		r.Read(p.Addr[:])
		for bits := range 33 {
			p.Bits = bits
			for i := range 32 {
				a := p.Addr
				a[i/8] ^= 128 >> (i % 8)
				if got := Within(a, p); got != (i >= bits) {
					t.Fatalf("Within(%v, %+v) = %t, where bit %d differs", a, p, got, i)
				}
			}
			if !Within(p.Addr, p) {
				t.Fatalf("Within(%v, %+v) = false", p.Addr, p)
			}
		}
	}
}

// F1: Wrong.

func TestWrong(t *testing.T) {
	cases := []struct {
		name string
		l    []api.Prefix
		want api.Errno
	}{
		{"nil", nil, api.OK},
		{"empty", []api.Prefix{}, api.OK},
		{"all addresses", []api.Prefix{{}}, api.OK},
		{"one address", []api.Prefix{prefix(32, 0, 255, 255, 255, 255)}, api.OK},
		{"address 0 with every length", []api.Prefix{prefix(0, 1), prefix(1, 1), prefix(32, 1), prefix(31, 1)}, api.OK},
		{"negative To", []api.Prefix{prefix(8, -5, 10)}, api.OK},
		{"neighbours", []api.Prefix{prefix(1, 0), prefix(1, 0, 128)}, api.OK},

		{"-1 bits", []api.Prefix{prefix(-1, 0)}, api.ErrRange},
		{"33 bits", []api.Prefix{prefix(33, 0)}, api.ErrRange},
		{"least int of bits", []api.Prefix{prefix(math.MinInt, 0)}, api.ErrRange},
		{"greatest int of bits", []api.Prefix{prefix(math.MaxInt, 0)}, api.ErrRange},
		{"33 bits behind a valid one", []api.Prefix{prefix(8, 0, 10), prefix(33, 0)}, api.ErrRange},

		{"last bit behind 31", []api.Prefix{prefix(31, 0, 0, 0, 0, 1)}, api.ErrForm},
		{"last bit behind none", []api.Prefix{prefix(0, 0, 0, 0, 0, 1)}, api.ErrForm},
		{"first bit behind none", []api.Prefix{prefix(0, 0, 128)}, api.ErrForm},
		{"second bit behind the first", []api.Prefix{prefix(1, 0, 192)}, api.ErrForm},
		{"eighth bit behind seven", []api.Prefix{prefix(7, 0, 1)}, api.ErrForm},
		{"form behind a valid one", []api.Prefix{prefix(8, 0, 10), prefix(8, 0, 10, 1)}, api.ErrForm},

		{"twice the same", []api.Prefix{prefix(8, 1, 10), prefix(8, 1, 10)}, api.ErrHeld},
		{"twice with another To", []api.Prefix{prefix(8, 1, 10), prefix(8, 2, 10)}, api.ErrHeld},
		{"twice with To 0", []api.Prefix{prefix(8, 0, 10), prefix(8, 0, 10)}, api.ErrHeld},
		{"twice all addresses", []api.Prefix{{}, prefix(8, 0, 10), {}}, api.ErrHeld},
		{"twice one address", []api.Prefix{prefix(32, 0, 1, 2, 3, 4), prefix(32, 0, 1, 2, 3, 4)}, api.ErrHeld},
		{"not twice: another length", []api.Prefix{prefix(8, 1, 10), prefix(9, 1, 10)}, api.OK},
		{"not twice: another address", []api.Prefix{prefix(8, 1, 10), prefix(8, 1, 11)}, api.OK},
		{"longer first", []api.Prefix{prefix(16, 1, 10, 1), prefix(8, 1, 10)}, api.OK},

		// The first prefix with an error counts, and of its errors the first.
		{"held before range", []api.Prefix{{}, {}, prefix(33, 0)}, api.ErrHeld},
		{"range before held", []api.Prefix{{}, prefix(33, 0), {}}, api.ErrRange},
		{"form before range", []api.Prefix{prefix(0, 0, 1), prefix(33, 0)}, api.ErrForm},
		{"range before form", []api.Prefix{prefix(-1, 0), prefix(0, 0, 1)}, api.ErrRange},
		{"form before held", []api.Prefix{{}, prefix(0, 0, 1), {}}, api.ErrForm},
		{"held before form", []api.Prefix{{}, {}, prefix(0, 0, 1)}, api.ErrHeld},
		{"range and form in one", []api.Prefix{prefix(-1, 0, 255)}, api.ErrRange},
		{"range with a held address", []api.Prefix{prefix(8, 0, 10), prefix(33, 0, 10)}, api.ErrRange},
		// The bits behind the first eight make it another prefix than the
		// first one, but a malformed one.
		{"form and the same first bits", []api.Prefix{prefix(8, 0, 10), prefix(8, 0, 10, 0, 0, 1)}, api.ErrForm},
	}
	for _, c := range cases {
		if got := Wrong(c.l); got != c.want {
			t.Errorf("%s: Wrong = %d, want %d", c.name, got, c.want)
		}
		to, found, err := Find(c.l, [][4]byte{{10}, {11}})
		if err != c.want {
			t.Errorf("%s: Find gives error %d, want %d", c.name, err, c.want)
		}
		if c.want != api.OK && (len(to) != 0 || len(found) != 0) {
			t.Errorf("%s: Find gives %v, %v with error %d, want nothing", c.name, to, found, err)
		}
	}
}

// many returns n different valid prefixes.
func many(n int) []api.Prefix {
	var l []api.Prefix
	for i := range n {
		l = append(l, prefix(24, i, 10, byte(i/256), byte(i%256)))
	}
	return l
}

func TestNumberOfPrefixes(t *testing.T) {
	if got := Wrong(many(400)); got != api.OK {
		t.Errorf("Wrong of 400 prefixes = %d, want OK", got)
	}
	if got := Wrong(many(401)); got != api.ErrRange {
		t.Errorf("Wrong of 401 prefixes = %d, want ErrRange", got)
	}
	to, found, err := Find(many(401), [][4]byte{{10}})
	if err != api.ErrRange || len(to) != 0 || len(found) != 0 {
		t.Errorf("Find in 401 prefixes = %v, %v, %d, want ErrRange", to, found, err)
	}
	// The number is checked before the prefixes.
	if got := Wrong(append([]api.Prefix{{}, {}}, many(399)...)); got != api.ErrRange {
		t.Errorf("Wrong of 401 prefixes, the second one held = %d, want ErrRange", got)
	}
	if got := Wrong(append([]api.Prefix{prefix(0, 0, 1)}, many(400)...)); got != api.ErrRange {
		t.Errorf("Wrong of 401 prefixes, the first one malformed = %d, want ErrRange", got)
	}
}

func TestThereMayBeMoreAddressesThanPrefixes(t *testing.T) {
	addrs := make([][4]byte, 5000)
	for i := range addrs {
		addrs[i] = [4]byte{10, byte(i / 256), byte(i % 256), 77}
	}
	to, found, err := Find(many(400), addrs)
	if err != api.OK || len(to) != 5000 || len(found) != 5000 {
		t.Fatalf("Find gives %d and %d results, error %d", len(to), len(found), err)
	}
	for i := range addrs {
		if i < 400 && (to[i] != i || !found[i]) || i >= 400 && (to[i] != 0 || found[i]) {
			t.Errorf("Find gives %d, %t for %v", to[i], found[i], addrs[i])
		}
	}
}

// F1: Find.

func TestFind(t *testing.T) {
	l := []api.Prefix{
		prefix(8, 1, 10), prefix(16, 2, 10, 1), prefix(32, -7, 10, 1, 2, 3),
		prefix(1, 4, 128), prefix(10, 5, 10, 64), prefix(31, 6, 1, 1, 1, 0), prefix(9, 0, 12),
	}
	cases := []struct {
		a     [4]byte
		to    int
		found bool
	}{
		{[4]byte{10, 1, 2, 3}, -7, true},
		{[4]byte{10, 1, 2, 2}, 2, true},
		{[4]byte{10, 1, 2, 4}, 2, true},
		{[4]byte{10, 0, 2, 3}, 1, true},
		{[4]byte{10, 64}, 5, true},
		{[4]byte{10, 127, 255, 255}, 5, true},
		{[4]byte{10, 128}, 1, true},
		{[4]byte{11}, 0, false},
		{[4]byte{9, 255, 255, 255}, 0, false},
		{[4]byte{127, 255, 255, 255}, 0, false},
		{[4]byte{128}, 4, true},
		{[4]byte{255, 255, 255, 255}, 4, true},
		{[4]byte{}, 0, false},
		{[4]byte{1, 1, 1, 0}, 6, true},
		{[4]byte{1, 1, 1, 1}, 6, true},
		{[4]byte{1, 1, 1, 2}, 0, false},
		{[4]byte{12, 127}, 0, true}, // To may be 0
		{[4]byte{12, 128}, 0, false},
	}
	var addrs [][4]byte
	for _, c := range cases {
		addrs = append(addrs, c.a)
	}
	to, found, err := Find(l, addrs)
	if err != api.OK || len(to) != len(cases) || len(found) != len(cases) {
		t.Fatalf("Find = %v, %v, %d", to, found, err)
	}
	for i, c := range cases {
		if to[i] != c.to || found[i] != c.found {
			t.Errorf("Find gives %d, %t for %v, want %d, %t", to[i], found[i], c.a, c.to, c.found)
		}
	}
	all, found, err := Find(append(l, prefix(0, 9)), addrs)
	for i, c := range cases {
		want := c.to
		if !c.found {
			want = 9
		}
		if err != api.OK || all[i] != want || !found[i] {
			t.Errorf("with a prefix of 0 bits Find gives %d, %t for %v, want %d", all[i], found[i], c.a, want)
		}
	}
}

func TestExampleOfTheChapter(t *testing.T) {
	l := []api.Prefix{prefix(8, 1, 10), prefix(16, 2, 10, 1)}
	to, found, err := Find(l, [][4]byte{{10, 1, 2, 3}})
	if err != api.OK || !slices.Equal(to, []int{2}) || !slices.Equal(found, []bool{true}) {
		t.Errorf("Find = %v, %v, %d, want 2", to, found, err)
	}
}

func TestFindWithoutPrefixesOrAddresses(t *testing.T) {
	for _, l := range [][]api.Prefix{nil, {}} {
		to, found, err := Find(l, [][4]byte{{10}, {}})
		if err != api.OK || !slices.Equal(to, []int{0, 0}) || !slices.Equal(found, []bool{false, false}) {
			t.Errorf("Find in no prefixes = %v, %v, %d", to, found, err)
		}
	}
	for _, addrs := range [][][4]byte{nil, {}} {
		to, found, err := Find([]api.Prefix{{To: 1}}, addrs)
		if err != api.OK || len(to) != 0 || len(found) != 0 {
			t.Errorf("Find of no addresses = %v, %v, %d", to, found, err)
		}
		if _, _, err := Find([]api.Prefix{prefix(33, 1)}, addrs); err != api.ErrRange {
			t.Errorf("Find of no addresses in a wrong list gives error %d, want ErrRange", err)
		}
	}
}

func TestEveryLengthOnOneWay(t *testing.T) {
	way := [4]byte{0xa5, 0x0f, 0x33, 0xc6}
	var l []api.Prefix
	for bits := range 33 {
		l = append(l, api.Prefix{Addr: first(way, bits), Bits: bits, To: 100 + bits})
	}
	for i := range 33 {
		a := way
		if i < 32 {
			a[i/8] ^= 128 >> (i % 8)
		}
		to, found, err := Find(l, [][4]byte{a})
		if err != api.OK || to[0] != 100+i || !found[0] {
			t.Errorf("Find gives %v, %v, %d for %v, which shares %d bits", to, found, err, a, i)
		}
	}
}

// first returns the first bits of a, with 0 behind them.
func first(a [4]byte, bits int) [4]byte {
	for i := bits; i < 32; i++ {
		a[i/8] &^= 128 >> (i % 8)
	}
	return a
}

// near returns an address in which few bits are 1, so that addresses meet.
func near(r *rand.Rand) [4]byte {
	var a [4]byte
	for range r.Intn(4) {
		i := []int{r.Intn(32), r.Intn(4), 28 + r.Intn(4)}[r.Intn(3)]
		a[i/8] |= 128 >> (i % 8)
	}
	return a
}

func TestFindAgainstThePlainOne(t *testing.T) {
	r := rand.New(rand.NewSource(66))
	seen := map[api.Errno]int{}
	for range 3000 {
		var l []api.Prefix
		for range r.Intn(40) {
			p := api.Prefix{Addr: near(r), Bits: r.Intn(33), To: r.Intn(9) - 4}
			p.Addr = first(p.Addr, p.Bits)
			if r.Intn(20) > 0 && plainWrong(append(l, p)) != api.OK {
				continue
			}
			if r.Intn(50) == 0 {
				p.Bits = r.Intn(37) - 2
			}
			l = append(l, p)
		}
		var addrs [][4]byte
		for range r.Intn(30) {
			addrs = append(addrs, near(r))
		}
		wantErr := plainWrong(l)
		seen[wantErr]++
		if got := Wrong(l); got != wantErr {
			t.Fatalf("Wrong(%+v) = %d, want %d", l, got, wantErr)
		}
		to, found, err := Find(l, addrs)
		wantTo, wantFound := plainFind(l, addrs)
		if wantErr != api.OK {
			wantTo, wantFound = nil, nil
		}
		if err != wantErr || !slices.Equal(to, wantTo) || !slices.Equal(found, wantFound) {
			t.Fatalf("Find(%+v, %v) = %v, %v, %d, want %v, %v, %d", l, addrs, to, found, err, wantTo, wantFound, wantErr)
		}
	}
	for _, err := range []api.Errno{api.OK, api.ErrRange, api.ErrForm, api.ErrHeld} {
		if seen[err] < 100 {
			t.Errorf("only %d of the lists give error %d", seen[err], err)
		}
	}
}

func TestFindDoesNotDependOnTheOrderOfPrefixes(t *testing.T) {
	r := rand.New(rand.NewSource(7))
	l := many(60)
	for bits := range 24 {
		l = append(l, api.Prefix{Addr: first([4]byte{10}, bits), Bits: bits, To: 1000 + bits})
	}
	var addrs [][4]byte
	for range 300 {
		addrs = append(addrs, [4]byte{byte(8 + r.Intn(4)), byte(r.Intn(2)), byte(r.Intn(80)), byte(r.Intn(256))})
	}
	want, _, err := Find(l, addrs)
	if err != api.OK {
		t.Fatalf("Find gives error %d", err)
	}
	for range 50 {
		r.Shuffle(len(l), func(i, j int) { l[i], l[j] = l[j], l[i] })
		if got, _, err := Find(l, addrs); err != api.OK || !slices.Equal(got, want) {
			t.Fatalf("Find = %v, %d in another order, want %v", got, err, want)
		}
	}
}

// AA2: arguments are left as they are, what is behind them is not read, and
// results are new memory.

func TestFindLeavesItsArgumentsAndIgnoresSpareOnes(t *testing.T) {
	prefixes := []api.Prefix{prefix(8, 1, 10), prefix(16, 2, 10, 1), prefix(33, 3)}
	addrs := [][4]byte{{10, 1}, {10, 2}, {11}}
	prefixesBefore, addrsBefore := slices.Clone(prefixes), slices.Clone(addrs)
	to, found, err := Find(prefixes[:1], addrs[:2])
	if err != api.OK || !slices.Equal(to, []int{1, 1}) || !slices.Equal(found, []bool{true, true}) {
		t.Errorf("Find in the first prefix = %v, %v, %d, want 1 and 1", to, found, err)
	}
	if err := Wrong(prefixes[:2]); err != api.OK {
		t.Errorf("Wrong of the first two prefixes = %d, want OK", err)
	}
	if err := Wrong(prefixes); err != api.ErrRange {
		t.Errorf("Wrong of all prefixes = %d, want ErrRange", err)
	}
	if !slices.Equal(prefixes, prefixesBefore) || !slices.Equal(addrs, addrsBefore) {
		t.Errorf("the arguments are %v, %v after the calls, want %v, %v", prefixes, addrs, prefixesBefore, addrsBefore)
	}
}

func TestResultsDoNotChangeLaterOnes(t *testing.T) {
	l := []api.Prefix{prefix(8, 1, 10)}
	addrs := [][4]byte{{10}, {11}}
	to, found, _ := Find(l, addrs)
	to[0], to[1], found[0], found[1] = 7, 7, false, true
	to, found, err := Find(l, addrs)
	if err != api.OK || !slices.Equal(to, []int{1, 0}) || !slices.Equal(found, []bool{true, false}) {
		t.Errorf("Find = %v, %v, %d after its first result was overwritten", to, found, err)
	}
}
