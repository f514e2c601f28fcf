package rules

import (
	"math"
	"math/rand"
	"slices"
	"testing"

	"weirhouse/api"
)

// wide is a valid rule that matches every packet with a valid port.
func wide(class int) api.Rule { return api.Rule{High: 65535, Class: class} }

// with returns a changed copy of r.
func with(r api.Rule, change func(r *api.Rule)) api.Rule {
	change(&r)
	return r
}

// plainSame compares the first bits of two addresses one by one.
func plainSame(a, b [4]byte, bits int) bool {
	for i := range bits {
		mask := byte(128 >> (i % 8))
		if a[i/8]&mask != b[i/8]&mask {
			return false
		}
	}
	return true
}

// plainFits follows the chapter for a rule whose numbers of bits are valid.
func plainFits(r api.Rule, h api.Head) bool {
	if !plainSame(h.Src, r.Src, r.SrcBits) || !plainSame(h.Dst, r.Dst, r.DstBits) {
		return false
	}
	if r.Proto != 0 && r.Proto != h.Proto {
		return false
	}
	return h.DstPort >= r.Low && h.DstPort <= r.High
}

// plainClass looks at one rule after the other.
func plainClass(l []api.Rule, h api.Head) (int, api.Errno) {
	for _, r := range l {
		if plainFits(r, h) {
			return r.Class, api.OK
		}
	}
	return 0, api.ErrNone
}

// plainCovers follows the chapter for valid rules.
func plainCovers(r, other api.Rule) bool {
	if r.SrcBits > other.SrcBits || !plainSame(r.Src, other.Src, r.SrcBits) {
		return false
	}
	if r.DstBits > other.DstBits || !plainSame(r.Dst, other.Dst, r.DstBits) {
		return false
	}
	if r.Proto != 0 && r.Proto != other.Proto {
		return false
	}
	return r.Low <= other.Low && r.High >= other.High
}

// plainPrune marks the rules that remain, and looks at those only.
func plainPrune(l []api.Rule) []api.Rule {
	remains := make([]bool, len(l))
	var out []api.Rule
	for i, r := range l {
		remains[i] = true
		for j := range i {
			if remains[j] && plainCovers(l[j], r) {
				remains[i] = false
			}
		}
		if remains[i] {
			out = append(out, r)
		}
	}
	return out
}

// G1: Wrong.

func TestWrong(t *testing.T) {
	cases := []struct {
		name   string
		change func(r *api.Rule)
		want   api.Errno
	}{
		{"as it is", func(r *api.Rule) {}, api.OK},
		{"zero", func(r *api.Rule) { *r = api.Rule{} }, api.OK},
		{"all numbers at their greatest", func(r *api.Rule) {
			*r = api.Rule{SrcBits: 32, DstBits: 32, Proto: 255, Low: 65535, High: 65535, Class: 15}
		}, api.OK},
		{"bits of the addresses behind the prefixes", func(r *api.Rule) {
			r.Src, r.SrcBits, r.Dst, r.DstBits = [4]byte{255, 255, 255, 255}, 1, [4]byte{1, 2, 3, 4}, 0
		}, api.OK},
		{"protocol without ports, and a port", func(r *api.Rule) { r.Proto, r.Low, r.High = 1, 80, 80 }, api.OK},

		{"SrcBits -1", func(r *api.Rule) { r.SrcBits = -1 }, api.ErrRange},
		{"SrcBits 33", func(r *api.Rule) { r.SrcBits = 33 }, api.ErrRange},
		{"SrcBits least", func(r *api.Rule) { r.SrcBits = math.MinInt }, api.ErrRange},
		{"SrcBits greatest", func(r *api.Rule) { r.SrcBits = math.MaxInt }, api.ErrRange},
		{"DstBits -1", func(r *api.Rule) { r.DstBits = -1 }, api.ErrRange},
		{"DstBits 33", func(r *api.Rule) { r.DstBits = 33 }, api.ErrRange},
		{"DstBits least", func(r *api.Rule) { r.DstBits = math.MinInt }, api.ErrRange},
		{"DstBits greatest", func(r *api.Rule) { r.DstBits = math.MaxInt }, api.ErrRange},
		{"Proto -1", func(r *api.Rule) { r.Proto = -1 }, api.ErrRange},
		{"Proto 256", func(r *api.Rule) { r.Proto = 256 }, api.ErrRange},
		{"Proto least", func(r *api.Rule) { r.Proto = math.MinInt }, api.ErrRange},
		{"Proto greatest", func(r *api.Rule) { r.Proto = math.MaxInt }, api.ErrRange},
		{"Low -1", func(r *api.Rule) { r.Low = -1 }, api.ErrRange},
		{"Low least", func(r *api.Rule) { r.Low = math.MinInt }, api.ErrRange},
		{"Low and High negative", func(r *api.Rule) { r.Low, r.High = -5, -3 }, api.ErrRange},
		{"High negative", func(r *api.Rule) { r.High = -1 }, api.ErrRange},
		{"High 65536", func(r *api.Rule) { r.High = 65536 }, api.ErrRange},
		{"High greatest", func(r *api.Rule) { r.High = math.MaxInt }, api.ErrRange},
		{"Low and High above 65535", func(r *api.Rule) { r.Low, r.High = 65536, 65537 }, api.ErrRange},
		{"Low above High", func(r *api.Rule) { r.Low, r.High = 5, 4 }, api.ErrRange},
		{"Low 1, High 0", func(r *api.Rule) { r.Low, r.High = 1, 0 }, api.ErrRange},
		{"Low 65536", func(r *api.Rule) { r.Low = 65536 }, api.ErrRange},
		{"Class -1", func(r *api.Rule) { r.Class = -1 }, api.ErrRange},
		{"Class 16", func(r *api.Rule) { r.Class = 16 }, api.ErrRange},
		{"Class least", func(r *api.Rule) { r.Class = math.MinInt }, api.ErrRange},
		{"Class greatest", func(r *api.Rule) { r.Class = math.MaxInt }, api.ErrRange},
	}
	for _, c := range cases {
		r := with(wide(3), c.change)
		lists := map[string][]api.Rule{
			"alone": {r}, "first": {r, wide(1), wide(2)},
			"between": {wide(1), r, wide(2)}, "last": {wide(1), wide(2), r},
		}
		for where, l := range lists {
			if got := Wrong(l); got != c.want {
				t.Errorf("%s, %s: Wrong = %d, want %d", c.name, where, got, c.want)
			}
			pruned, err := Prune(l)
			if err != c.want || err != api.OK && len(pruned) != 0 {
				t.Errorf("%s, %s: Prune = %+v, %d, want error %d", c.name, where, pruned, err, c.want)
			}
			// A wrong rule counts even where an earlier one matches.
			class, err := Class(l, api.Head{Proto: 9, DstPort: 7})
			if c.want != api.OK && (class != 0 || err != c.want) {
				t.Errorf("%s, %s: Class = %d, %d, want error %d", c.name, where, class, err, c.want)
			}
		}
	}
}

func TestNumberOfRules(t *testing.T) {
	l := slices.Repeat([]api.Rule{wide(7)}, 401)
	if got := Wrong(l); got != api.ErrRange {
		t.Errorf("Wrong of 401 rules = %d, want ErrRange", got)
	}
	if class, err := Class(l, api.Head{}); class != 0 || err != api.ErrRange {
		t.Errorf("Class of 401 rules = %d, %d, want ErrRange", class, err)
	}
	if pruned, err := Prune(l); len(pruned) != 0 || err != api.ErrRange {
		t.Errorf("Prune of 401 rules = %+v, %d, want ErrRange", pruned, err)
	}
	l = l[:400]
	if got := Wrong(l); got != api.OK {
		t.Errorf("Wrong of 400 rules = %d, want OK", got)
	}
	if class, err := Class(l, api.Head{}); class != 7 || err != api.OK {
		t.Errorf("Class of 400 rules = %d, %d, want 7", class, err)
	}
	if pruned, err := Prune(l); !slices.Equal(pruned, l[:1]) || err != api.OK {
		t.Errorf("Prune of 400 rules = %+v, %d, want the first one", pruned, err)
	}
}

func TestNoRules(t *testing.T) {
	for _, l := range [][]api.Rule{nil, {}} {
		if got := Wrong(l); got != api.OK {
			t.Errorf("Wrong of no rules = %d, want OK", got)
		}
		if class, err := Class(l, api.Head{}); class != 0 || err != api.ErrNone {
			t.Errorf("Class of no rules = %d, %d, want ErrNone", class, err)
		}
		if pruned, err := Prune(l); len(pruned) != 0 || err != api.OK {
			t.Errorf("Prune of no rules = %+v, %d, want none", pruned, err)
		}
	}
}

// G1: Fits.

func TestFits(t *testing.T) {
	rule := api.Rule{
		Src: [4]byte{192, 168}, SrcBits: 16, Dst: [4]byte{10, 128}, DstBits: 9,
		Proto: 6, Low: 80, High: 90, Class: 4,
	}
	head := api.Head{
		Src: [4]byte{192, 168, 1, 2}, Dst: [4]byte{10, 200, 3, 4},
		Proto: 6, SrcPort: 5, DstPort: 85, Length: 40, Mark: 3,
	}
	cases := []struct {
		name   string
		change func(r *api.Rule, h *api.Head)
		want   bool
	}{
		{"as they are", func(r *api.Rule, h *api.Head) {}, true},

		{"another source", func(r *api.Rule, h *api.Head) { h.Src[1] = 169 }, false},
		{"another source behind the prefix", func(r *api.Rule, h *api.Head) { h.Src[2] = 255 }, true},
		{"source and destination exchanged", func(r *api.Rule, h *api.Head) { h.Src, h.Dst = h.Dst, h.Src }, false},
		{"one bit more of the source", func(r *api.Rule, h *api.Head) { r.SrcBits, h.Src[2] = 17, 128 }, false},
		{"no bits of the source", func(r *api.Rule, h *api.Head) { r.SrcBits, h.Src = 0, [4]byte{} }, true},
		{"all bits of the source", func(r *api.Rule, h *api.Head) { r.SrcBits, r.Src = 32, h.Src }, true},
		{"all bits of the source, the last one differs", func(r *api.Rule, h *api.Head) { r.SrcBits, r.Src = 32, h.Src; h.Src[3] ^= 1 }, false},
		{"bits of the rule's source behind the prefix", func(r *api.Rule, h *api.Head) { r.Src[3] = 255 }, true},

		{"another destination", func(r *api.Rule, h *api.Head) { h.Dst[1] = 127 }, false},
		{"another destination behind the prefix", func(r *api.Rule, h *api.Head) { h.Dst[1] = 255 }, true},
		{"one bit more of the destination", func(r *api.Rule, h *api.Head) { r.DstBits = 10 }, false},
		{"no bits of the destination", func(r *api.Rule, h *api.Head) { r.DstBits, h.Dst = 0, [4]byte{} }, true},
		{"all bits of the destination", func(r *api.Rule, h *api.Head) { r.DstBits, r.Dst = 32, h.Dst }, true},
		{"all bits of the destination, the last one differs", func(r *api.Rule, h *api.Head) { r.DstBits, r.Dst = 32, h.Dst; h.Dst[3] ^= 1 }, false},
		{"bits of the rule's destination behind the prefix", func(r *api.Rule, h *api.Head) { r.Dst[3] = 255 }, true},

		{"another protocol", func(r *api.Rule, h *api.Head) { h.Proto = 17 }, false},
		{"protocol 0 of the packet", func(r *api.Rule, h *api.Head) { h.Proto = 0 }, false},
		{"any protocol", func(r *api.Rule, h *api.Head) { r.Proto = 0 }, true},
		{"any protocol, one without ports", func(r *api.Rule, h *api.Head) { r.Proto, h.Proto = 0, 1 }, true},
		{"any protocol, one out of range", func(r *api.Rule, h *api.Head) { r.Proto, h.Proto = 0, -1 }, true},

		{"port Low", func(r *api.Rule, h *api.Head) { h.DstPort = 80 }, true},
		{"port High", func(r *api.Rule, h *api.Head) { h.DstPort = 90 }, true},
		{"port below Low", func(r *api.Rule, h *api.Head) { h.DstPort = 79 }, false},
		{"port above High", func(r *api.Rule, h *api.Head) { h.DstPort = 91 }, false},
		{"one port", func(r *api.Rule, h *api.Head) { r.Low, r.High = 85, 85 }, true},
		{"any port, and -1", func(r *api.Rule, h *api.Head) { r.Low, r.High, h.DstPort = 0, 65535, -1 }, false},
		{"any port, and 65536", func(r *api.Rule, h *api.Head) { r.Low, r.High, h.DstPort = 0, 65535, 65536 }, false},
		{"any port, and 0", func(r *api.Rule, h *api.Head) { r.Low, r.High, h.DstPort = 0, 65535, 0 }, true},
		{"any port, and 65535", func(r *api.Rule, h *api.Head) { r.Low, r.High, h.DstPort = 0, 65535, 65535 }, true},

		{"what the rule does not name", func(r *api.Rule, h *api.Head) { h.SrcPort, h.Length, h.Mark = -9, -9, 999 }, true},
		{"any class", func(r *api.Rule, h *api.Head) { r.Class = 0 }, true},

		// Fits does not validate the rule.
		{"SrcBits -1", func(r *api.Rule, h *api.Head) { r.SrcBits = -1 }, false},
		{"SrcBits 33", func(r *api.Rule, h *api.Head) { r.SrcBits, r.Src = 33, h.Src }, false},
		{"DstBits -1", func(r *api.Rule, h *api.Head) { r.DstBits = -1 }, false},
		{"DstBits 33", func(r *api.Rule, h *api.Head) { r.DstBits, r.Dst = 33, h.Dst }, false},
		{"protocol 256 of both", func(r *api.Rule, h *api.Head) { r.Proto, h.Proto = 256, 256 }, true},
		{"Low negative", func(r *api.Rule, h *api.Head) { r.Low, h.DstPort = -3, -3 }, true},
		{"High above 65535", func(r *api.Rule, h *api.Head) { r.High, h.DstPort = math.MaxInt, math.MaxInt }, true},
		{"Low above High", func(r *api.Rule, h *api.Head) { r.Low, r.High = 90, 80 }, false},
		{"Class 16", func(r *api.Rule, h *api.Head) { r.Class = 16 }, true},
	}
	for _, c := range cases {
		r, h := rule, head
		c.change(&r, &h)
		if got := Fits(r, h); got != c.want {
			t.Errorf("%s: Fits(%+v, %+v) = %t, want %t", c.name, r, h, got, c.want)
		}
	}
}

// G1: Class.

func TestClass(t *testing.T) {
	l := []api.Rule{
		{Dst: [4]byte{10}, DstBits: 8, Proto: 17, Low: 53, High: 53, Class: 3},
		{Src: [4]byte{192, 168}, SrcBits: 16, High: 65535, Class: 0},
		{Proto: 6, Low: 80, High: 90, Class: 15},
		{Dst: [4]byte{10, 1}, DstBits: 16, Proto: 17, Low: 50, High: 60, Class: 4},
	}
	cases := []struct {
		h     api.Head
		class int
		err   api.Errno
	}{
		{api.Head{Dst: [4]byte{10, 1}, Proto: 17, DstPort: 53}, 3, api.OK}, // the first one, not the longest prefix
		{api.Head{Dst: [4]byte{10, 1}, Proto: 17, DstPort: 54}, 4, api.OK},
		{api.Head{Dst: [4]byte{10, 2}, Proto: 17, DstPort: 54}, 0, api.ErrNone},
		{api.Head{Src: [4]byte{192, 168}, Proto: 6, DstPort: 85}, 0, api.OK}, // class 0 is one, too
		{api.Head{Src: [4]byte{192, 167}, Proto: 6, DstPort: 85}, 15, api.OK},
		{api.Head{Src: [4]byte{192, 167}, Proto: 6, DstPort: 91}, 0, api.ErrNone},
		{api.Head{Src: [4]byte{192, 168}, DstPort: -1}, 0, api.ErrNone},
		{api.Head{Src: [4]byte{192, 168}, DstPort: 65536}, 0, api.ErrNone},
		{api.Head{}, 0, api.ErrNone},
	}
	for _, c := range cases {
		if class, err := Class(l, c.h); class != c.class || err != c.err {
			t.Errorf("Class of %+v = %d, %d, want %d, %d", c.h, class, err, c.class, c.err)
		}
	}
}

func TestClassOfTheFirstOfManyRulesThatMatch(t *testing.T) {
	for class := range 16 {
		l := []api.Rule{{Proto: 6, High: 65535, Class: 1}, wide(class)}
		for other := range 16 {
			l = append(l, wide(other))
		}
		if got, err := Class(l, api.Head{Proto: 17}); got != class || err != api.OK {
			t.Errorf("Class = %d, %d, want %d", got, err, class)
		}
	}
}

func TestClassChecksRulesBeforeItMatches(t *testing.T) {
	wrong := with(wide(2), func(r *api.Rule) { r.Class = 16 })
	none := api.Rule{Proto: 6, Low: 1, High: 1}
	for _, l := range [][]api.Rule{{wide(1), wrong}, {wrong, wide(1)}, {none, wrong}, {wrong}} {
		if class, err := Class(l, api.Head{}); class != 0 || err != api.ErrRange {
			t.Errorf("Class of %+v = %d, %d, want ErrRange", l, class, err)
		}
	}
}

// G2: Prune.

func TestPruneOfTwo(t *testing.T) {
	rule := api.Rule{
		Src: [4]byte{192, 168}, SrcBits: 16, Dst: [4]byte{10, 128}, DstBits: 9,
		Proto: 6, Low: 80, High: 90, Class: 4,
	}
	cases := []struct {
		name    string
		change  func(r *api.Rule)
		covered bool // whether rule covers the changed one
		covers  bool // and the changed one rule
	}{
		{"the same", func(r *api.Rule) {}, true, true},
		{"another class", func(r *api.Rule) { r.Class = 5 }, true, true},

		{"longer source", func(r *api.Rule) { r.SrcBits = 17 }, true, false},
		{"one source", func(r *api.Rule) { r.SrcBits, r.Src = 32, [4]byte{192, 168, 255, 255} }, true, false},
		{"any source", func(r *api.Rule) { r.SrcBits, r.Src = 0, [4]byte{} }, false, true},
		{"any source, whatever its address", func(r *api.Rule) { r.SrcBits, r.Src = 0, [4]byte{1, 2, 3, 4} }, false, true},
		{"another source", func(r *api.Rule) { r.Src[1] = 169 }, false, false},
		{"longer, and another source", func(r *api.Rule) { r.SrcBits, r.Src[1] = 20, 169 }, false, false},
		{"shorter, and another source", func(r *api.Rule) { r.SrcBits, r.Src[0] = 8, 193 }, false, false},
		{"other bits behind the source's prefix", func(r *api.Rule) { r.Src[2] = 77 }, true, true},

		{"longer destination", func(r *api.Rule) { r.DstBits = 10 }, true, false},
		{"one destination", func(r *api.Rule) { r.DstBits, r.Dst = 32, [4]byte{10, 255, 255, 255} }, true, false},
		{"any destination", func(r *api.Rule) { r.DstBits, r.Dst = 0, [4]byte{} }, false, true},
		{"any destination, whatever its address", func(r *api.Rule) { r.DstBits, r.Dst = 0, [4]byte{1, 2, 3, 4} }, false, true},
		{"another destination", func(r *api.Rule) { r.Dst[1] = 127 }, false, false},
		{"longer, and another destination", func(r *api.Rule) { r.DstBits, r.Dst[1] = 20, 127 }, false, false},
		{"shorter, and another destination", func(r *api.Rule) { r.DstBits, r.Dst[0] = 8, 11 }, false, false},
		{"other bits behind the destination's prefix", func(r *api.Rule) { r.Dst[1] = 129 }, true, true},

		{"longer source, shorter destination", func(r *api.Rule) { r.SrcBits, r.DstBits = 17, 8 }, false, false},
		{"source and destination exchanged", func(r *api.Rule) {
			r.Src, r.SrcBits, r.Dst, r.DstBits = r.Dst, r.DstBits, r.Src, r.SrcBits
		}, false, false},

		{"another protocol", func(r *api.Rule) { r.Proto = 17 }, false, false},
		{"any protocol", func(r *api.Rule) { r.Proto = 0 }, false, true},

		{"fewer ports above", func(r *api.Rule) { r.High = 89 }, true, false},
		{"fewer ports below", func(r *api.Rule) { r.Low = 81 }, true, false},
		{"one port", func(r *api.Rule) { r.Low, r.High = 85, 85 }, true, false},
		{"more ports above", func(r *api.Rule) { r.High = 91 }, false, true},
		{"more ports below", func(r *api.Rule) { r.Low = 79 }, false, true},
		{"all ports", func(r *api.Rule) { r.Low, r.High = 0, 65535 }, false, true},
		{"ports that overlap", func(r *api.Rule) { r.Low, r.High = 85, 95 }, false, false},
		{"ports beside", func(r *api.Rule) { r.Low, r.High = 91, 95 }, false, false},

		{"more of all", func(r *api.Rule) { *r = wide(1) }, false, true},
	}
	for _, c := range cases {
		changed := with(rule, c.change)
		pruneTwo(t, c.name, rule, changed, c.covered)
		pruneTwo(t, c.name+", which comes first", changed, rule, c.covers)
	}
}

func pruneTwo(t *testing.T, name string, first, second api.Rule, covered bool) {
	t.Helper()
	want := []api.Rule{first, second}
	if covered {
		want = want[:1]
	}
	if got, err := Prune([]api.Rule{first, second}); err != api.OK || !slices.Equal(got, want) {
		t.Errorf("%s: Prune = %+v, %d, want %+v", name, got, err, want)
	}
}

func TestPruneKeepsTheOrder(t *testing.T) {
	tcp, http := api.Rule{Proto: 6, High: 65535, Class: 1}, api.Rule{Proto: 6, Low: 80, High: 80, Class: 2}
	dns := api.Rule{Proto: 17, Low: 53, High: 53, Class: 3}
	cases := []struct{ l, want []api.Rule }{
		{[]api.Rule{http, tcp, dns}, []api.Rule{http, tcp, dns}}, // a later rule removes none
		{[]api.Rule{dns, tcp, http}, []api.Rule{dns, tcp}},
		{[]api.Rule{http, tcp, http, dns, tcp, dns}, []api.Rule{http, tcp, dns}},
		{[]api.Rule{wide(5), http, tcp, dns}, []api.Rule{wide(5)}},
		{[]api.Rule{http, wide(5), tcp, wide(6), dns}, []api.Rule{http, wide(5)}},
		{[]api.Rule{tcp, http, wide(5)}, []api.Rule{tcp, wide(5)}},
	}
	for _, c := range cases {
		if got, err := Prune(c.l); err != api.OK || !slices.Equal(got, c.want) {
			t.Errorf("Prune(%+v) = %+v, %d, want %+v", c.l, got, err, c.want)
		}
	}
}

// Two rules that cover a third one only together leave it.
func TestPruneLooksAtOneRuleAtATime(t *testing.T) {
	l := []api.Rule{{High: 100, Class: 1}, {Low: 101, High: 200, Class: 1}, {Low: 50, High: 150, Class: 1}}
	if got, err := Prune(l); err != api.OK || !slices.Equal(got, l) {
		t.Errorf("Prune(%+v) = %+v, %d, want all of them", l, got, err)
	}
}

// G1 and G2 against plain transcriptions of the chapter.

// near returns an address in which few bits are 1, so that addresses meet.
func near(r *rand.Rand) [4]byte {
	var a [4]byte
	for range r.Intn(3) {
		i := []int{r.Intn(32), r.Intn(3), 30 + r.Intn(2)}[r.Intn(3)]
		a[i/8] |= 128 >> (i % 8)
	}
	return a
}

func nearBits(r *rand.Rand) int { return []int{0, 0, r.Intn(4), r.Intn(33), 31, 32}[r.Intn(6)] }

func nearProto(r *rand.Rand) int { return []int{0, 6, 17, 255}[r.Intn(4)] }

func nearRule(r *rand.Rand) api.Rule {
	low, high := r.Intn(5), r.Intn(5)
	return api.Rule{
		Src: near(r), SrcBits: nearBits(r), Dst: near(r), DstBits: nearBits(r),
		Proto: nearProto(r), Low: min(low, high), High: max(low, high), Class: r.Intn(16),
	}
}

func nearHead(r *rand.Rand) api.Head {
	return api.Head{Src: near(r), Dst: near(r), Proto: nearProto(r), DstPort: r.Intn(7) - 1}
}

func TestAgainstThePlainOnes(t *testing.T) {
	r := rand.New(rand.NewSource(7))
	seen := map[api.Errno]int{}
	pruned := 0
	for range 3000 {
		l := make([]api.Rule, r.Intn(25))
		for i := range l {
			l[i] = nearRule(r)
		}
		kept, err := Prune(l)
		if want := plainPrune(l); err != api.OK || !slices.Equal(kept, want) {
			t.Fatalf("Prune(%+v) = %+v, %d, want %+v", l, kept, err, want)
		}
		pruned += len(l) - len(kept)
		for range 10 {
			h := nearHead(r)
			class, err := Class(l, h)
			wantClass, wantErr := plainClass(l, h)
			seen[wantErr]++
			if class != wantClass || err != wantErr {
				t.Fatalf("Class(%+v, %+v) = %d, %d, want %d, %d", l, h, class, err, wantClass, wantErr)
			}
			// What Prune removes never decides.
			if class, err := Class(kept, h); class != wantClass || err != wantErr {
				t.Fatalf("Class of the remaining rules %+v for %+v = %d, %d, want %d, %d", kept, h, class, err, wantClass, wantErr)
			}
			for _, rule := range l {
				if got := Fits(rule, h); got != plainFits(rule, h) {
					t.Fatalf("Fits(%+v, %+v) = %t", rule, h, got)
				}
			}
		}
	}
	if seen[api.OK] < 1000 || seen[api.ErrNone] < 1000 || pruned < 1000 {
		t.Errorf("too few of a sort: classes %v, %d rules pruned", seen, pruned)
	}
}

func TestPruneTwiceIsPruneOnce(t *testing.T) {
	r := rand.New(rand.NewSource(77))
	for range 300 {
		l := make([]api.Rule, r.Intn(60))
		for i := range l {
			l[i] = nearRule(r)
		}
		once, _ := Prune(l)
		if twice, err := Prune(once); err != api.OK || !slices.Equal(twice, once) {
			t.Fatalf("Prune(%+v) = %+v, %d, want the same", once, twice, err)
		}
	}
}

// AA2: arguments are left as they are, what is behind them is not read, and
// results are new memory.

func TestArgumentsStayAsTheyAre(t *testing.T) {
	bad := with(wide(2), func(r *api.Rule) { r.SrcBits = 33 })
	l := []api.Rule{{Proto: 6, High: 9, Class: 1}, {Proto: 6, High: 8, Class: 2}, wide(3), bad}
	before := slices.Clone(l)
	if err := Wrong(l[:3]); err != api.OK {
		t.Errorf("Wrong of the first three rules = %d, want OK", err)
	}
	if class, err := Class(l[:2], api.Head{Proto: 17}); class != 0 || err != api.ErrNone {
		t.Errorf("Class of the first two rules = %d, %d, want ErrNone", class, err)
	}
	kept, err := Prune(l[:3])
	if err != api.OK || !slices.Equal(kept, []api.Rule{before[0], before[2]}) {
		t.Errorf("Prune of the first three rules = %+v, %d, want the first and the third", kept, err)
	}
	if !slices.Equal(l, before) {
		t.Errorf("the rules are %+v after the calls, want %+v", l, before)
	}
}

func TestResultOfPruneIsNewMemory(t *testing.T) {
	l := []api.Rule{{Proto: 6, High: 9, Class: 1}, {Proto: 17, High: 9, Class: 2}}
	before := slices.Clone(l)
	kept, _ := Prune(l)
	for i := range kept {
		kept[i] = wide(9)
	}
	if !slices.Equal(l, before) {
		t.Errorf("the rules are %+v after the result was overwritten, want %+v", l, before)
	}
	kept, err := Prune(l)
	l[0], l[1] = wide(9), wide(9)
	if err != api.OK || !slices.Equal(kept, before) {
		t.Errorf("the result is %+v, %d after the rules were overwritten, want %+v", kept, err, before)
	}
}
