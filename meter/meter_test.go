package meter

import (
	"math"
	"math/big"
	"math/rand"
	"slices"
	"testing"

	"weirhouse/api"
)

const end = 1 << 40 // MaxTime

const green, yellow, red = api.Green, api.Yellow, api.Red

// slow returns a meter at the rate 2 for 10 and 5 tokens.
func slow(first, second, at int) api.Meter {
	return api.Meter{Committed: 2, Burst: 10, Excess: 5, First: first, Second: second, At: at}
}

// greatest returns a meter whose rate and bursts are as great as they can be.
func greatest(first, second, at int) api.Meter {
	return api.Meter{Committed: 1 << 20, Burst: 1 << 20, Excess: 1 << 20, First: first, Second: second, At: at}
}

// with returns a changed copy of m.
func with(m api.Meter, change func(m *api.Meter)) api.Meter {
	change(&m)
	return m
}

func shot(at, bytes int) api.Shot { return api.Shot{At: at, Bytes: bytes} }

func checkColour(t *testing.T, m api.Meter, s api.Shot, had int, want api.Meter, colour int, err api.Errno) {
	t.Helper()
	got, gotColour, gotErr := Colour(m, s, had)
	if got != want || gotColour != colour || gotErr != err {
		t.Errorf("Colour(%+v, %+v, %d) = %+v, %d, %d, want %+v, %d, %d", m, s, had, got, gotColour, gotErr, want, colour, err)
	}
}

func checkPlay(t *testing.T, sizes [3]int, shots []api.Shot, colours []int, want api.Meter, err api.Errno) {
	t.Helper()
	gotColours, got, gotErr := Play(sizes[0], sizes[1], sizes[2], shots)
	if !slices.Equal(gotColours, colours) || got != want || gotErr != err {
		t.Errorf("Play(%v, %v) = %v, %+v, %d, want %v, %+v, %d", sizes, shots, gotColours, got, gotErr, colours, want, err)
	}
}

// J1: Right.

// validity lists meters and whether they are valid.
var validity = []struct {
	name  string
	m     api.Meter
	valid bool
}{
	{"some tokens", slow(7, 3, 5), true},
	{"zero", api.Meter{}, true},
	{"all at its greatest", greatest(1<<20, 1<<20, end), true},

	{"Committed 0", with(slow(7, 3, 5), func(m *api.Meter) { m.Committed = 0 }), true},
	{"Committed 2^20", with(slow(7, 3, 5), func(m *api.Meter) { m.Committed = 1 << 20 }), true},
	{"Committed 2^20 + 1", with(slow(7, 3, 5), func(m *api.Meter) { m.Committed = 1<<20 + 1 }), false},
	{"Committed -1", with(slow(7, 3, 5), func(m *api.Meter) { m.Committed = -1 }), false},
	{"Committed least", with(slow(7, 3, 5), func(m *api.Meter) { m.Committed = math.MinInt }), false},
	{"Committed greatest", with(slow(7, 3, 5), func(m *api.Meter) { m.Committed = math.MaxInt }), false},

	{"Burst 0", with(slow(0, 3, 5), func(m *api.Meter) { m.Burst = 0 }), true},
	{"Burst 2^20", with(slow(7, 3, 5), func(m *api.Meter) { m.Burst = 1 << 20 }), true},
	{"Burst 2^20 + 1", with(slow(7, 3, 5), func(m *api.Meter) { m.Burst = 1<<20 + 1 }), false},
	{"Burst -1", with(slow(0, 3, 5), func(m *api.Meter) { m.Burst = -1 }), false},
	{"Burst and First -1", with(slow(-1, 3, 5), func(m *api.Meter) { m.Burst = -1 }), false},
	{"Burst least", with(slow(0, 3, 5), func(m *api.Meter) { m.Burst = math.MinInt }), false},
	{"Burst greatest", with(slow(7, 3, 5), func(m *api.Meter) { m.Burst = math.MaxInt }), false},

	{"Excess 0", with(slow(7, 0, 5), func(m *api.Meter) { m.Excess = 0 }), true},
	{"Excess 2^20", with(slow(7, 3, 5), func(m *api.Meter) { m.Excess = 1 << 20 }), true},
	{"Excess 2^20 + 1", with(slow(7, 3, 5), func(m *api.Meter) { m.Excess = 1<<20 + 1 }), false},
	{"Excess -1", with(slow(7, 0, 5), func(m *api.Meter) { m.Excess = -1 }), false},
	{"Excess and Second -1", with(slow(7, -1, 5), func(m *api.Meter) { m.Excess = -1 }), false},
	{"Excess least", with(slow(7, 0, 5), func(m *api.Meter) { m.Excess = math.MinInt }), false},
	{"Excess greatest", with(slow(7, 3, 5), func(m *api.Meter) { m.Excess = math.MaxInt }), false},

	{"First 0", slow(0, 3, 5), true},
	{"First -1", slow(-1, 3, 5), false},
	{"First at Burst", slow(10, 3, 5), true},
	{"First above Burst", slow(11, 3, 5), false},
	{"First above Burst 0", api.Meter{Excess: 9, First: 1}, false},
	{"First 2^20 + 1", greatest(1<<20+1, 0, 5), false},
	{"First least", slow(math.MinInt, 3, 5), false},
	{"First greatest", slow(math.MaxInt, 3, 5), false},

	{"Second 0", slow(7, 0, 5), true},
	{"Second -1", slow(7, -1, 5), false},
	{"Second at Excess", slow(7, 5, 5), true},
	{"Second above Excess", slow(7, 6, 5), false},
	{"Second above Excess 0", api.Meter{Burst: 9, Second: 1}, false},
	{"Second 2^20 + 1", greatest(0, 1<<20+1, 5), false},
	{"Second least", slow(7, math.MinInt, 5), false},
	{"Second greatest", slow(7, math.MaxInt, 5), false},

	{"At 0", slow(7, 3, 0), true},
	{"At -1", slow(7, 3, -1), false},
	{"At 2^40", slow(7, 3, end), true},
	{"At 2^40 + 1", slow(7, 3, end+1), false},
	{"At least", slow(7, 3, math.MinInt), false},
	{"At greatest", slow(7, 3, math.MaxInt), false},
}

func TestRight(t *testing.T) {
	for _, c := range validity {
		if got := Right(c.m); got != c.valid {
			t.Errorf("%s: Right = %t, want %t", c.name, got, c.valid)
		}
	}
}

// J1: Colour.

func TestColourOfGreen(t *testing.T) {
	checkColour(t, slow(7, 3, 5), shot(5, 6), green, slow(1, 3, 5), green, api.OK)
	checkColour(t, slow(7, 3, 5), shot(5, 7), green, slow(0, 3, 5), green, api.OK)
	checkColour(t, slow(7, 3, 5), shot(5, 8), green, slow(7, 3, 5), red, api.OK)
	checkColour(t, slow(2, 3, 5), shot(5, 3), green, slow(2, 0, 5), yellow, api.OK)
	checkColour(t, slow(2, 4, 5), shot(5, 3), green, slow(2, 1, 5), yellow, api.OK)
	checkColour(t, slow(2, 3, 5), shot(5, 4), green, slow(2, 3, 5), red, api.OK) // 2 and 3 tokens are not put together
	checkColour(t, slow(0, 0, 5), shot(5, 1), green, slow(0, 0, 5), red, api.OK)
}

func TestColourOfYellow(t *testing.T) {
	checkColour(t, slow(7, 3, 5), shot(5, 2), yellow, slow(7, 1, 5), yellow, api.OK)
	checkColour(t, slow(7, 3, 5), shot(5, 3), yellow, slow(7, 0, 5), yellow, api.OK)
	checkColour(t, slow(7, 3, 5), shot(5, 4), yellow, slow(7, 3, 5), red, api.OK)
	checkColour(t, slow(0, 0, 5), shot(5, 1), yellow, slow(0, 0, 5), red, api.OK)
}

func TestColourOfRed(t *testing.T) {
	for _, bytes := range []int{0, 1, 3, 4, 7, 8, 1 << 20} {
		checkColour(t, slow(7, 3, 5), shot(5, bytes), red, slow(7, 3, 5), red, api.OK)
	}
	checkColour(t, slow(7, 3, 5), shot(6, 1), red, slow(9, 3, 6), red, api.OK)
}

func TestColourOfNoBytes(t *testing.T) {
	for _, m := range []api.Meter{slow(0, 0, 5), {}} {
		checkColour(t, m, shot(m.At, 0), green, m, green, api.OK)
		checkColour(t, m, shot(m.At, 0), yellow, m, yellow, api.OK)
		checkColour(t, m, shot(m.At, 0), red, m, red, api.OK)
	}
}

func TestColourFillsFirst(t *testing.T) {
	checkColour(t, slow(3, 0, 5), shot(6, 0), green, slow(5, 0, 6), green, api.OK)
	checkColour(t, slow(3, 0, 5), shot(8, 0), green, slow(9, 0, 8), green, api.OK)
	checkColour(t, slow(3, 0, 5), shot(9, 0), green, slow(10, 1, 9), green, api.OK) // one token of the 8 is left for Second
	checkColour(t, slow(4, 0, 5), shot(8, 0), green, slow(10, 0, 8), green, api.OK)
	checkColour(t, slow(10, 0, 5), shot(7, 0), green, slow(10, 4, 7), green, api.OK)
	checkColour(t, slow(10, 0, 5), shot(8, 0), green, slow(10, 5, 8), green, api.OK)
	checkColour(t, slow(10, 5, 5), shot(99, 0), green, slow(10, 5, 99), green, api.OK)
	checkColour(t, slow(0, 0, 0), shot(end, 0), green, slow(10, 5, end), green, api.OK)
	checkColour(t, slow(3, 0, 5), shot(6, 5), green, slow(0, 0, 6), green, api.OK)
	checkColour(t, slow(3, 0, 5), shot(6, 6), green, slow(5, 0, 6), red, api.OK) // the time goes on all the same
	checkColour(t, slow(9, 2, 5), shot(6, 3), yellow, slow(10, 0, 6), yellow, api.OK)
}

func TestColourWithoutRateOrBursts(t *testing.T) {
	still := api.Meter{Burst: 10, Excess: 5, First: 3, Second: 2}
	checkColour(t, still, shot(end, 4), green, with(still, func(m *api.Meter) { m.At = end }), red, api.OK)
	onlySecond := api.Meter{Committed: 3, Excess: 7}
	checkColour(t, onlySecond, shot(2, 4), green, api.Meter{Committed: 3, Excess: 7, Second: 2, At: 2}, yellow, api.OK)
	onlyFirst := api.Meter{Committed: 3, Burst: 7}
	checkColour(t, onlyFirst, shot(2, 4), green, api.Meter{Committed: 3, Burst: 7, First: 2, At: 2}, green, api.OK)
	none := api.Meter{Committed: 3}
	checkColour(t, none, shot(2, 1), green, api.Meter{Committed: 3, At: 2}, red, api.OK)
}

func TestColourWithTheGreatestNumbers(t *testing.T) {
	checkColour(t, greatest(0, 0, 0), shot(0, 1<<20), green, greatest(0, 0, 0), red, api.OK)
	checkColour(t, greatest(0, 0, 0), shot(1, 1<<20), green, greatest(0, 0, 1), green, api.OK)
	checkColour(t, greatest(1, 0, 0), shot(1, 0), green, greatest(1<<20, 1, 1), green, api.OK)
	checkColour(t, greatest(0, 0, 0), shot(2, 1<<20), yellow, greatest(1<<20, 0, 2), yellow, api.OK)
	checkColour(t, greatest(0, 0, 0), shot(end, 1<<20), green, greatest(0, 1<<20, end), green, api.OK)
	checkColour(t, greatest(1<<20, 1<<20, 0), shot(end, 1<<20), green, greatest(0, 1<<20, end), green, api.OK)
	checkColour(t, greatest(1<<20-1, 1<<20, end), shot(end, 1<<20), green, greatest(1<<20-1, 0, end), yellow, api.OK)
	checkColour(t, greatest(1<<20-1, 1<<20-1, end), shot(end, 1<<20), green, greatest(1<<20-1, 1<<20-1, end), red, api.OK)
}

func TestColourOfUnknownColour(t *testing.T) {
	for _, had := range []int{0, 4, -1, -3, 1<<32 + 1, math.MaxInt, math.MinInt} {
		for _, s := range []api.Shot{shot(5, 1), shot(4, 1), shot(end+1, 1), shot(5, -1), shot(5, 1<<20+1)} {
			checkColour(t, slow(7, 3, 5), s, had, api.Meter{}, 0, api.ErrKind)
		}
	}
}

func TestColourAtWrongTime(t *testing.T) {
	for _, had := range []int{green, yellow, red} {
		for _, at := range []int{4, 0, -1, end + 1, math.MaxInt, math.MinInt} {
			for _, bytes := range []int{0, 3, 1 << 20, -1} {
				checkColour(t, slow(7, 3, 5), shot(at, bytes), had, api.Meter{}, 0, api.ErrRange)
			}
		}
		checkColour(t, slow(7, 3, end), shot(end-1, 1), had, api.Meter{}, 0, api.ErrRange)
		checkColour(t, slow(7, 3, 0), shot(-1, 1), had, api.Meter{}, 0, api.ErrRange)
	}
}

func TestColourOfWrongSize(t *testing.T) {
	for _, had := range []int{green, yellow, red} {
		for _, bytes := range []int{-1, 1<<20 + 1, 1 << 62, math.MaxInt, math.MinInt} {
			checkColour(t, slow(7, 3, 5), shot(5, bytes), had, api.Meter{}, 0, api.ErrRange)
			checkColour(t, greatest(1<<20, 1<<20, 5), shot(end, bytes), had, api.Meter{}, 0, api.ErrRange)
		}
	}
}

func TestColourWithInvalidMeter(t *testing.T) {
	for _, c := range validity {
		for _, s := range []api.Shot{shot(c.m.At, 1), shot(end, 0), shot(-1, 1), shot(end, -1), shot(0, 1<<20+1)} {
			for had := range 5 {
				got, colour, err := Colour(c.m, s, had)
				if (err == api.ErrForm) == c.valid {
					t.Errorf("%s: Colour of %+v, %d gives error %d", c.name, s, had, err)
				}
				if err != api.OK && (got != (api.Meter{}) || colour != 0) || err == api.OK && !Right(got) {
					t.Errorf("%s: Colour of %+v, %d = %+v, %d, error %d", c.name, s, had, got, colour, err)
				}
			}
		}
	}
}

// J2: Play.

var slowSizes = [3]int{2, 10, 5}

func TestExampleOfPlay(t *testing.T) {
	shots := []api.Shot{shot(0, 8), shot(0, 4), shot(0, 4)}
	checkPlay(t, slowSizes, shots, []int{green, yellow, red}, slow(2, 1, 0), api.OK)
	checkPlay(t, [3]int{0, 10, 5}, shots, []int{green, yellow, red}, api.Meter{Burst: 10, Excess: 5, First: 2, Second: 1}, api.OK)
}

func TestPlay(t *testing.T) {
	shots := []api.Shot{shot(0, 8), shot(1, 5), shot(1, 4), shot(3, 8), shot(4, 0), shot(4, 1), shot(8, 6), shot(end, 11), shot(end, 10)}
	colours := []int{green, yellow, green, red, green, green, green, red, green}
	finals := []api.Meter{
		slow(10, 5, 0), slow(2, 5, 0), slow(4, 0, 1), slow(0, 0, 1), slow(4, 0, 3),
		slow(6, 0, 4), slow(5, 0, 4), slow(4, 3, 8), slow(10, 5, end), slow(0, 5, end),
	}
	for n, final := range finals {
		checkPlay(t, slowSizes, shots[:n], colours[:n], final, api.OK)
	}
}

func TestPlayWithoutShots(t *testing.T) {
	for _, shots := range [][]api.Shot{nil, {}} {
		checkPlay(t, slowSizes, shots, nil, slow(10, 5, 0), api.OK)
		checkPlay(t, [3]int{}, shots, nil, api.Meter{}, api.OK)
		checkPlay(t, [3]int{1 << 20, 1 << 20, 1 << 20}, shots, nil, greatest(1<<20, 1<<20, 0), api.OK)
	}
}

func TestPlayAtTheLimits(t *testing.T) {
	all := [3]int{1 << 20, 1 << 20, 1 << 20}
	shots := []api.Shot{shot(0, 1<<20), shot(0, 1<<20), shot(0, 1), shot(1, 1<<20), shot(end, 1<<20), shot(end, 0)}
	checkPlay(t, all, shots, []int{green, yellow, red, green, green, green}, greatest(0, 1<<20, end), api.OK)
	nothing := []api.Shot{shot(0, 0), shot(5, 1), shot(end, 0)}
	checkPlay(t, [3]int{}, nothing, []int{green, red, green}, api.Meter{At: end}, api.OK)
}

func TestPlayWithWrongSizes(t *testing.T) {
	lists := [][]api.Shot{nil, {shot(0, 1)}, {shot(5, 0), shot(4, 0)}, {shot(-1, 0)}}
	for _, wrong := range []int{-1, 1<<20 + 1, 1 << 32, math.MaxInt, math.MinInt} {
		for i := range 3 {
			sizes := slowSizes
			sizes[i] = wrong
			for _, shots := range lists {
				checkPlay(t, sizes, shots, nil, api.Meter{}, api.ErrRange)
			}
		}
	}
}

func TestPlayWithErrorsOfColour(t *testing.T) {
	for _, shots := range [][]api.Shot{
		{shot(-1, 0)},
		{shot(-1, 0), shot(0, 1)},
		{shot(math.MinInt, 1)},
		{shot(0, 1), shot(end+1, 1)},
		{shot(math.MaxInt, 1)},
		{shot(5, 0), shot(4, 0)},
		{shot(0, 1), shot(7, 1), shot(7, 1), shot(6, 1)},
		{shot(3, 1), shot(2, 1), shot(9, 1)},
		{shot(5, -1)},
		{shot(5, 1<<20+1)},
		{shot(0, 1), shot(1, math.MaxInt), shot(2, 1)},
		{shot(0, 1), shot(1, 1), shot(2, math.MinInt)},
	} {
		checkPlay(t, slowSizes, shots, nil, api.Meter{}, api.ErrRange)
	}
}

// plainFill puts one token after the other where it belongs.
func plainFill(m api.Meter, at int) api.Meter {
	for ; m.At < at; m.At++ {
		for range m.Committed {
			if m.First < m.Burst {
				m.First++
			} else if m.Second < m.Excess {
				m.Second++
			}
		}
	}
	return m
}

// plainColour decides for each colour a packet had separately.
func plainColour(m api.Meter, s api.Shot, had int) (api.Meter, int) {
	m = plainFill(m, s.At)
	inFirst, inSecond := m.First >= s.Bytes, m.Second >= s.Bytes
	switch {
	case had == green && inFirst:
		m.First -= s.Bytes
		return m, green
	case had == green && inSecond, had == yellow && inSecond:
		m.Second -= s.Bytes
		return m, yellow
	default:
		return m, red
	}
}

// spread fails the test unless every colour is among those counted often enough.
func spread(t *testing.T, counts [4]int, least int) {
	t.Helper()
	if min(counts[green], counts[yellow], counts[red]) < least {
		t.Errorf("not all colours come %d times: %v", least, counts)
	}
}

func TestColourAgainstThePlainOne(t *testing.T) {
	r := rand.New(rand.NewSource(14))
	var counts [4]int
	for range 20000 {
		m := api.Meter{Committed: r.Intn(5), Burst: r.Intn(12), Excess: r.Intn(12), At: r.Intn(50)}
		if r.Intn(2) == 0 {
			m.At = end - r.Intn(10)
		}
		m.First, m.Second = r.Intn(m.Burst+1), r.Intn(m.Excess+1)
		s := shot(min(m.At+r.Intn(8), end), r.Intn(14))
		had := 1 + r.Intn(3)
		want, colour := plainColour(m, s, had)
		checkColour(t, m, s, had, want, colour, api.OK)
		if t.Failed() {
			return
		}
		counts[colour]++
	}
	spread(t, counts, 2000)
}

func randomShots(r *rand.Rand, n, gap, bytes int) []api.Shot {
	shots := make([]api.Shot, n)
	at := 0
	for i := range shots {
		at += r.Intn(gap)
		shots[i] = shot(at, r.Intn(bytes))
	}
	return shots
}

func TestPlayAgainstThePlainOne(t *testing.T) {
	r := rand.New(rand.NewSource(15))
	var counts [4]int
	for range 3000 {
		sizes := [3]int{r.Intn(5), r.Intn(25), r.Intn(25)}
		shots := randomShots(r, r.Intn(40), 1+r.Intn(5), 1+r.Intn(20))
		m := api.Meter{Committed: sizes[0], Burst: sizes[1], Excess: sizes[2], First: sizes[1], Second: sizes[2]}
		colours := make([]int, len(shots))
		for i, s := range shots {
			m, colours[i] = plainColour(m, s, green)
			counts[colours[i]]++
		}
		checkPlay(t, sizes, shots, colours, m, api.OK)
		if t.Failed() {
			return
		}
	}
	spread(t, counts, 2000)
}

// exactly computes in integers of any size how much a bucket holds if arrived
// tokens come to what it has, and how many do not fit.
func exactly(has, room int, arrived *big.Int) (int, *big.Int) {
	sum := new(big.Int).Add(big.NewInt(int64(has)), arrived)
	rest := new(big.Int).Sub(sum, big.NewInt(int64(room)))
	if rest.Sign() <= 0 {
		return int(sum.Int64()), new(big.Int)
	}
	return room, rest
}

func TestLargeNumbersAreExact(t *testing.T) {
	r := rand.New(rand.NewSource(16))
	upTo := func(bits int) int { return min(r.Intn(1<<r.Intn(bits+1)+1), 1<<bits) }
	var counts [4]int
	for range 20000 {
		m := api.Meter{Committed: upTo(20), Burst: upTo(20), Excess: upTo(20), At: upTo(40)}
		m.First, m.Second = r.Intn(m.Burst+1), r.Intn(m.Excess+1)
		s := shot(min(m.At+upTo(40), end), upTo(20))
		arrived := new(big.Int).Mul(big.NewInt(int64(m.Committed)), big.NewInt(int64(s.At-m.At)))
		want := m
		want.At = s.At
		want.First, arrived = exactly(m.First, m.Burst, arrived)
		want.Second, _ = exactly(m.Second, m.Excess, arrived)
		colour := red
		if s.Bytes <= want.First {
			want.First -= s.Bytes
			colour = green
		} else if s.Bytes <= want.Second {
			want.Second -= s.Bytes
			colour = yellow
		}
		checkColour(t, m, s, green, want, colour, api.OK)
		if t.Failed() {
			return
		}
		counts[colour]++
	}
	spread(t, counts, 2000)
}

// In no interval are more green bytes than Burst and what arrives in it, and not
// more green and yellow ones than that and Excess.
func TestColoursRespectTheCommittedRate(t *testing.T) {
	r := rand.New(rand.NewSource(17))
	for range 300 {
		committed, burst, excess := r.Intn(5), r.Intn(25), r.Intn(25)
		shots := randomShots(r, 60, 1+r.Intn(5), 1+r.Intn(20))
		colours, _, err := Play(committed, burst, excess, shots)
		if err != api.OK {
			t.Fatalf("Play(%d, %d, %d, %v) gives error %d", committed, burst, excess, shots, err)
		}
		for first := range shots {
			var bytes [4]int
			for last := first; last < len(shots); last++ {
				bytes[colours[last]] += shots[last].Bytes
				arrived := committed * (shots[last].At - shots[first].At)
				if bytes[green] > burst+arrived || bytes[green]+bytes[yellow] > burst+excess+arrived {
					t.Fatalf("Play(%d, %d, %d, %v): bytes by colour %v while %d arrive", committed, burst, excess, shots, bytes, arrived)
				}
			}
		}
	}
}

// The number of shots has no limit.
func TestManyShots(t *testing.T) {
	const n = 1_000_000
	shots := make([]api.Shot, n)
	for i := range shots {
		shots[i] = shot(i/2, 1)
	}
	colours, m, err := Play(1, 1, 0, shots)
	if err != api.OK || len(colours) != n || m != (api.Meter{Committed: 1, Burst: 1, At: n/2 - 1}) {
		t.Fatalf("Play of %d shots gives %d colours, %+v, error %d", n, len(colours), m, err)
	}
	for i, colour := range colours {
		if want := []int{green, red}[i%2]; colour != want {
			t.Fatalf("shot %d has the colour %d, want %d", i, colour, want)
		}
	}
}

// AA1 and AA2: no state is kept, arguments are left as they are with the spare
// capacity behind them, and results are new memory.

func TestCallsAreIndependent(t *testing.T) {
	shots := []api.Shot{shot(0, 8), shot(1, 5)}
	for range 3 {
		first, _, _ := Play(2, 10, 5, shots)
		checkPlay(t, slowSizes, shots, []int{green, yellow}, slow(4, 0, 1), api.OK)
		first[0], first[1] = red, red
		checkPlay(t, slowSizes, shots, []int{green, yellow}, slow(4, 0, 1), api.OK)
		checkColour(t, slow(10, 5, 0), shot(0, 8), green, slow(2, 5, 0), green, api.OK)
	}
}

func TestPlayLeavesTheShots(t *testing.T) {
	memory := []api.Shot{shot(0, 8), shot(1, 5), shot(2, 6), shot(-7, -7), shot(3, 1)}
	before := slices.Clone(memory)
	checkPlay(t, slowSizes, memory[:3], []int{green, yellow, green}, slow(0, 0, 2), api.OK)
	checkPlay(t, slowSizes, memory[:4], nil, api.Meter{}, api.ErrRange)
	if !slices.Equal(memory, before) {
		t.Errorf("the shots are %v after the calls, want %v", memory, before)
	}
}
