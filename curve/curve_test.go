package curve

import (
	"math"
	"math/rand"
	"slices"
	"testing"

	"weirhouse/api"
)

const most = 1 << 20

// outside lists numbers that are not between 0 and 2^20.
var outside = []int{-1, most + 1, -most, 1 << 32, 1 << 62, math.MaxInt, math.MinInt}

func flow(burst, rate int) api.Curve { return api.Curve{Burst: burst, Rate: rate} }

func server(late, rate int) api.Service { return api.Service{Late: late, Rate: rate} }

// repeated returns a trace of n units in each of which bytes arrive.
func repeated(n, bytes int) []int { return slices.Repeat([]int{bytes}, n) }

func checkDelay(t *testing.T, c api.Curve, s api.Service, want int, err api.Errno) {
	t.Helper()
	got, gotErr := Delay(c, s)
	if got != want || gotErr != err {
		t.Errorf("Delay(%+v, %+v) = %d, %d, want %d, %d", c, s, got, gotErr, want, err)
	}
}

func checkBacklog(t *testing.T, c api.Curve, s api.Service, want int, err api.Errno) {
	t.Helper()
	got, gotErr := Backlog(c, s)
	if got != want || gotErr != err {
		t.Errorf("Backlog(%+v, %+v) = %d, %d, want %d, %d", c, s, got, gotErr, want, err)
	}
}

func checkChain(t *testing.T, a, b, want api.Service, err api.Errno) {
	t.Helper()
	got, gotErr := Chain(a, b)
	if got != want || gotErr != err {
		t.Errorf("Chain(%+v, %+v) = %+v, %d, want %+v, %d", a, b, got, gotErr, want, err)
	}
}

func checkKeeps(t *testing.T, c api.Curve, come []int, want bool, err api.Errno) {
	t.Helper()
	got, gotErr := Keeps(c, come)
	if got != want || gotErr != err {
		t.Errorf("Keeps(%+v, %v) = %t, %d, want %t, %d", c, come, got, gotErr, want, err)
	}
}

func checkServe(t *testing.T, s api.Service, come, want []int, err api.Errno) {
	t.Helper()
	got, gotErr := Serve(s, come)
	if !slices.Equal(got, want) || gotErr != err {
		t.Errorf("Serve(%+v, %v) = %v, %d, want %v, %d", s, come, got, gotErr, want, err)
	}
}

// K1: Wrong.

// validity lists curves and whether their numbers are in bounds.
var validity = []struct {
	c     api.Curve
	s     api.Service
	valid bool
}{
	{flow(0, 0), server(0, 0), true},
	{flow(10, 2), server(3, 4), true},
	{flow(most, most), server(most, most), true},
	{flow(most, 0), server(0, 0), true},
	{flow(0, most), server(0, 0), true},
	{flow(0, 0), server(most, 0), true},
	{flow(0, 0), server(0, most), true},
	{flow(9, 9), server(0, 0), true}, // a server that serves nothing is none that is out of bounds
	{flow(-1, 2), server(3, 4), false},
	{flow(10, -1), server(3, 4), false},
	{flow(10, 2), server(-1, 4), false},
	{flow(10, 2), server(3, -1), false},
	{flow(most+1, 2), server(3, 4), false},
	{flow(10, most+1), server(3, 4), false},
	{flow(10, 2), server(most+1, 4), false},
	{flow(10, 2), server(3, most+1), false},
	{flow(-1, -1), server(-1, -1), false},
	{flow(-1, 1), server(1, 0), false},
	{flow(math.MaxInt, math.MaxInt), server(math.MaxInt, math.MaxInt), false},
}

func TestWrong(t *testing.T) {
	for _, c := range validity {
		if got := Wrong(c.c, c.s); (got == api.OK) != c.valid || got != api.OK && got != api.ErrRange {
			t.Errorf("Wrong(%+v, %+v) = %d, want valid: %t", c.c, c.s, got, c.valid)
		}
	}
}

// invalid calls use for curves of which one number is out of bounds.
func invalid(use func(c api.Curve, s api.Service)) {
	for _, n := range outside {
		use(flow(n, 2), server(3, 4))
		use(flow(10, n), server(3, 4))
		use(flow(10, 2), server(n, 4))
		use(flow(10, 2), server(3, n))
		use(flow(n, 5), server(3, 4)) // no delay would be long enough
		use(flow(10, 5), server(n, 4))
		use(flow(10, 5), server(n, 0))
		use(flow(0, 0), server(n, 0))
		use(flow(0, 0), server(0, n))
	}
}

func TestWrongOutOfBounds(t *testing.T) {
	invalid(func(c api.Curve, s api.Service) {
		if got := Wrong(c, s); got != api.ErrRange {
			t.Errorf("Wrong(%+v, %+v) = %d, want %d", c, s, got, api.ErrRange)
		}
	})
}

// K1: Delay.

func TestExampleOfDelay(t *testing.T) {
	checkDelay(t, flow(10, 2), server(3, 4), 5, api.OK)
}

func TestDelay(t *testing.T) {
	checkDelay(t, flow(10, 2), server(0, 4), 2, api.OK)
	checkDelay(t, flow(9, 2), server(3, 4), 5, api.OK)
	checkDelay(t, flow(11, 2), server(3, 4), 6, api.OK)
	checkDelay(t, flow(6, 2), server(3, 4), 4, api.OK)
	checkDelay(t, flow(7, 2), server(3, 4), 5, api.OK)
	checkDelay(t, flow(10, 2), server(3, 11), 4, api.OK)
	checkDelay(t, flow(10, 2), server(3, 12), 3, api.OK)
	checkDelay(t, flow(10, 2), server(3, most), 3, api.OK)
	checkDelay(t, flow(10, 4), server(3, 4), 6, api.OK) // equal rates
	checkDelay(t, flow(0, 4), server(3, 4), 3, api.OK)
	checkDelay(t, flow(0, 4), server(0, 4), 0, api.OK)
	checkDelay(t, flow(1, 4), server(0, 4), 1, api.OK)
	checkDelay(t, flow(1, 0), server(0, 1), 0, api.OK)
	checkDelay(t, flow(1, 0), server(7, 1), 7, api.OK)
	checkDelay(t, flow(2, 0), server(7, 1), 8, api.OK)
}

func TestDelayOfNothing(t *testing.T) {
	for _, s := range []api.Service{server(0, 0), server(0, 5), server(5, 0), server(5, 5), server(most, 0), server(most, most)} {
		checkDelay(t, flow(0, 0), s, 0, api.OK)
	}
}

func TestDelayWithTheGreatestNumbers(t *testing.T) {
	checkDelay(t, flow(most, most), server(most, most), most+1, api.OK)
	checkDelay(t, flow(most, 0), server(most, most), most, api.OK)
	checkDelay(t, flow(most, 1), server(most, 1), 2*most, api.OK)
	checkDelay(t, flow(most, 0), server(most, 1), 2*most-1, api.OK)
	checkDelay(t, flow(most, 0), server(0, 1), most-1, api.OK)
	checkDelay(t, flow(most, most), server(0, most), 1, api.OK)
}

// nowhere lists curves between which no delay is long enough.
var nowhere = []struct {
	c api.Curve
	s api.Service
}{
	{flow(10, 5), server(3, 4)},
	{flow(0, 5), server(0, 4)},
	{flow(0, 1), server(0, 0)},
	{flow(1, 0), server(0, 0)}, // the rates are equal, but nothing is ever served
	{flow(1, 0), server(5, 0)},
	{flow(1, 1), server(0, 0)},
	{flow(most, most), server(most, 0)},
	{flow(0, most), server(0, most-1)},
	{flow(most, most), server(most, most-1)},
}

func TestDelayThatIsNone(t *testing.T) {
	for _, n := range nowhere {
		checkDelay(t, n.c, n.s, 0, api.ErrNone)
	}
}

func TestDelayOutOfBounds(t *testing.T) {
	invalid(func(c api.Curve, s api.Service) { checkDelay(t, c, s, 0, api.ErrRange) })
}

// inTime is the condition that the chapter sets for a delay of d and n units.
func inTime(c api.Curve, s api.Service, d, n int) bool {
	return c.Burst+n*c.Rate <= max(0, n+d-s.Late)*s.Rate
}

// plainDelay tries all delays below 60, which is more than any of small numbers.
func plainDelay(c api.Curve, s api.Service) (int, api.Errno) {
	for d := range 60 {
		all := true
		for n := 1; n <= 700 && all; n++ {
			all = inTime(c, s, d, n)
		}
		if all {
			return d, api.OK
		}
	}
	return 0, api.ErrNone
}

func TestDelayAndBacklogAgainstThePlainOnes(t *testing.T) {
	for i := range 10 * 10 * 10 * 10 {
		c, s := flow(i%10, i/10%10), server(i/100%10, i/1000)
		want, err := plainDelay(c, s)
		checkDelay(t, c, s, want, err)
		bytes := 0
		if err == api.OK {
			bytes = c.Burst + c.Rate*s.Late
		}
		checkBacklog(t, c, s, bytes, err)
		if t.Failed() {
			return
		}
	}
}

// A delay is long enough for all numbers of units, and one that is shorter by 1
// is not; where there is none, a very long one is too short.
func TestLargeDelays(t *testing.T) {
	r := rand.New(rand.NewSource(21))
	upTo := func(bits int) int { return min(r.Intn(1<<r.Intn(bits+1)+1), 1<<bits) }
	found := 0
	for range 20000 {
		c, s := flow(upTo(20), upTo(20)), server(upTo(20), upTo(20))
		d, err := Delay(c, s)
		if err == api.ErrNone {
			if inTime(c, s, 1<<22, 1<<42) {
				t.Fatalf("Delay(%+v, %+v) finds none, but 2^22 units may do", c, s)
			}
			continue
		}
		found++
		if err != api.OK || d < 0 || d > 0 && inTime(c, s, d-1, 1) {
			t.Fatalf("Delay(%+v, %+v) = %d, %d is wrong", c, s, d, err)
		}
		for n := range 50 {
			if !inTime(c, s, d, n+1) || !inTime(c, s, d, upTo(40)+1) {
				t.Fatalf("Delay(%+v, %+v) = %d is too short", c, s, d)
			}
		}
	}
	if found < 5000 || found > 15000 {
		t.Errorf("there is a delay %d times", found)
	}
}

// K1: Backlog.

func TestBacklog(t *testing.T) {
	checkBacklog(t, flow(10, 2), server(3, 4), 16, api.OK)
	checkBacklog(t, flow(10, 2), server(0, 4), 10, api.OK)
	checkBacklog(t, flow(10, 0), server(3, 4), 10, api.OK)
	checkBacklog(t, flow(0, 2), server(3, 4), 6, api.OK)
	checkBacklog(t, flow(10, 4), server(3, 4), 22, api.OK)
	checkBacklog(t, flow(most, most), server(most, most), 1<<40+1<<20, api.OK)
}

func TestBacklogOfNothing(t *testing.T) {
	for _, s := range []api.Service{server(0, 0), server(5, 0), server(most, most)} {
		checkBacklog(t, flow(0, 0), s, 0, api.OK)
	}
}

func TestBacklogWithErrorsOfDelay(t *testing.T) {
	for _, n := range nowhere {
		checkBacklog(t, n.c, n.s, 0, api.ErrNone)
	}
	invalid(func(c api.Curve, s api.Service) { checkBacklog(t, c, s, 0, api.ErrRange) })
}

// K1: Chain.

func TestChain(t *testing.T) {
	checkChain(t, server(3, 4), server(5, 7), server(8, 4), api.OK)
	checkChain(t, server(5, 7), server(3, 4), server(8, 4), api.OK)
	checkChain(t, server(3, 4), server(3, 4), server(6, 4), api.OK)
	checkChain(t, server(0, 0), server(0, 0), server(0, 0), api.OK)
	checkChain(t, server(3, 4), server(0, 0), server(3, 0), api.OK)
	checkChain(t, server(0, most), server(3, 4), server(3, 4), api.OK)
	checkChain(t, server(0, most), server(0, most), server(0, most), api.OK)
}

func TestChainWithoutRoom(t *testing.T) {
	checkChain(t, server(most, 1), server(0, 2), server(most, 1), api.OK)
	checkChain(t, server(most-5, 1), server(5, 2), server(most, 1), api.OK)
	checkChain(t, server(most/2, most), server(most/2, most), server(most, most), api.OK)
	checkChain(t, server(most, 1), server(1, 2), api.Service{}, api.ErrFull)
	checkChain(t, server(1, 1), server(most, 2), api.Service{}, api.ErrFull)
	checkChain(t, server(most-5, 0), server(6, 0), api.Service{}, api.ErrFull)
	checkChain(t, server(most, most), server(most, most), api.Service{}, api.ErrFull)
}

func TestChainOutOfBounds(t *testing.T) {
	for _, n := range outside {
		for _, wrong := range []api.Service{server(n, 4), server(3, n), server(n, n), server(most, n)} {
			for _, other := range []api.Service{server(3, 4), server(most, 0), wrong} {
				checkChain(t, wrong, other, api.Service{}, api.ErrRange)
				checkChain(t, other, wrong, api.Service{}, api.ErrRange)
			}
		}
	}
}

// K2: Keeps.

func TestKeeps(t *testing.T) {
	checkKeeps(t, flow(10, 2), []int{12, 2, 2, 2}, true, api.OK)
	checkKeeps(t, flow(10, 2), []int{13, 0, 0, 0}, false, api.OK)
	checkKeeps(t, flow(10, 2), []int{12, 3, 0, 0}, false, api.OK)
	checkKeeps(t, flow(10, 2), []int{0, 0, 0, 13}, false, api.OK) // what has not been used is lost
	checkKeeps(t, flow(10, 2), []int{0, 0, 0, 12}, true, api.OK)
	checkKeeps(t, flow(10, 2), []int{7, 7, 2, 2}, true, api.OK)
	checkKeeps(t, flow(10, 2), []int{7, 7, 2, 3}, false, api.OK)
	checkKeeps(t, flow(10, 2), []int{12, 0, 4, 0, 4}, true, api.OK)
	checkKeeps(t, flow(10, 2), []int{12, 0, 5, 0, 0}, false, api.OK)
	checkKeeps(t, flow(10, 2), []int{0, 12, 0, 0, 0, 0, 0, 12}, true, api.OK)
	checkKeeps(t, flow(10, 2), []int{0, 12, 0, 0, 0, 0, 12}, false, api.OK)
	checkKeeps(t, flow(10, 2), []int{0, 12, 0, 0, 0, 0, 10, 2}, true, api.OK)
	checkKeeps(t, flow(10, 2), []int{1, 1, 12, 2, 2, 0, 0}, true, api.OK)
	checkKeeps(t, flow(10, 2), []int{1, 1, 12, 2, 3, 0, 0}, false, api.OK)
}

func TestKeepsWithoutBurstOrRate(t *testing.T) {
	checkKeeps(t, flow(0, 0), []int{0, 0, 0}, true, api.OK)
	checkKeeps(t, flow(0, 0), []int{0, 0, 1}, false, api.OK)
	checkKeeps(t, flow(0, 3), []int{3, 0, 3, 3}, true, api.OK)
	checkKeeps(t, flow(0, 3), []int{2, 4}, false, api.OK)
	checkKeeps(t, flow(5, 0), []int{2, 0, 0, 3, 0}, true, api.OK)
	checkKeeps(t, flow(5, 0), []int{2, 0, 0, 4, 0}, false, api.OK)
}

func TestKeepsWithoutUnits(t *testing.T) {
	for _, come := range [][]int{nil, {}} {
		checkKeeps(t, flow(0, 0), come, true, api.OK)
		checkKeeps(t, flow(10, 2), come, true, api.OK)
		checkKeeps(t, flow(most, most), come, true, api.OK)
	}
}

func TestKeepsAtTheLimits(t *testing.T) {
	all := repeated(400, most)
	checkKeeps(t, flow(most, most), all, true, api.OK)
	checkKeeps(t, flow(0, most), all, true, api.OK)
	checkKeeps(t, flow(400, most-1), all, true, api.OK)
	checkKeeps(t, flow(399, most-1), all, false, api.OK)
	checkKeeps(t, flow(most, 0), all, false, api.OK)
	checkKeeps(t, flow(most, 0), all[:1], true, api.OK)
	checkKeeps(t, flow(0, 0), repeated(400, 0), true, api.OK)
}

// traces calls use for traces that are not valid.
func traces(use func(come []int)) {
	use(repeated(401, 0))
	use(repeated(401, 2))
	use(repeated(401, -1))
	use(repeated(1000, most))
	for _, n := range outside {
		use([]int{n})
		use([]int{n, 0, 0})
		use([]int{0, 99, n})
		use([]int{0, n, 99})
		use(append(repeated(399, 2), n))
	}
}

func TestKeepsOutOfBounds(t *testing.T) {
	traces(func(come []int) {
		checkKeeps(t, flow(10, 2), come, false, api.ErrRange)
		checkKeeps(t, flow(0, 0), come, false, api.ErrRange)
		checkKeeps(t, flow(most, most), come, false, api.ErrRange)
		checkKeeps(t, flow(-1, 2), come, false, api.ErrRange)
	})
	for _, n := range outside {
		for _, come := range [][]int{nil, {0, 0}, {most}} {
			checkKeeps(t, flow(n, 2), come, false, api.ErrRange)
			checkKeeps(t, flow(10, n), come, false, api.ErrRange)
			checkKeeps(t, flow(n, n), come, false, api.ErrRange)
		}
	}
}

// plainKeeps adds the arrivals of every run of units up.
func plainKeeps(c api.Curve, come []int) bool {
	for from := range come {
		sum := 0
		for n, bytes := range come[from:] {
			sum += bytes
			if sum > c.Burst+(n+1)*c.Rate {
				return false
			}
		}
	}
	return true
}

func randomTrace(r *rand.Rand, n, bytes int) []int {
	come := make([]int, n)
	for i := range come {
		if r.Intn(2) == 0 {
			come[i] = r.Intn(bytes)
		}
	}
	return come
}

func TestKeepsAgainstThePlainOne(t *testing.T) {
	r := rand.New(rand.NewSource(22))
	kept := 0
	for range 30000 {
		c, come := flow(r.Intn(25), r.Intn(6)), randomTrace(r, r.Intn(20), 1+r.Intn(20))
		want := plainKeeps(c, come)
		checkKeeps(t, c, come, want, api.OK)
		if t.Failed() {
			return
		}
		if want {
			kept++
		}
	}
	if kept < 5000 || kept > 25000 {
		t.Errorf("%d traces are within the curve", kept)
	}
}

// K2: Serve.

func TestServe(t *testing.T) {
	checkServe(t, server(3, 4), []int{12, 2, 2, 2, 2, 2, 2, 2}, []int{0, 0, 0, 4, 4, 4, 4, 4}, api.OK)
	checkServe(t, server(3, 4), []int{6, 0, 0, 0, 0, 0}, []int{0, 0, 0, 4, 2, 0}, api.OK)
	checkServe(t, server(3, 4), []int{0, 0, 6, 0, 0, 0, 0}, []int{0, 0, 0, 0, 0, 4, 2}, api.OK)
	checkServe(t, server(3, 4), []int{4, 0, 0, 0}, []int{0, 0, 0, 4}, api.OK)
	checkServe(t, server(3, 4), []int{4, 0, 0}, []int{0, 0, 0}, api.OK)
	checkServe(t, server(0, 4), []int{6, 0, 3, 9, 0, 0, 0}, []int{4, 2, 3, 4, 4, 1, 0}, api.OK)
	checkServe(t, server(1, 4), []int{6, 0, 3, 9, 0, 0, 0}, []int{0, 4, 4, 4, 4, 2, 0}, api.OK)
	checkServe(t, server(2, 1), []int{1, 1, 1, 1}, []int{0, 0, 1, 1}, api.OK)
}

func TestServeCountsAnew(t *testing.T) {
	checkServe(t, server(1, 4), []int{3, 0, 3, 0, 3, 0}, []int{0, 3, 0, 3, 0, 3}, api.OK)
	checkServe(t, server(1, 4), []int{3, 0, 0, 3, 0, 0}, []int{0, 3, 0, 0, 3, 0}, api.OK)
	checkServe(t, server(2, 4), []int{3, 0, 1, 1, 0, 0}, []int{0, 0, 4, 0, 0, 1}, api.OK)
	checkServe(t, server(2, 4), []int{3, 0, 2, 1, 0, 0}, []int{0, 0, 4, 2, 0, 0}, api.OK) // one byte was left, the count goes on
	checkServe(t, server(0, 4), []int{3, 3, 0, 3}, []int{3, 3, 0, 3}, api.OK)
}

func TestServeWithoutRate(t *testing.T) {
	checkServe(t, server(0, 0), []int{5, 0, 5}, []int{0, 0, 0}, api.OK)
	checkServe(t, server(1, 0), []int{5, 0, 5}, []int{0, 0, 0}, api.OK)
}

func TestServeWithoutArrivals(t *testing.T) {
	for _, s := range []api.Service{server(0, 0), server(3, 4), server(0, 4), server(most, most)} {
		checkServe(t, s, nil, nil, api.OK)
		checkServe(t, s, []int{}, nil, api.OK)
		checkServe(t, s, []int{0, 0, 0}, []int{0, 0, 0}, api.OK)
	}
	checkServe(t, server(2, 4), []int{0, 0, 0, 0, 5, 0, 0}, []int{0, 0, 0, 0, 0, 0, 4}, api.OK) // only units with a backlog count
}

func TestServeAtTheLimits(t *testing.T) {
	all := repeated(400, most)
	checkServe(t, server(0, most), all, all, api.OK)
	checkServe(t, server(most, most), all, repeated(400, 0), api.OK)
	checkServe(t, server(400, most), all, repeated(400, 0), api.OK)
	checkServe(t, server(399, most), all, append(repeated(399, 0), most), api.OK)
	checkServe(t, server(0, 1), all, repeated(400, 1), api.OK)
	checkServe(t, server(0, 1), []int{most, 0}, []int{1, 1}, api.OK)
	checkServe(t, server(0, most), []int{1, 0}, []int{1, 0}, api.OK)
}

func TestServeOutOfBounds(t *testing.T) {
	traces(func(come []int) {
		checkServe(t, server(3, 4), come, nil, api.ErrRange)
		checkServe(t, server(0, 0), come, nil, api.ErrRange)
		checkServe(t, server(most, most), come, nil, api.ErrRange)
		checkServe(t, server(3, -1), come, nil, api.ErrRange)
	})
	for _, n := range outside {
		for _, come := range [][]int{nil, {0, 0}, {most}} {
			checkServe(t, server(n, 4), come, nil, api.ErrRange)
			checkServe(t, server(3, n), come, nil, api.ErrRange)
			checkServe(t, server(n, n), come, nil, api.ErrRange)
		}
	}
}

func sum(numbers []int) int {
	all := 0
	for _, n := range numbers {
		all += n
	}
	return all
}

// plainServe looks back from each unit for how long there has been a backlog.
func plainServe(s api.Service, come []int) []int {
	served := make([]int, len(come))
	for i := range come {
		backlog := sum(come[:i+1]) - sum(served[:i])
		since := i
		for since > 0 && sum(come[:since]) > sum(served[:since]) {
			since--
		}
		if backlog > 0 && i-since+1 > s.Late {
			served[i] = min(backlog, s.Rate)
		}
	}
	return served
}

func TestServeAgainstThePlainOne(t *testing.T) {
	r := rand.New(rand.NewSource(23))
	for range 30000 {
		s, come := server(r.Intn(6), r.Intn(12)), randomTrace(r, r.Intn(25), 1+r.Intn(20))
		checkServe(t, s, come, plainServe(s, come), api.OK)
		if t.Failed() {
			return
		}
	}
}

// waits returns the longest delay of a byte and the largest backlog at the end
// of a unit. All that arrives must be served within the trace.
func waits(come, served []int) (int, int) {
	longest, largest := 0, 0
	for i := range come {
		arrived := sum(come[:i+1])
		largest = max(largest, arrived-sum(served[:i+1]))
		d := 0
		for come[i] > 0 && sum(served[:i+1+d]) < arrived {
			d++
		}
		longest = max(longest, d)
	}
	return longest, largest
}

// conforming returns a trace of which every unit is random, but within c.
func conforming(r *rand.Rand, c api.Curve, n int) []int {
	come := make([]int, n)
	left := c.Burst
	for i := range come {
		left = min(left, c.Burst) + c.Rate
		come[i] = r.Intn(left + 1)
		left -= come[i]
	}
	return come
}

// No trace within an arrival curve waits longer or needs more room than the
// bounds say, and one that sends all that it may reaches them.
func TestBoundsHold(t *testing.T) {
	r := rand.New(rand.NewSource(24))
	tried := 0
	for range 5000 {
		c, s := flow(r.Intn(30), r.Intn(6)), server(r.Intn(6), 1+r.Intn(9))
		d, err := Delay(c, s)
		if err != api.OK {
			continue
		}
		tried++
		room, _ := Backlog(c, s)
		greedy := append([]int{c.Burst + c.Rate}, repeated(19, c.Rate)...)
		for i, come := range [][]int{greedy, conforming(r, c, 20)} {
			checkKeeps(t, c, come, true, api.OK)
			served, _ := Serve(s, append(come, repeated(d, 0)...))
			longest, largest := waits(come, served)
			if longest > d || largest > room {
				t.Fatalf("%v within %+v waits %d at %+v with %d bytes, more than %d and %d", come, c, longest, s, largest, d, room)
			}
			if i == 0 && (longest != d || s.Late > 0 && largest != room) {
				t.Fatalf("%v within %+v waits %d at %+v with %d bytes, not %d and %d", come, c, longest, s, largest, d, room)
			}
		}
	}
	if tried < 1000 {
		t.Errorf("only %d flows are bounded", tried)
	}
}

// What goes through two servers in series keeps the bounds for the server that
// Chain says.
func TestBoundsHoldForTwoServers(t *testing.T) {
	r := rand.New(rand.NewSource(25))
	tried := 0
	for range 5000 {
		a, b := server(r.Intn(5), 1+r.Intn(9)), server(r.Intn(5), 1+r.Intn(9))
		both, _ := Chain(a, b)
		c := flow(r.Intn(30), r.Intn(6))
		d, err := Delay(c, both)
		if err != api.OK {
			continue
		}
		tried++
		room, _ := Backlog(c, both)
		come := conforming(r, c, 20)
		between, _ := Serve(a, append(come, repeated(d, 0)...))
		served, _ := Serve(b, between)
		longest, largest := waits(come, served)
		if longest > d || largest > room {
			t.Fatalf("%v within %+v waits %d at %+v and %+v with %d bytes, more than %d and %d", come, c, longest, a, b, largest, d, room)
		}
	}
	if tried < 1000 {
		t.Errorf("only %d flows are bounded", tried)
	}
}

// AA1 and AA2: no state is kept, arguments are left as they are with the spare
// capacity behind them, and results are new memory.

func TestCallsAreIndependent(t *testing.T) {
	come := []int{6, 0, 0, 5, 0}
	for range 3 {
		served, err := Serve(server(3, 4), come)
		if !slices.Equal(served, []int{0, 0, 0, 4, 4}) || err != api.OK {
			t.Fatalf("Serve = %v, %d", served, err)
		}
		for i := range served {
			served[i] = 99
		}
		checkKeeps(t, flow(10, 2), come, true, api.OK)
		checkKeeps(t, flow(3, 2), come, false, api.OK)
		checkServe(t, server(0, most), come, come, api.OK)
	}
}

func TestServedIsNewMemory(t *testing.T) {
	come := []int{6, 0, 5}
	served, _ := Serve(server(0, most), come)
	come[0] = 7
	if !slices.Equal(served, []int{6, 0, 5}) {
		t.Errorf("the result is %v after a change of the argument", served)
	}
}

func TestTracesAreLeft(t *testing.T) {
	memory := []int{12, 2, 2, -7, 3}
	before := slices.Clone(memory)
	for range 2 {
		checkKeeps(t, flow(10, 2), memory[:3], true, api.OK)
		checkKeeps(t, flow(10, 2), memory[:4], false, api.ErrRange)
		checkServe(t, server(1, 4), memory[:3], []int{0, 4, 4}, api.OK)
		checkServe(t, server(1, 4), memory[:4], nil, api.ErrRange)
	}
	if !slices.Equal(memory, before) {
		t.Errorf("the trace is %v after the calls, want %v", memory, before)
	}
}
