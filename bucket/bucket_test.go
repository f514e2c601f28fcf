package bucket

import (
	"math"
	"math/big"
	"math/rand"
	"slices"
	"testing"

	"weirhouse/api"
)

const end = 1 << 40 // MaxTime

// half returns a bucket at the rate 1/2 for 10 tokens.
func half(level, at int) api.Bucket {
	return api.Bucket{Num: 1, Den: 2, Burst: 10, Level: level, At: at}
}

// greatest returns a bucket whose rate, parts of a token and burst are as great
// as they can be.
func greatest(level, at int) api.Bucket {
	return api.Bucket{Num: 1 << 20, Den: 1 << 20, Burst: 1 << 20, Level: level, At: at}
}

// with returns a changed copy of b.
func with(b api.Bucket, change func(b *api.Bucket)) api.Bucket {
	change(&b)
	return b
}

func shot(at, bytes int) api.Shot { return api.Shot{At: at, Bytes: bytes} }

func checkFull(t *testing.T, num, den, burst int, want api.Bucket, err api.Errno) {
	t.Helper()
	got, gotErr := Full(num, den, burst)
	if got != want || gotErr != err {
		t.Errorf("Full(%d, %d, %d) = %+v, %d, want %+v, %d", num, den, burst, got, gotErr, want, err)
	}
}

func checkFill(t *testing.T, b api.Bucket, at int, want api.Bucket, err api.Errno) {
	t.Helper()
	got, gotErr := Fill(b, at)
	if got != want || gotErr != err {
		t.Errorf("Fill(%+v, %d) = %+v, %d, want %+v, %d", b, at, got, gotErr, want, err)
	}
}

func checkTake(t *testing.T, b api.Bucket, s api.Shot, want api.Bucket, taken bool, err api.Errno) {
	t.Helper()
	got, gotTaken, gotErr := Take(b, s)
	if got != want || gotTaken != taken || gotErr != err {
		t.Errorf("Take(%+v, %+v) = %+v, %t, %d, want %+v, %t, %d", b, s, got, gotTaken, gotErr, want, taken, err)
	}
}

func checkReady(t *testing.T, b api.Bucket, bytes, at int, ok bool, err api.Errno) {
	t.Helper()
	got, gotOk, gotErr := Ready(b, bytes)
	if got != at || gotOk != ok || gotErr != err {
		t.Errorf("Ready(%+v, %d) = %d, %t, %d, want %d, %t, %d", b, bytes, got, gotOk, gotErr, at, ok, err)
	}
}

func checkPlay(t *testing.T, rate [3]int, shots []api.Shot, taken []bool, want api.Bucket, err api.Errno) {
	t.Helper()
	gotTaken, got, gotErr := Play(rate[0], rate[1], rate[2], shots)
	if !slices.Equal(gotTaken, taken) || got != want || gotErr != err {
		t.Errorf("Play(%v, %v) = %v, %+v, %d, want %v, %+v, %d", rate, shots, gotTaken, got, gotErr, taken, want, err)
	}
}

// I1: Right.

// validity lists buckets and whether they are valid.
var validity = []struct {
	name  string
	b     api.Bucket
	valid bool
}{
	{"some tokens", half(7, 5), true},
	{"all at its least", api.Bucket{Den: 1}, true},
	{"all at its greatest", greatest(1<<40, end), true},
	{"zero", api.Bucket{}, false},

	{"Num 0", with(half(7, 5), func(b *api.Bucket) { b.Num = 0 }), true},
	{"Num 2^20", with(half(7, 5), func(b *api.Bucket) { b.Num = 1 << 20 }), true},
	{"Num 2^20 + 1", with(half(7, 5), func(b *api.Bucket) { b.Num = 1<<20 + 1 }), false},
	{"Num -1", with(half(7, 5), func(b *api.Bucket) { b.Num = -1 }), false},
	{"Num least", with(half(7, 5), func(b *api.Bucket) { b.Num = math.MinInt }), false},
	{"Num greatest", with(half(7, 5), func(b *api.Bucket) { b.Num = math.MaxInt }), false},

	{"Den 1", with(half(7, 5), func(b *api.Bucket) { b.Den = 1 }), true},
	{"Den 0", with(half(0, 5), func(b *api.Bucket) { b.Den = 0 }), false},
	{"Den 2^20", with(half(7, 5), func(b *api.Bucket) { b.Den = 1 << 20 }), true},
	{"Den 2^20 + 1", with(half(7, 5), func(b *api.Bucket) { b.Den = 1<<20 + 1 }), false},
	{"Den -1", with(half(0, 5), func(b *api.Bucket) { b.Den = -1 }), false},
	{"Den least", with(half(0, 5), func(b *api.Bucket) { b.Den = math.MinInt }), false},
	{"Den greatest", with(half(0, 5), func(b *api.Bucket) { b.Den = math.MaxInt }), false},

	{"Burst 0", with(half(0, 5), func(b *api.Bucket) { b.Burst = 0 }), true},
	{"Burst 2^20", with(half(7, 5), func(b *api.Bucket) { b.Burst = 1 << 20 }), true},
	{"Burst 2^20 + 1", with(half(7, 5), func(b *api.Bucket) { b.Burst = 1<<20 + 1 }), false},
	{"Burst -1", with(half(0, 5), func(b *api.Bucket) { b.Burst = -1 }), false},
	{"Burst least", with(half(0, 5), func(b *api.Bucket) { b.Burst = math.MinInt }), false},
	{"Burst greatest", with(half(7, 5), func(b *api.Bucket) { b.Burst = math.MaxInt }), false},
	{"Burst and Den -1, the product of which is 1", api.Bucket{Den: -1, Burst: -1}, false},
	{"Burst and Den 2^32, the product of which wraps around", api.Bucket{Den: 1 << 32, Burst: 1 << 32}, false},

	{"Level 0", half(0, 5), true},
	{"Level -1", half(-1, 5), false},
	{"Level as great as it can be", half(20, 5), true},
	{"Level greater by 1", half(21, 5), false},
	{"Level greater than Burst 0", api.Bucket{Den: 9, Level: 1}, false},
	{"Level 2^40 + 1", greatest(1<<40+1, 5), false},
	{"Level least", half(math.MinInt, 5), false},
	{"Level greatest", greatest(math.MaxInt, 5), false},

	{"At 0", half(7, 0), true},
	{"At -1", half(7, -1), false},
	{"At 2^40", half(7, end), true},
	{"At 2^40 + 1", half(7, end+1), false},
	{"At least", half(7, math.MinInt), false},
	{"At greatest", half(7, math.MaxInt), false},
}

func TestRight(t *testing.T) {
	for _, c := range validity {
		if got := Right(c.b); got != c.valid {
			t.Errorf("%s: Right = %t, want %t", c.name, got, c.valid)
		}
	}
}

// I1: Full.

func TestFull(t *testing.T) {
	checkFull(t, 1, 2, 10, half(20, 0), api.OK)
	checkFull(t, 3, 7, 100, api.Bucket{Num: 3, Den: 7, Burst: 100, Level: 700}, api.OK)
	checkFull(t, 2, 4, 10, api.Bucket{Num: 2, Den: 4, Burst: 10, Level: 40}, api.OK) // not reduced
	checkFull(t, 0, 1, 0, api.Bucket{Den: 1}, api.OK)
	checkFull(t, 0, 1<<20, 3, api.Bucket{Den: 1 << 20, Burst: 3, Level: 3 << 20}, api.OK)
	checkFull(t, 1<<20, 1<<20, 1<<20, greatest(1<<40, 0), api.OK)
}

func TestFullOfWrongNumbers(t *testing.T) {
	for _, wrong := range []int{-1, 1<<20 + 1, -1 << 20, 1 << 32, 1<<32 + 1, math.MaxInt, math.MinInt} {
		checkFull(t, wrong, 2, 10, api.Bucket{}, api.ErrRange)
		checkFull(t, 1, wrong, 10, api.Bucket{}, api.ErrRange)
		checkFull(t, 1, wrong, 0, api.Bucket{}, api.ErrRange)
		checkFull(t, 1, 2, wrong, api.Bucket{}, api.ErrRange)
		checkFull(t, wrong, wrong, wrong, api.Bucket{}, api.ErrRange)
	}
	checkFull(t, 1, 0, 10, api.Bucket{}, api.ErrRange)
	checkFull(t, 0, 0, 0, api.Bucket{}, api.ErrRange)
}

// I1: Fill.

func TestFill(t *testing.T) {
	checkFill(t, half(4, 0), 0, half(4, 0), api.OK)
	checkFill(t, half(4, 0), 1, half(5, 1), api.OK)
	checkFill(t, half(4, 5), 8, half(7, 8), api.OK)
	checkFill(t, half(4, 5), 20, half(19, 20), api.OK)
	checkFill(t, half(4, 5), 21, half(20, 21), api.OK)
	checkFill(t, half(4, 5), 22, half(20, 22), api.OK)
	checkFill(t, half(20, 5), 6, half(20, 6), api.OK)
	checkFill(t, half(0, 0), end, half(20, end), api.OK)
	checkFill(t, half(3, end-2), end, half(5, end), api.OK)
	checkFill(t, half(3, end), end, half(3, end), api.OK)
}

func TestFillDoesNotGoBeyondTheBurst(t *testing.T) {
	fast := api.Bucket{Num: 7, Den: 3, Burst: 5, Level: 9}
	checkFill(t, fast, 1, api.Bucket{Num: 7, Den: 3, Burst: 5, Level: 15, At: 1}, api.OK)
	checkFill(t, api.Bucket{Num: 7, Den: 3}, 9, api.Bucket{Num: 7, Den: 3, At: 9}, api.OK)
}

func TestFillWithoutRate(t *testing.T) {
	still := with(half(3, 5), func(b *api.Bucket) { b.Num = 0 })
	checkFill(t, still, end, with(still, func(b *api.Bucket) { b.At = end }), api.OK)
}

func TestFillWithTheGreatestNumbers(t *testing.T) {
	checkFill(t, greatest(0, 0), 1, greatest(1<<20, 1), api.OK)
	checkFill(t, greatest(0, 0), 1<<20-1, greatest(1<<40-1<<20, 1<<20-1), api.OK)
	checkFill(t, greatest(5, 0), 1<<20-1, greatest(1<<40-1<<20+5, 1<<20-1), api.OK)
	checkFill(t, greatest(0, 0), 1<<20, greatest(1<<40, 1<<20), api.OK)
	checkFill(t, greatest(0, 0), end, greatest(1<<40, end), api.OK)
	checkFill(t, greatest(1<<40, 0), end, greatest(1<<40, end), api.OK)
	slow := api.Bucket{Num: 1, Den: 1 << 20, Burst: 1 << 20}
	late := with(slow, func(b *api.Bucket) { b.Level, b.At = end-1, end-1 })
	checkFill(t, slow, end-1, late, api.OK)
}

func TestFillOfWrongTime(t *testing.T) {
	for _, at := range []int{4, 0, -1, end + 1, math.MaxInt, math.MinInt} {
		checkFill(t, half(7, 5), at, api.Bucket{}, api.ErrRange)
	}
	checkFill(t, half(7, end), end-1, api.Bucket{}, api.ErrRange)
	checkFill(t, half(7, end), end+1, api.Bucket{}, api.ErrRange)
	checkFill(t, half(7, 0), -1, api.Bucket{}, api.ErrRange)
}

func TestFillOfInvalidBucket(t *testing.T) {
	for _, c := range validity {
		for _, at := range []int{c.b.At, 0, 5, end, end + 1, -1, math.MaxInt} {
			got, err := Fill(c.b, at)
			if (err == api.ErrForm) == c.valid {
				t.Errorf("%s: Fill up to %d gives error %d", c.name, at, err)
			}
			if err != api.OK && got != (api.Bucket{}) || err == api.OK && !Right(got) {
				t.Errorf("%s: Fill up to %d = %+v, error %d", c.name, at, got, err)
			}
		}
	}
}

// I2: Take.

func TestTake(t *testing.T) {
	checkTake(t, half(20, 0), shot(0, 8), half(4, 0), true, api.OK)
	checkTake(t, half(4, 0), shot(0, 2), half(0, 0), true, api.OK)
	checkTake(t, half(7, 5), shot(5, 0), half(7, 5), true, api.OK)
	checkTake(t, half(0, 5), shot(5, 0), half(0, 5), true, api.OK)
	checkTake(t, half(20, 5), shot(end, 10), half(0, end), true, api.OK)
	checkTake(t, greatest(1<<40, 9), shot(9, 1<<20), greatest(0, 9), true, api.OK)
	checkTake(t, greatest(0, 0), shot(end, 1<<20), greatest(0, end), true, api.OK)
	checkTake(t, api.Bucket{Den: 1}, shot(3, 0), api.Bucket{Den: 1, At: 3}, true, api.OK)
}

func TestTakeTooMuch(t *testing.T) {
	checkTake(t, half(3, 0), shot(0, 2), half(3, 0), false, api.OK)
	checkTake(t, half(0, 0), shot(0, 1), half(0, 0), false, api.OK)
	checkTake(t, half(20, 0), shot(end, 11), half(20, end), false, api.OK)
	checkTake(t, half(20, 0), shot(0, 1<<20), half(20, 0), false, api.OK)
	checkTake(t, greatest(1<<40-1, 9), shot(9, 1<<20), greatest(1<<40-1, 9), false, api.OK)
	checkTake(t, api.Bucket{Num: 1, Den: 1}, shot(3, 1), api.Bucket{Num: 1, Den: 1, At: 3}, false, api.OK)
}

func TestTakeFillsFirst(t *testing.T) {
	checkTake(t, half(3, 0), shot(1, 2), half(0, 1), true, api.OK)
	checkTake(t, half(3, 0), shot(4, 2), half(3, 4), true, api.OK)
	checkTake(t, half(3, 5), shot(7, 3), half(5, 7), false, api.OK) // the time goes on all the same
	checkTake(t, half(19, 5), shot(99, 10), half(0, 99), true, api.OK)
}

func TestTakeAtWrongTime(t *testing.T) {
	for _, at := range []int{4, 0, -1, end + 1, math.MaxInt, math.MinInt} {
		for _, bytes := range []int{0, 3, 1 << 20, -1} {
			checkTake(t, half(7, 5), shot(at, bytes), api.Bucket{}, false, api.ErrRange)
		}
	}
}

func TestTakeOfWrongSize(t *testing.T) {
	for _, bytes := range []int{-1, 1<<20 + 1, 1 << 62, math.MaxInt, math.MinInt} {
		checkTake(t, half(7, 5), shot(5, bytes), api.Bucket{}, false, api.ErrRange)
		checkTake(t, half(7, 5), shot(4, bytes), api.Bucket{}, false, api.ErrRange)
		checkTake(t, greatest(1<<40, 5), shot(9, bytes), api.Bucket{}, false, api.ErrRange)
	}
}

func TestTakeFromInvalidBucket(t *testing.T) {
	for _, c := range validity {
		for _, s := range []api.Shot{shot(c.b.At, 1), shot(end, 0), shot(-1, 1), shot(end, -1), shot(0, 1<<20+1)} {
			got, taken, err := Take(c.b, s)
			if (err == api.ErrForm) == c.valid {
				t.Errorf("%s: Take of %+v gives error %d", c.name, s, err)
			}
			if err != api.OK && (got != (api.Bucket{}) || taken) || err == api.OK && !Right(got) {
				t.Errorf("%s: Take of %+v = %+v, %t, error %d", c.name, s, got, taken, err)
			}
		}
	}
}

// I2: Ready.

func TestExampleOfReady(t *testing.T) {
	checkReady(t, half(4, 0), 3, 2, true, api.OK)
	checkReady(t, half(4, 70), 3, 72, true, api.OK)
}

func TestReady(t *testing.T) {
	checkReady(t, half(4, 7), 0, 7, true, api.OK)
	checkReady(t, half(4, 7), 2, 7, true, api.OK)
	checkReady(t, half(5, 7), 3, 8, true, api.OK)
	checkReady(t, half(0, 7), 10, 27, true, api.OK)
	checkReady(t, half(20, 7), 10, 7, true, api.OK)
	checkReady(t, greatest(0, 7), 1, 8, true, api.OK)
	checkReady(t, greatest(0, 7), 1<<20, 1<<20+7, true, api.OK)
	checkReady(t, greatest(1<<40, end), 1<<20, end, true, api.OK)
}

func TestReadyIsRoundedUp(t *testing.T) {
	b := api.Bucket{Num: 3, Den: 7, Burst: 9, At: 50}
	for bytes, at := range []int{50, 53, 55, 57, 60, 62, 64, 67, 69, 71} {
		checkReady(t, b, bytes, at, true, api.OK)
	}
	// More than is missing comes in one unit of time, and more than the burst.
	checkReady(t, api.Bucket{Num: 1 << 20, Den: 3, Burst: 9, Level: 26, At: 50}, 9, 51, true, api.OK)
}

func TestReadyOfMoreThanTheBurst(t *testing.T) {
	checkReady(t, half(20, 0), 11, 0, false, api.OK)
	checkReady(t, half(0, 0), 1<<20, 0, false, api.OK)
	checkReady(t, api.Bucket{Num: 5, Den: 1}, 1, 0, false, api.OK)
	checkReady(t, api.Bucket{Num: 5, Den: 1, At: 8}, 0, 8, true, api.OK)
}

func TestReadyWithoutRate(t *testing.T) {
	still := with(half(5, 8), func(b *api.Bucket) { b.Num = 0 })
	checkReady(t, still, 0, 8, true, api.OK)
	checkReady(t, still, 2, 8, true, api.OK)
	checkReady(t, still, 3, 0, false, api.OK)
	checkReady(t, still, 11, 0, false, api.OK)
}

func TestReadyUpToMaxTime(t *testing.T) {
	checkReady(t, half(0, end-20), 10, end, true, api.OK)
	checkReady(t, half(0, end-19), 10, 0, false, api.OK)
	checkReady(t, half(5, end), 2, end, true, api.OK)
	checkReady(t, half(5, end), 3, 0, false, api.OK)
	slow := api.Bucket{Num: 1, Den: 1 << 20, Burst: 1 << 20}
	checkReady(t, slow, 1<<20, end, true, api.OK)
	slow.At = 1
	checkReady(t, slow, 1<<20, 0, false, api.OK)
	checkReady(t, slow, 1<<20-1, end-1<<20+1, true, api.OK)
}

func TestReadyOfWrongSize(t *testing.T) {
	for _, bytes := range []int{-1, 1<<20 + 1, 1 << 62, math.MaxInt, math.MinInt} {
		checkReady(t, half(7, 5), bytes, 0, false, api.ErrRange)
		checkReady(t, greatest(1<<40, end), bytes, 0, false, api.ErrRange)
	}
}

func TestReadyOfInvalidBucket(t *testing.T) {
	for _, c := range validity {
		for _, bytes := range []int{0, 1, 1 << 20, -1, 1<<20 + 1} {
			at, ok, err := Ready(c.b, bytes)
			if (err == api.ErrForm) == c.valid {
				t.Errorf("%s: Ready of %d gives error %d", c.name, bytes, err)
			}
			if !ok && at != 0 || ok && err != api.OK {
				t.Errorf("%s: Ready of %d = %d, %t, error %d", c.name, bytes, at, ok, err)
			}
		}
	}
}

// I3: Play.

var halfRate = [3]int{1, 2, 10}

func TestPlay(t *testing.T) {
	shots := []api.Shot{shot(0, 8), shot(1, 3), shot(2, 3), shot(2, 0), shot(9, 4), shot(100, 10), shot(100, 1), shot(end, 11)}
	taken := []bool{true, false, true, true, false, true, false, false}
	finals := []api.Bucket{half(20, 0), half(4, 0), half(5, 1), half(0, 2), half(0, 2), half(7, 9), half(0, 100), half(0, 100), half(20, end)}
	for n, final := range finals {
		checkPlay(t, halfRate, shots[:n], taken[:n], final, api.OK)
	}
}

func TestPlayWithoutShots(t *testing.T) {
	for _, shots := range [][]api.Shot{nil, {}} {
		checkPlay(t, halfRate, shots, nil, half(20, 0), api.OK)
		checkPlay(t, [3]int{0, 1, 0}, shots, nil, api.Bucket{Den: 1}, api.OK)
	}
}

func TestPlayAtTheLimits(t *testing.T) {
	all := [3]int{1 << 20, 1 << 20, 1 << 20}
	shots := []api.Shot{shot(0, 1<<20), shot(0, 1), shot(1, 1), shot(end, 1<<20), shot(end, 0)}
	checkPlay(t, all, shots, []bool{true, false, true, true, true}, greatest(0, end), api.OK)
	none := []api.Shot{shot(0, 0), shot(5, 1), shot(end, 0)}
	checkPlay(t, [3]int{0, 1, 0}, none, []bool{true, false, true}, api.Bucket{Den: 1, At: end}, api.OK)
}

func TestPlayWithWrongRate(t *testing.T) {
	lists := [][]api.Shot{nil, {shot(0, 1)}, {shot(5, 0), shot(4, 0)}, {shot(-1, 0)}}
	for _, rate := range [][3]int{{-1, 2, 10}, {1, 0, 10}, {1, 2, -1}, {1<<20 + 1, 2, 10}, {1, 1<<20 + 1, 10}, {1, 2, 1<<20 + 1}, {math.MinInt, math.MaxInt, math.MaxInt}} {
		for _, shots := range lists {
			checkPlay(t, rate, shots, nil, api.Bucket{}, api.ErrRange)
		}
	}
}

func TestPlayOfShotsThatGoBack(t *testing.T) {
	for _, shots := range [][]api.Shot{
		{shot(5, 0), shot(4, 0)},
		{shot(0, 0), shot(-1, 0)},
		{shot(0, 1), shot(7, 1), shot(7, 1), shot(6, 1)},
		{shot(3, 1), shot(2, 1), shot(9, 1)},
		{shot(math.MaxInt, 1), shot(math.MinInt, 1)},
	} {
		checkPlay(t, halfRate, shots, nil, api.Bucket{}, api.ErrForm)
	}
}

func TestOrderComesBeforeTheErrorsOfTake(t *testing.T) {
	for _, shots := range [][]api.Shot{
		{shot(0, -1), shot(5, 0), shot(4, 0)},
		{shot(-1, 0), shot(-2, 0)},
		{shot(end+1, 0), shot(end, 0)},
		{shot(5, 0), shot(4, 1<<20+1)},
	} {
		checkPlay(t, halfRate, shots, nil, api.Bucket{}, api.ErrForm)
	}
}

func TestPlayWithErrorsOfTake(t *testing.T) {
	for _, shots := range [][]api.Shot{
		{shot(-1, 0)},
		{shot(-1, 0), shot(0, 1)},
		{shot(math.MinInt, 1)},
		{shot(0, 1), shot(end+1, 1)},
		{shot(math.MaxInt, 1)},
		{shot(5, -1)},
		{shot(5, 1<<20+1)},
		{shot(0, 1), shot(1, math.MaxInt), shot(2, 1)},
		{shot(0, 1), shot(1, 1), shot(2, math.MinInt)},
	} {
		checkPlay(t, halfRate, shots, nil, api.Bucket{}, api.ErrRange)
	}
}

// plainFill adds the tokens of one unit of time after the other.
func plainFill(b api.Bucket, at int) api.Bucket {
	for b.At < at {
		b.At++
		b.Level += b.Num
		if b.Level > b.Burst*b.Den {
			b.Level = b.Burst * b.Den
		}
	}
	return b
}

// plainReady waits until there are enough tokens, or the bucket does not change.
func plainReady(b api.Bucket, bytes int) (int, bool) {
	for {
		if b.Level >= bytes*b.Den {
			return b.At, true
		}
		next := plainFill(b, b.At+1)
		if next.Level == b.Level || next.At > end {
			return 0, false
		}
		b = next
	}
}

// plainPlay fills and takes with a bucket that starts full.
func plainPlay(rate [3]int, shots []api.Shot) (taken []bool, b api.Bucket) {
	b = api.Bucket{Num: rate[0], Den: rate[1], Burst: rate[2], Level: rate[2] * rate[1]}
	for _, s := range shots {
		b = plainFill(b, s.At)
		enough := b.Level >= s.Bytes*b.Den
		if enough {
			b.Level -= s.Bytes * b.Den
		}
		taken = append(taken, enough)
	}
	return taken, b
}

func TestFillAndReadyAgainstThePlainOnes(t *testing.T) {
	r := rand.New(rand.NewSource(9))
	unready := 0
	for range 20000 {
		b := api.Bucket{Num: r.Intn(9), Den: 1 + r.Intn(9), Burst: r.Intn(9), At: r.Intn(50)}
		if r.Intn(2) == 0 {
			b.At = end - r.Intn(20)
		}
		b.Level = r.Intn(b.Burst*b.Den + 1)
		at := min(b.At+r.Intn(30), end)
		checkFill(t, b, at, plainFill(b, at), api.OK)
		bytes := r.Intn(11)
		ready, ok := plainReady(b, bytes)
		checkReady(t, b, bytes, ready, ok, api.OK)
		if t.Failed() {
			return
		}
		if !ok {
			unready++
		}
	}
	if unready < 1000 || unready > 15000 {
		t.Errorf("%d of 20000 buckets never have enough tokens", unready)
	}
}

func randomShots(r *rand.Rand, n, gap, bytes int) []api.Shot {
	shots := make([]api.Shot, n)
	at := 0
	for i := range shots {
		at += r.Intn(gap)
		shots[i] = shot(at, r.Intn(bytes))
	}
	return shots
}

func TestPlayAgainstThePlainOne(t *testing.T) {
	r := rand.New(rand.NewSource(10))
	yes, no := 0, 0
	for range 3000 {
		rate := [3]int{r.Intn(12), 1 + r.Intn(12), r.Intn(30)}
		shots := randomShots(r, r.Intn(40), 1+r.Intn(15), 1+r.Intn(12))
		taken, b := plainPlay(rate, shots)
		checkPlay(t, rate, shots, taken, b, api.OK)
		if t.Failed() {
			return
		}
		for _, taken := range taken {
			if taken {
				yes++
			} else {
				no++
			}
		}
	}
	if yes < 5000 || no < 5000 {
		t.Errorf("only %d shots are taken, and %d are not", yes, no)
	}
}

// large returns a valid bucket with numbers of all sizes.
func large(r *rand.Rand) api.Bucket {
	upTo := func(bits int) int { return min(r.Intn(1<<r.Intn(bits+1)+1), 1<<bits) }
	b := api.Bucket{Num: upTo(20), Den: max(1, upTo(20)), Burst: upTo(20), At: upTo(40)}
	b.Level = r.Intn(b.Burst*b.Den + 1)
	return b
}

// exactLevel computes in integers of any size what is in b at time at.
func exactLevel(b api.Bucket, at int) int {
	level := big.NewInt(int64(at - b.At))
	level.Mul(level, big.NewInt(int64(b.Num)))
	level.Add(level, big.NewInt(int64(b.Level)))
	room := new(big.Int).Mul(big.NewInt(int64(b.Burst)), big.NewInt(int64(b.Den)))
	if level.Cmp(room) > 0 {
		level = room
	}
	return int(level.Int64())
}

func TestLargeNumbersAreExact(t *testing.T) {
	r := rand.New(rand.NewSource(11))
	for range 20000 {
		b := large(r)
		if !Right(b) {
			t.Fatalf("%+v is not valid", b)
		}
		at := b.At + r.Intn(1<<r.Intn(41)+1)
		if at > end {
			checkFill(t, b, at, api.Bucket{}, api.ErrRange)
			at = end
		}
		level := exactLevel(b, at)
		filled := with(b, func(b *api.Bucket) { b.At, b.Level = at, level })
		checkFill(t, b, at, filled, api.OK)
		bytes := min(r.Intn(1<<r.Intn(21)+1), 1<<20)
		if bytes*b.Den <= level {
			taken := with(filled, func(b *api.Bucket) { b.Level -= bytes * b.Den })
			checkTake(t, b, shot(at, bytes), taken, true, api.OK)
		} else {
			checkTake(t, b, shot(at, bytes), filled, false, api.OK)
		}
		if t.Failed() {
			return
		}
	}
}

// Take succeeds at the time that Ready gives and fails before; if there is no
// such time it fails until MaxTime.
func TestReadyAgreesWithTake(t *testing.T) {
	r := rand.New(rand.NewSource(12))
	waits, nevers := 0, 0
	for range 20000 {
		b := large(r)
		bytes := min(r.Intn(1<<r.Intn(21)+1), 1<<20)
		at, ok, err := Ready(b, bytes)
		if err != api.OK || ok && (at < b.At || at > end) {
			t.Fatalf("Ready(%+v, %d) = %d, %t, %d", b, bytes, at, ok, err)
		}
		last := end // when it must still fail
		if ok {
			last = at - 1
			if _, taken, _ := Take(b, shot(at, bytes)); !taken {
				t.Fatalf("Ready(%+v, %d) = %d, but Take fails then", b, bytes, at)
			}
		} else {
			nevers++
		}
		if last >= b.At {
			waits++
			if _, taken, _ := Take(b, shot(last, bytes)); taken {
				t.Fatalf("Ready(%+v, %d) = %d, %t, but Take succeeds at %d", b, bytes, at, ok, last)
			}
		}
	}
	if nevers < 1000 || waits-nevers < 1000 {
		t.Errorf("only %d waits, and %d without end", waits, nevers)
	}
}

// In no interval are more tokens taken than the burst and what arrives in it.
func TestNeverMoreThanTheBurstAndTheRate(t *testing.T) {
	r := rand.New(rand.NewSource(13))
	for range 300 {
		num, den, burst := r.Intn(12), 1+r.Intn(12), r.Intn(30)
		shots := randomShots(r, 60, 1+r.Intn(15), 1+r.Intn(12))
		taken, _, err := Play(num, den, burst, shots)
		if err != api.OK {
			t.Fatalf("Play(%d, %d, %d, %v) gives error %d", num, den, burst, shots, err)
		}
		for first := range shots {
			bytes := 0
			for last := first; last < len(shots); last++ {
				if taken[last] {
					bytes += shots[last].Bytes
				}
				if time := shots[last].At - shots[first].At; bytes*den > burst*den+num*time {
					t.Fatalf("Play(%d, %d, %d, %v) takes %d bytes in %d units of time", num, den, burst, shots, bytes, time)
				}
			}
		}
	}
}

// The number of shots has no limit.
func TestManyShots(t *testing.T) {
	const n = 1_000_000
	shots := make([]api.Shot, n)
	for i := range shots {
		shots[i] = shot(i, 1)
	}
	taken, b, err := Play(1, 2, 1, shots)
	if err != api.OK || len(taken) != n || b != (api.Bucket{Num: 1, Den: 2, Burst: 1, Level: 1, At: n - 1}) {
		t.Fatalf("Play of %d shots gives %d answers, %+v, error %d", n, len(taken), b, err)
	}
	for i, taken := range taken {
		if taken != (i%2 == 0) {
			t.Fatalf("shot %d: taken = %t", i, taken)
		}
	}
}

// AA1 and AA2: no state is kept, arguments are left as they are with the spare
// capacity behind them, and results are new memory.

func TestCallsAreIndependent(t *testing.T) {
	shots := []api.Shot{shot(0, 8), shot(1, 3)}
	for range 3 {
		first, _, _ := Play(1, 2, 10, shots)
		checkPlay(t, halfRate, shots, []bool{true, false}, half(5, 1), api.OK)
		first[0], first[1] = false, true
		checkPlay(t, halfRate, shots, []bool{true, false}, half(5, 1), api.OK)
		checkTake(t, half(20, 0), shot(0, 8), half(4, 0), true, api.OK)
	}
}

func TestPlayLeavesTheShots(t *testing.T) {
	memory := []api.Shot{shot(0, 8), shot(1, 3), shot(2, 3), shot(-7, -7), shot(1, 1)}
	before := slices.Clone(memory)
	checkPlay(t, halfRate, memory[:3], []bool{true, false, true}, half(0, 2), api.OK)
	checkPlay(t, halfRate, memory[:4], nil, api.Bucket{}, api.ErrForm)
	if !slices.Equal(memory, before) {
		t.Errorf("the shots are %v after the calls, want %v", memory, before)
	}
}
