package share

import (
	"math"
	"math/big"
	"math/rand"
	"slices"
	"testing"

	"weirhouse/api"
	"weirhouse/frac"
)

const most = 1 << 20

// outside lists numbers that are no amount and no weight.
var outside = []int{-1, most + 1, -most, 1 << 32, 1 << 62, math.MaxInt, math.MinInt}

// wrongWeights lists numbers that are no weight, some of them amounts.
var wrongWeights = append([]int{0, 1001, most}, outside...)

func f(num, den int) api.Frac { return api.Frac{Num: num, Den: den} }

func repeated(n, number int) []int { return slices.Repeat([]int{number}, n) }

func checkWrong(t *testing.T, all int, wants, weights []int, want api.Errno) {
	t.Helper()
	if got := Wrong(all, wants, weights); got != want {
		t.Errorf("Wrong(%d, %v, %v) = %d, want %d", all, wants, weights, got, want)
	}
}

func checkLevel(t *testing.T, all int, wants, weights []int, want api.Frac, err api.Errno) {
	t.Helper()
	got, gotErr := Level(all, wants, weights)
	if got != want || gotErr != err {
		t.Errorf("Level(%d, %v, %v) = %v, %d, want %v, %d", all, wants, weights, got, gotErr, want, err)
	}
}

func checkGets(t *testing.T, all int, wants, weights []int, want []api.Frac, err api.Errno) {
	t.Helper()
	got, gotErr := Gets(all, wants, weights)
	if !slices.Equal(got, want) || gotErr != err {
		t.Errorf("Gets(%d, %v, %v) = %v, %d, want %v, %d", all, wants, weights, got, gotErr, want, err)
	}
}

// checkError checks all functions.
func checkError(t *testing.T, all int, wants, weights []int, err api.Errno) {
	t.Helper()
	checkWrong(t, all, wants, weights, err)
	checkLevel(t, all, wants, weights, api.Frac{}, err)
	checkGets(t, all, wants, weights, nil, err)
}

// L1: Wrong, and the errors of Level and Gets, which are the same.

func TestWrongOfValidNumbers(t *testing.T) {
	checkWrong(t, 10, []int{2, 8, 9}, []int{1, 1, 3}, api.OK)
	checkWrong(t, 0, nil, nil, api.OK)
	checkWrong(t, 0, []int{}, nil, api.OK)
	checkWrong(t, 0, nil, []int{}, api.OK)
	checkWrong(t, most, []int{}, []int{}, api.OK)
	checkWrong(t, 0, []int{0}, []int{1}, api.OK)
	checkWrong(t, most, []int{most}, []int{1000}, api.OK)
	checkWrong(t, 0, []int{0, most}, []int{1, 1000}, api.OK)
	checkWrong(t, most, repeated(16, most), repeated(16, 1000), api.OK)
	checkWrong(t, 0, repeated(16, 0), repeated(16, 1), api.OK)
}

func TestDifferentLengths(t *testing.T) {
	checkError(t, 5, []int{1}, nil, api.ErrForm)
	checkError(t, 5, []int{1}, []int{}, api.ErrForm)
	checkError(t, 5, nil, []int{1}, api.ErrForm)
	checkError(t, 5, []int{1, 2}, []int{1}, api.ErrForm)
	checkError(t, 5, []int{1}, []int{1, 2}, api.ErrForm)
	checkError(t, 5, repeated(16, 1), repeated(15, 1), api.ErrForm)
	checkError(t, 5, repeated(15, 1), repeated(16, 1), api.ErrForm)
}

// Different lengths come before numbers that are out of bounds.
func TestDifferentLengthsComeFirst(t *testing.T) {
	checkError(t, 5, repeated(17, 1), repeated(16, 1), api.ErrForm)
	checkError(t, 5, repeated(16, 1), repeated(17, 1), api.ErrForm)
	for _, n := range outside {
		checkError(t, n, []int{1}, nil, api.ErrForm)
		checkError(t, n, nil, []int{1}, api.ErrForm)
		checkError(t, 5, []int{n}, nil, api.ErrForm)
		checkError(t, 5, []int{1, n}, []int{1}, api.ErrForm)
		checkError(t, n, []int{n, n}, []int{n}, api.ErrForm)
	}
	for _, n := range wrongWeights {
		checkError(t, 5, nil, []int{n}, api.ErrForm)
		checkError(t, 5, []int{1}, []int{n, 1}, api.ErrForm)
	}
}

func TestCapacityOutOfBounds(t *testing.T) {
	for _, n := range outside {
		checkError(t, n, nil, nil, api.ErrRange)
		checkError(t, n, []int{2, 8, 9}, []int{1, 1, 3}, api.ErrRange)
		checkError(t, n, []int{0}, []int{1}, api.ErrRange)
		checkError(t, n, repeated(16, most), repeated(16, 1000), api.ErrRange)
	}
}

func TestTooManyDemands(t *testing.T) {
	for _, n := range []int{17, 18, 32, 400} {
		checkError(t, 10, repeated(n, 2), repeated(n, 1), api.ErrRange)
		checkError(t, most, repeated(n, 0), repeated(n, 1), api.ErrRange)
		checkError(t, 10, repeated(n, -1), repeated(n, 0), api.ErrRange)
	}
}

func TestDemandsOutOfBounds(t *testing.T) {
	for _, n := range outside {
		checkError(t, 10, []int{n}, []int{1}, api.ErrRange)
		checkError(t, most, []int{n}, []int{1}, api.ErrRange)
		checkError(t, 10, []int{n, n}, []int{1, 1}, api.ErrRange)
		for i := range 16 {
			wants := repeated(16, 3)
			wants[i] = n
			checkError(t, 10, wants, repeated(16, 2), api.ErrRange)
			checkError(t, most, wants[:i+1], repeated(i+1, 2), api.ErrRange)
		}
	}
}

func TestWeightsOutOfBounds(t *testing.T) {
	for _, n := range wrongWeights {
		checkError(t, 10, []int{1}, []int{n}, api.ErrRange)
		checkError(t, 10, []int{99}, []int{n}, api.ErrRange)
		checkError(t, 10, []int{0}, []int{n}, api.ErrRange)
		for i := range 16 {
			weights := repeated(16, 2)
			weights[i] = n
			checkError(t, 10, repeated(16, 3), weights, api.ErrRange)
			checkError(t, most, repeated(i+1, 3), weights[:i+1], api.ErrRange)
		}
	}
}

// L2: Level and Gets.

func TestExample(t *testing.T) {
	shares, err := Gets(10, []int{2, 8, 9}, []int{1, 1, 3})
	if len(shares) != 3 || err != api.OK {
		t.Fatalf("Gets = %v, %d", shares, err)
	}
	for i, want := range []int{2, 2, 6} {
		if got, err := frac.Low(shares[i]); got != f(want, 1) || err != api.OK {
			t.Errorf("share %d is %v, want %d", i, shares[i], want)
		}
	}
}

// cases lists a capacity, demands and weights with the level and the shares.
var cases = []struct {
	name          string
	all           int
	wants, weight []int
	level         api.Frac
	shares        []api.Frac
}{
	{"one is met", 10, []int{2, 8, 9}, []int{1, 1, 3}, f(8, 4), []api.Frac{f(2, 1), f(8, 4), f(24, 4)}},
	{"two are met", 18, []int{2, 8, 9}, []int{1, 1, 3}, f(7, 1), []api.Frac{f(2, 1), f(7, 1), f(9, 1)}},
	{"none is met", 4, []int{2, 8, 9}, []int{1, 1, 3}, f(4, 5), []api.Frac{f(4, 5), f(4, 5), f(12, 5)}},
	{"all are met, 1 is missing", 18, []int{9, 10}, []int{1, 1}, f(9, 1), []api.Frac{f(9, 1), f(9, 1)}},
	{"all are met exactly", 19, []int{2, 8, 9}, []int{1, 1, 3}, f(0, 0), []api.Frac{f(2, 1), f(8, 1), f(9, 1)}},
	{"all are met with a rest", 20, []int{2, 8, 9}, []int{1, 1, 3}, f(0, 0), []api.Frac{f(2, 1), f(8, 1), f(9, 1)}},
	{"nothing for demands", 0, []int{2, 8, 9}, []int{1, 1, 3}, f(0, 5), []api.Frac{f(0, 5), f(0, 5), f(0, 5)}},
	{"nothing, one wants nothing", 0, []int{0, 5}, []int{7, 7}, f(0, 7), []api.Frac{f(0, 1), f(0, 7)}},
	{"nothing for nobody's demands", 0, []int{0, 0}, []int{7, 7}, f(0, 0), []api.Frac{f(0, 1), f(0, 1)}},
	{"something for nobody's demands", 9, []int{0, 0}, []int{7, 7}, f(0, 0), []api.Frac{f(0, 1), f(0, 1)}},
	{"one wants nothing", 5, []int{4, 0, 4}, []int{1, 900, 2}, f(5, 3), []api.Frac{f(5, 3), f(0, 1), f(10, 3)}},
	{"one is met exactly", 6, []int{4, 0, 4}, []int{1, 900, 2}, f(2, 1), []api.Frac{f(2, 1), f(0, 1), f(4, 1)}},
	{"several are met exactly", 30, []int{2, 4, 50, 6, 8}, []int{1, 2, 5, 3, 4}, f(10, 5), []api.Frac{f(2, 1), f(4, 1), f(50, 5), f(6, 1), f(8, 1)}},
	{"one alone is short", 5, []int{9}, []int{3}, f(5, 3), []api.Frac{f(15, 3)}},
	{"one alone is met", 9, []int{9}, []int{3}, f(0, 0), []api.Frac{f(9, 1)}},
	{"equal demands", 6, []int{3, 3, 3}, []int{1, 1, 1}, f(6, 3), []api.Frac{f(6, 3), f(6, 3), f(6, 3)}},
	{"weights only", 12, []int{9, 9, 9}, []int{1, 2, 3}, f(12, 6), []api.Frac{f(12, 6), f(24, 6), f(36, 6)}},
	{"not in lowest terms", 12, []int{50, 60}, []int{2, 4}, f(12, 6), []api.Frac{f(24, 6), f(48, 6)}},
	{"the greater demand is met", 10, []int{6, 5}, []int{10, 1}, f(4, 1), []api.Frac{f(6, 1), f(4, 1)}},
	{"the smaller weight is met", 10, []int{1, 99}, []int{1, 9}, f(9, 9), []api.Frac{f(1, 1), f(81, 9)}},
	{"out of order", 11, []int{9, 1, 5, 2, 9}, []int{1, 1, 1, 1, 2}, f(8, 4), []api.Frac{f(8, 4), f(1, 1), f(8, 4), f(2, 1), f(16, 4)}},
	{"the greatest numbers", most, []int{most, most}, []int{1000, 1}, f(most, 1001), []api.Frac{f(1000*most, 1001), f(most, 1001)}},
	{"the greatest weight alone", most - 1, []int{most}, []int{1000}, f(most-1, 1000), []api.Frac{f(1000*(most-1), 1000)}},
	{"the greatest demand", most, []int{most}, []int{1000}, f(0, 0), []api.Frac{f(most, 1)}},
}

func TestLevelAndGets(t *testing.T) {
	for _, c := range cases {
		t.Run(c.name, func(t *testing.T) {
			checkWrong(t, c.all, c.wants, c.weight, api.OK)
			checkLevel(t, c.all, c.wants, c.weight, c.level, api.OK)
			checkGets(t, c.all, c.wants, c.weight, c.shares, api.OK)
		})
	}
}

func TestWithoutDemands(t *testing.T) {
	for _, all := range []int{0, 1, most} {
		for _, none := range [][]int{nil, {}} {
			checkLevel(t, all, none, nil, api.Frac{}, api.OK)
			checkLevel(t, all, none, []int{}, api.Frac{}, api.OK)
			checkGets(t, all, none, nil, nil, api.OK)
			checkGets(t, all, none, []int{}, nil, api.OK)
		}
	}
}

func TestAsManyDemandsAsAllowed(t *testing.T) {
	wants, weights := repeated(16, most), repeated(16, 1000)
	checkLevel(t, most, wants, weights, f(most, 16000), api.OK)
	checkGets(t, most, wants, weights, slices.Repeat([]api.Frac{f(1000*most, 16000)}, 16), api.OK)
	wants[15] = 0
	checkLevel(t, most, wants, weights, f(most, 15000), api.OK)
	checkGets(t, most, wants, weights, append(slices.Repeat([]api.Frac{f(1000*most, 15000)}, 15), f(0, 1)), api.OK)
	fits := repeated(16, most/16)
	checkLevel(t, most, fits, weights, f(0, 0), api.OK)
	checkLevel(t, most-1, fits, weights, f(most-1, 16000), api.OK)
	fits[7]++
	checkLevel(t, most, fits, weights, f(most/16, 1000), api.OK)
}

// Nobody is short from the sum of the demands on, and somebody is just below it.
func TestCapacityAroundTheSum(t *testing.T) {
	wants, weights := []int{7, 0, 3, 20, 1}, []int{2, 5, 1, 1, 1000}
	checkLevel(t, 30, wants, weights, f(19, 1), api.OK)
	for _, all := range []int{31, 32, 60, most} {
		checkLevel(t, all, wants, weights, f(0, 0), api.OK)
		checkGets(t, all, wants, weights, []api.Frac{f(7, 1), f(0, 1), f(3, 1), f(20, 1), f(1, 1)}, api.OK)
	}
}

func sum(numbers []int) int {
	all := 0
	for _, n := range numbers {
		all += n
	}
	return all
}

// plain tries all sets of demands as those that are short. The level is the
// one of the set of which exactly the members are short at that level.
func plain(all int, wants, weights []int) (api.Frac, []api.Frac, int) {
	if sum(wants) <= all {
		return api.Frac{}, plainShares(wants, weights, api.Frac{}, 0), 0
	}
	for set := 1; set < 1<<len(wants); set++ {
		level := f(all, 0)
		for i, want := range wants {
			if set>>i&1 == 1 {
				level.Den += weights[i]
			} else {
				level.Num -= want
			}
		}
		if isShortSet(set, wants, weights, level) {
			return level, plainShares(wants, weights, level, set), set
		}
	}
	return f(-1, -1), nil, 0
}

func isShortSet(set int, wants, weights []int, level api.Frac) bool {
	for i, want := range wants {
		served := new(big.Rat).Mul(big.NewRat(int64(weights[i]), 1), exact(level))
		if (served.Cmp(exact(f(want, 1))) < 0) != (set>>i&1 == 1) {
			return false
		}
	}
	return true
}

func plainShares(wants, weights []int, level api.Frac, set int) []api.Frac {
	var shares []api.Frac
	for i, want := range wants {
		if set>>i&1 == 1 {
			shares = append(shares, f(weights[i]*level.Num, level.Den))
		} else {
			shares = append(shares, f(want, 1))
		}
	}
	return shares
}

func exact(a api.Frac) *big.Rat { return big.NewRat(int64(a.Num), int64(a.Den)) }

func checkAgainstPlain(t *testing.T, all int, wants, weights []int) int {
	t.Helper()
	level, shares, set := plain(all, wants, weights)
	checkLevel(t, all, wants, weights, level, api.OK)
	checkGets(t, all, wants, weights, shares, api.OK)
	return set
}

// All pairs of small numbers, alone and with a third one: many demands are met
// exactly.
func TestAgainstThePlainOneWithSmallNumbers(t *testing.T) {
	for i := range 6 * 6 * 4 * 4 * 13 {
		wants, weights := []int{i % 6, i / 6 % 6}, []int{1 + i/36%4, 1 + i/144%4}
		checkAgainstPlain(t, i/576, wants, weights)
		checkAgainstPlain(t, i/576, append(wants, 2), append(weights, 2))
		if t.Failed() {
			return
		}
	}
}

// problem returns n demands and weights, and a capacity that often is too small.
func problem(r *rand.Rand, n, amount, weight int) (int, []int, []int) {
	wants, weights := make([]int, n), make([]int, n)
	for i := range n {
		wants[i], weights[i] = r.Intn(amount+1), 1+r.Intn(weight)
	}
	return r.Intn(min(most, sum(wants)*5/4) + 1), wants, weights
}

func TestAgainstThePlainOne(t *testing.T) {
	r := rand.New(rand.NewSource(31))
	none, some, every := 0, 0, 0
	for i := range 6000 {
		n := 1 + r.Intn(6)
		all, wants, weights := problem(r, n, []int{9, 100, most}[i%3], []int{3, 30, 1000}[i/3%3])
		switch set := checkAgainstPlain(t, all, wants, weights); set {
		case 0:
			none++
		case 1<<n - 1:
			every++
		default:
			some++
		}
		if t.Failed() {
			return
		}
	}
	if min(none, some, every) < 500 {
		t.Errorf("none is short %d times, some are %d times, every one is %d times", none, some, every)
	}
}

// Shares are what the whole program promises of them: nobody gets more than it
// wants, all of the capacity is used as far as it is wanted, and whoever is
// short gets no less for its weight than any other one.
func TestSharesAreOptimal(t *testing.T) {
	r := rand.New(rand.NewSource(32))
	for i := range 3000 {
		all, wants, weights := problem(r, 1+r.Intn(16), []int{9, 100, most}[i%3], []int{3, 30, 1000}[i/3%3])
		shares, err := Gets(all, wants, weights)
		if len(shares) != len(wants) || err != api.OK {
			t.Fatalf("Gets(%d, %v, %v) = %v, %d", all, wants, weights, shares, err)
		}
		used := new(big.Rat)
		for j, share := range shares {
			used.Add(used, exact(share))
			if !frac.Right(share) || share.Num < 0 || share.Num > wants[j]*share.Den {
				t.Fatalf("Gets(%d, %v, %v) = %v: share %d is wrong", all, wants, weights, shares, j)
			}
		}
		if used.Cmp(exact(f(min(all, sum(wants)), 1))) != 0 {
			t.Fatalf("Gets(%d, %v, %v) = %v: %v is used", all, wants, weights, shares, used)
		}
		if i, j, ok := envy(wants, weights, shares); ok {
			t.Fatalf("Gets(%d, %v, %v) = %v: %d gets too little, %d too much", all, wants, weights, shares, i, j)
		}
	}
}

// envy finds one that gets less than it wants, and less for its weight than
// another one.
func envy(wants, weights []int, shares []api.Frac) (int, int, bool) {
	for i, mine := range shares {
		for j, yours := range shares {
			if mine.Num < wants[i]*mine.Den && mine.Num*yours.Den*weights[j] < yours.Num*mine.Den*weights[i] {
				return i, j, true
			}
		}
	}
	return 0, 0, false
}

// Who is named first makes no difference.
func TestSharesDoNotDependOnTheOrder(t *testing.T) {
	r := rand.New(rand.NewSource(33))
	for range 2000 {
		all, wants, weights := problem(r, 1+r.Intn(16), 12, 4)
		level, _ := Level(all, wants, weights)
		shares, _ := Gets(all, wants, weights)
		r.Shuffle(len(wants), func(i, j int) {
			wants[i], wants[j] = wants[j], wants[i]
			weights[i], weights[j] = weights[j], weights[i]
			shares[i], shares[j] = shares[j], shares[i]
		})
		checkLevel(t, all, wants, weights, level, api.OK)
		checkGets(t, all, wants, weights, shares, api.OK)
		if t.Failed() {
			return
		}
	}
}

// AA1 and AA2: no state is kept, arguments are left as they are with the spare
// capacity behind them, and results are new memory.

func TestCallsAreIndependent(t *testing.T) {
	wants, weights := []int{2, 8, 9}, []int{1, 1, 3}
	for range 3 {
		shares, err := Gets(10, wants, weights)
		if !slices.Equal(shares, []api.Frac{f(2, 1), f(8, 4), f(24, 4)}) || err != api.OK {
			t.Fatalf("Gets = %v, %d", shares, err)
		}
		for i := range shares {
			shares[i] = f(99, 98)
		}
		checkLevel(t, 4, wants, weights, f(4, 5), api.OK)
		checkLevel(t, -1, wants, weights, f(0, 0), api.ErrRange)
		checkGets(t, 20, wants, weights, []api.Frac{f(2, 1), f(8, 1), f(9, 1)}, api.OK)
	}
}

func TestSharesAreNewMemory(t *testing.T) {
	wants, weights := []int{2, 8, 9}, []int{1, 1, 3}
	shares, _ := Gets(10, wants, weights)
	clear(wants)
	clear(weights)
	if !slices.Equal(shares, []api.Frac{f(2, 1), f(8, 4), f(24, 4)}) {
		t.Errorf("the result is %v after a change of the arguments", shares)
	}
}

func TestArgumentsAreLeft(t *testing.T) {
	wants, weights := []int{9, 2, 8, -7, 5}, []int{3, 1, 1, 0, 5}
	wantsBefore, weightsBefore := slices.Clone(wants), slices.Clone(weights)
	for range 2 {
		checkLevel(t, 10, wants[:3], weights[:3], f(8, 4), api.OK)
		checkGets(t, 10, wants[:3], weights[:3], []api.Frac{f(24, 4), f(2, 1), f(8, 4)}, api.OK)
		checkError(t, 10, wants[:4], weights[:4], api.ErrRange)
		checkError(t, 10, wants[:3], weights[:2], api.ErrForm)
	}
	if !slices.Equal(wants, wantsBefore) || !slices.Equal(weights, weightsBefore) {
		t.Errorf("the arguments are %v and %v after the calls, want %v and %v", wants, weights, wantsBefore, weightsBefore)
	}
}
