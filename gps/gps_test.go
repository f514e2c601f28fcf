package gps

import (
	"cmp"
	"math"
	"math/big"
	"math/rand"
	"slices"
	"testing"

	"weirhouse/api"
)

const most = 1 << 20

// outside lists numbers that are no bytes and no weight.
var outside = []int{-1, most + 1, -most, 1 << 32, 1 << 62, math.MaxInt, math.MinInt}

// wrongWeights lists numbers that are no weight, some of them bytes.
var wrongWeights = append([]int{0, 1001, most}, outside...)

func repeated(n, number int) []int { return slices.Repeat([]int{number}, n) }

func checkWrong(t *testing.T, bytes, weights []int, want api.Errno) {
	t.Helper()
	if got := Wrong(bytes, weights); got != want {
		t.Errorf("Wrong(%v, %v) = %d, want %d", bytes, weights, got, want)
	}
}

// checkList checks the result of one of the functions that return a list.
func checkList(t *testing.T, name string, f func(bytes, weights []int) ([]int, api.Errno), bytes, weights, want []int, err api.Errno) {
	t.Helper()
	got, gotErr := f(bytes, weights)
	if !slices.Equal(got, want) || gotErr != err {
		t.Errorf("%s(%v, %v) = %v, %d, want %v, %d", name, bytes, weights, got, gotErr, want, err)
	}
}

func checkEnd(t *testing.T, bytes, weights, want []int) {
	t.Helper()
	checkList(t, "End", End, bytes, weights, want, api.OK)
}

func checkOrder(t *testing.T, bytes, weights, want []int) {
	t.Helper()
	checkList(t, "Order", Order, bytes, weights, want, api.OK)
}

func checkWhole(t *testing.T, bytes, weights, want []int) {
	t.Helper()
	checkList(t, "Whole", Whole, bytes, weights, want, api.OK)
}

// checkAll checks all functions with valid flows.
func checkAll(t *testing.T, bytes, weights, end, order, whole []int) {
	t.Helper()
	checkWrong(t, bytes, weights, api.OK)
	checkEnd(t, bytes, weights, end)
	checkOrder(t, bytes, weights, order)
	checkWhole(t, bytes, weights, whole)
}

// checkError checks all functions with invalid flows.
func checkError(t *testing.T, bytes, weights []int, err api.Errno) {
	t.Helper()
	checkWrong(t, bytes, weights, err)
	checkList(t, "End", End, bytes, weights, nil, err)
	checkList(t, "Order", Order, bytes, weights, nil, err)
	checkList(t, "Whole", Whole, bytes, weights, nil, err)
}

// M1: Wrong, and the errors of the other functions, which are the same.

func TestWrongOfValidFlows(t *testing.T) {
	checkWrong(t, []int{6, 2}, []int{1, 2}, api.OK)
	checkWrong(t, nil, nil, api.OK)
	checkWrong(t, []int{}, nil, api.OK)
	checkWrong(t, nil, []int{}, api.OK)
	checkWrong(t, []int{0}, []int{1}, api.OK)
	checkWrong(t, []int{most}, []int{1000}, api.OK)
	checkWrong(t, []int{0, most}, []int{1000, 1}, api.OK)
	checkWrong(t, repeated(16, most), repeated(16, 1000), api.OK)
	checkWrong(t, repeated(16, 0), repeated(16, 1), api.OK)
}

func TestDifferentLengths(t *testing.T) {
	checkError(t, []int{1}, nil, api.ErrForm)
	checkError(t, []int{1}, []int{}, api.ErrForm)
	checkError(t, nil, []int{1}, api.ErrForm)
	checkError(t, []int{1, 2}, []int{1}, api.ErrForm)
	checkError(t, []int{1}, []int{1, 2}, api.ErrForm)
	checkError(t, repeated(16, 1), repeated(15, 1), api.ErrForm)
	checkError(t, repeated(15, 1), repeated(16, 1), api.ErrForm)
}

// Different lengths come before numbers that are out of bounds.
func TestDifferentLengthsComeFirst(t *testing.T) {
	checkError(t, repeated(17, 1), repeated(16, 1), api.ErrForm)
	checkError(t, repeated(16, 1), repeated(17, 1), api.ErrForm)
	for _, n := range outside {
		checkError(t, []int{n}, nil, api.ErrForm)
		checkError(t, []int{1, n}, []int{1}, api.ErrForm)
		checkError(t, []int{n, n}, []int{n}, api.ErrForm)
	}
	for _, n := range wrongWeights {
		checkError(t, nil, []int{n}, api.ErrForm)
		checkError(t, []int{1}, []int{n, 1}, api.ErrForm)
	}
}

func TestTooManyFlows(t *testing.T) {
	for _, n := range []int{17, 18, 32, 400} {
		checkError(t, repeated(n, 2), repeated(n, 1), api.ErrRange)
		checkError(t, repeated(n, 0), repeated(n, 1), api.ErrRange)
		checkError(t, repeated(n, -1), repeated(n, 0), api.ErrRange)
	}
}

func TestBytesOutOfBounds(t *testing.T) {
	for _, n := range outside {
		checkError(t, []int{n}, []int{1}, api.ErrRange)
		checkError(t, []int{n, n}, []int{1, 1}, api.ErrRange)
		for i := range 16 {
			bytes := repeated(16, 3)
			bytes[i] = n
			checkError(t, bytes, repeated(16, 2), api.ErrRange)
			checkError(t, bytes[:i+1], repeated(i+1, 2), api.ErrRange)
		}
	}
}

func TestWeightsOutOfBounds(t *testing.T) {
	for _, n := range wrongWeights {
		checkError(t, []int{1}, []int{n}, api.ErrRange)
		checkError(t, []int{0}, []int{n}, api.ErrRange)
		for i := range 16 {
			weights := repeated(16, 2)
			weights[i] = n
			checkError(t, repeated(16, 3), weights, api.ErrRange)
			checkError(t, repeated(i+1, 3), weights[:i+1], api.ErrRange)
		}
	}
}

// M1 and M2: End, Order and Whole.

func TestExample(t *testing.T) {
	bytes, weights := []int{6, 2}, []int{1, 2}
	ends, err := End(bytes, weights)
	if len(ends) != 2 || err != api.OK || ends[1] != 3*weights[1] {
		t.Errorf("End(%v, %v) = %v, %d, want time 3 for flow 1", bytes, weights, ends, err)
	}
}

func TestEndOrderAndWhole(t *testing.T) {
	for _, c := range []struct {
		name           string
		bytes, weights []int
		end            []int
		order          []int
		whole          []int
	}{
		{"the example", []int{6, 2}, []int{1, 2}, []int{8, 6}, []int{1, 0}, []int{8, 2}},
		{"the example turned", []int{2, 6}, []int{2, 1}, []int{6, 8}, []int{0, 1}, []int{2, 8}},
		{"one alone", []int{10}, []int{3}, []int{30}, []int{0}, []int{10}},
		{"one alone without bytes", []int{0}, []int{3}, []int{0}, []int{0}, []int{0}},
		{"one without bytes", []int{6, 2, 0}, []int{1, 2, 1}, []int{8, 6, 0}, []int{2, 1, 0}, []int{8, 2, 0}},
		{"none with bytes", []int{0, 0, 0}, []int{3, 1, 2}, []int{0, 0, 0}, []int{0, 1, 2}, []int{0, 0, 0}},
		{"equal flows", []int{5, 5, 5}, []int{1, 1, 1}, []int{15, 15, 15}, []int{0, 1, 2}, []int{5, 10, 15}},
		{"weights only", []int{5, 5, 5}, []int{1, 2, 5}, []int{15, 25, 40}, []int{2, 1, 0}, []int{15, 10, 5}},
		{"bytes only", []int{7, 1, 4}, []int{1, 1, 1}, []int{12, 3, 9}, []int{1, 2, 0}, []int{12, 1, 5}},
		{"all at the same time", []int{6, 2, 4}, []int{3, 1, 2}, []int{36, 12, 24}, []int{0, 1, 2}, []int{6, 8, 12}},
		{"two at the same time", []int{9, 4, 1, 2}, []int{3, 2, 1, 1}, []int{48, 26, 7, 13}, []int{2, 1, 3, 0}, []int{16, 5, 1, 7}},
		{"more bytes finish first", []int{5, 6}, []int{1, 10}, []int{11, 66}, []int{1, 0}, []int{11, 6}},
		{"less weight finishes first", []int{1, 99}, []int{1, 9}, []int{10, 900}, []int{0, 1}, []int{1, 100}},
		{"between two units of time", []int{1, 1}, []int{2, 3}, []int{4, 5}, []int{1, 0}, []int{2, 1}},
		{"weights at the bounds", []int{most, 1}, []int{1000, 1}, []int{1000 * (most + 1), 1001}, []int{1, 0}, []int{most + 1, 1}},
		{"nearly the same time", []int{1045954, 1047001}, []int{999, 1000}, []int{999 * 2092955, 1999 * 1047001}, []int{1, 0}, []int{2092955, 1047001}},
	} {
		t.Run(c.name, func(t *testing.T) {
			checkAll(t, c.bytes, c.weights, c.end, c.order, c.whole)
		})
	}
}

func TestWithoutFlows(t *testing.T) {
	for _, none := range [][]int{nil, {}} {
		checkAll(t, none, nil, nil, nil, nil)
		checkAll(t, none, []int{}, nil, nil, nil)
	}
}

func TestAsManyFlowsAsAllowed(t *testing.T) {
	bytes, weights := repeated(16, most), repeated(16, 1000)
	order, whole := make([]int, 16), make([]int, 16)
	for i := range 16 {
		order[i], whole[i] = i, (i+1)*most
	}
	checkAll(t, bytes, weights, repeated(16, 16*1000*most), order, whole)
	bytes[15] = 0
	end := append(repeated(15, 15*1000*most), 0)
	checkAll(t, bytes, weights, end, append([]int{15}, order[:15]...), append(whole[:15:15], 0))
}

func ratio(num, den int) *big.Rat { return big.NewRat(int64(num), int64(den)) }

// plain sends the bytes as the chapter says: from one moment at which a flow
// finishes to the next one, all unfinished flows receive their parts of the
// rate. It returns the finishing times, which are not multiplied by weights.
func plain(bytes, weights []int) []*big.Rat {
	ends := make([]*big.Rat, len(bytes))
	left := make([]*big.Rat, len(bytes))
	for i := range bytes {
		left[i] = ratio(bytes[i], 1)
	}
	for now := new(big.Rat); ; {
		all := 0
		for i, bytes := range left {
			if ends[i] == nil && bytes.Sign() == 0 {
				ends[i] = new(big.Rat).Set(now)
			}
			if ends[i] == nil {
				all += weights[i]
			}
		}
		if all == 0 {
			return ends
		}
		step := untilNext(left, weights, all)
		now.Add(now, step)
		for i := range left {
			if ends[i] == nil {
				part := new(big.Rat).Mul(step, ratio(weights[i], all))
				left[i].Sub(left[i], part)
			}
		}
	}
}

// untilNext returns the time until the next flow finishes. all is the sum of
// the weights of the unfinished flows.
func untilNext(left []*big.Rat, weights []int, all int) *big.Rat {
	var step *big.Rat
	for i, bytes := range left {
		if bytes.Sign() == 0 {
			continue
		}
		needed := new(big.Rat).Mul(bytes, ratio(all, weights[i]))
		if step == nil || needed.Cmp(step) < 0 {
			step = needed
		}
	}
	return step
}

// plainOrder takes the earliest flow out again and again.
func plainOrder(ends []*big.Rat) []int {
	taken := make([]bool, len(ends))
	var order []int
	for range ends {
		first := -1
		for i, end := range ends {
			if !taken[i] && (first < 0 || end.Cmp(ends[first]) < 0) {
				first = i
			}
		}
		taken[first] = true
		order = append(order, first)
	}
	return order
}

// plainWhole adds up, for each flow, its own bytes and those of the flows that
// are sent before it.
func plainWhole(bytes []int, times []*big.Rat) []int {
	whole := slices.Clone(bytes)
	for i := range bytes {
		for j := range bytes {
			if order := times[j].Cmp(times[i]); order < 0 || order == 0 && j < i {
				whole[i] += bytes[j]
			}
		}
	}
	return whole
}

// checkAgainstPlain returns whether several flows finish at the same time, and
// whether one finishes between two units of time.
func checkAgainstPlain(t *testing.T, bytes, weights []int) (same, between bool) {
	t.Helper()
	times := plain(bytes, weights)
	ends := make([]int, len(times))
	for i, time := range times {
		end := new(big.Rat).Mul(time, ratio(weights[i], 1))
		if !end.IsInt() {
			t.Fatalf("flow %d of %v, %v: the time %v times the weight is no integer", i, bytes, weights, time)
		}
		ends[i] = int(end.Num().Int64())
		between = between || !time.IsInt()
	}
	order := plainOrder(times)
	for i := 1; i < len(order); i++ {
		same = same || times[order[i-1]].Cmp(times[order[i]]) == 0
	}
	checkAll(t, bytes, weights, ends, order, plainWhole(bytes, times))
	return same, between
}

// All pairs of small flows, alone and with a third one: many of them finish at
// the same time.
func TestAgainstThePlainOneWithSmallNumbers(t *testing.T) {
	for i := range 6 * 6 * 4 * 4 {
		bytes, weights := []int{i % 6, i / 6 % 6}, []int{1 + i/36%4, 1 + i/144}
		checkAgainstPlain(t, bytes, weights)
		checkAgainstPlain(t, append(bytes, 2), append(weights, 2))
		if t.Failed() {
			return
		}
	}
}

func randomFlows(r *rand.Rand, n, amount, weight int) (bytes, weights []int) {
	bytes, weights = make([]int, n), make([]int, n)
	for i := range n {
		bytes[i], weights[i] = r.Intn(amount+1), 1+r.Intn(weight)
	}
	return bytes, weights
}

func TestAgainstThePlainOne(t *testing.T) {
	r := rand.New(rand.NewSource(41))
	same, different, between := 0, 0, 0
	for i := range 1500 {
		bytes, weights := randomFlows(r, 1+r.Intn(16), []int{9, 1000, most}[i%3], []int{3, 30, 1000}[i/3%3])
		together, broken := checkAgainstPlain(t, bytes, weights)
		if t.Failed() {
			return
		}
		if together {
			same++
		} else {
			different++
		}
		if broken {
			between++
		}
	}
	if min(same, different, between) < 200 {
		t.Errorf("flows finish at the same time %d times, never do %d times, and between two units %d times", same, different, between)
	}
}

func sum(numbers []int) int {
	all := 0
	for _, n := range numbers {
		all += n
	}
	return all
}

// Flows that are sent one after the other are close to processor sharing: none
// of them is later, and the last one is as late. The order of both is the same.
func TestWholeIsCloseToSharing(t *testing.T) {
	r := rand.New(rand.NewSource(42))
	for i := range 6000 {
		bytes, weights := randomFlows(r, 1+r.Intn(16), []int{9, 1000, most}[i%3], []int{3, 30, 1000}[i/3%3])
		ends, _ := End(bytes, weights)
		order, _ := Order(bytes, weights)
		whole, err := Whole(bytes, weights)
		if min(len(ends), len(order), len(whole)) < len(bytes) || err != api.OK {
			t.Fatalf("%v, %v: End %v, Order %v, Whole %v, %d", bytes, weights, ends, order, whole, err)
		}
		for j := range whole {
			if whole[j]*weights[j] > ends[j] {
				t.Fatalf("%v, %v: End %v, but Whole %v: flow %d is later", bytes, weights, ends, whole, j)
			}
		}
		last := order[len(order)-1]
		if whole[last] != sum(bytes) || ends[last] != sum(bytes)*weights[last] {
			t.Fatalf("%v, %v: End %v and Whole %v, but flow %d is the last one", bytes, weights, ends, whole, last)
		}
		if !slices.IsSortedFunc(order, func(a, b int) int { return cmp.Compare(whole[a], whole[b]) }) {
			t.Fatalf("%v, %v: Whole %v is not in the order %v", bytes, weights, whole, order)
		}
		ascending := slices.IsSortedFunc(order, func(a, b int) int {
			return cmp.Or(cmp.Compare(ends[a]*weights[b], ends[b]*weights[a]), cmp.Compare(a, b))
		})
		if !ascending {
			t.Fatalf("%v, %v: End %v is not in the order %v", bytes, weights, ends, order)
		}
	}
}

// AA1 and AA2: no state is kept, arguments are left as they are with the spare
// capacity behind them, and results are new memory.

func TestCallsAreIndependent(t *testing.T) {
	bytes, weights := []int{6, 2, 0}, []int{1, 2, 1}
	for range 3 {
		for _, f := range []func(bytes, weights []int) ([]int, api.Errno){End, Order, Whole} {
			result, _ := f(bytes, weights)
			for i := range result {
				result[i] = 99
			}
		}
		checkAll(t, bytes, weights, []int{8, 6, 0}, []int{2, 1, 0}, []int{8, 2, 0})
		checkError(t, bytes, weights[:2], api.ErrForm)
		checkError(t, bytes, bytes, api.ErrRange)
		checkAll(t, bytes[:2], weights[:2], []int{8, 6}, []int{1, 0}, []int{8, 2})
	}
}

func TestResultsAreNewMemory(t *testing.T) {
	bytes, weights := []int{6, 2, 0}, []int{1, 2, 1}
	ends, _ := End(bytes, weights)
	order, _ := Order(bytes, weights)
	whole, _ := Whole(bytes, weights)
	clear(bytes)
	clear(weights)
	if !slices.Equal(ends, []int{8, 6, 0}) || !slices.Equal(order, []int{2, 1, 0}) || !slices.Equal(whole, []int{8, 2, 0}) {
		t.Errorf("the results are %v, %v and %v after a change of the arguments", ends, order, whole)
	}
}

// Both arguments may be the same slice.
func TestBytesAsWeights(t *testing.T) {
	both := []int{3, 1, 2}
	checkAll(t, both, both, []int{18, 6, 12}, []int{0, 1, 2}, []int{3, 4, 6})
	if !slices.Equal(both, []int{3, 1, 2}) {
		t.Errorf("the argument is %v after the calls", both)
	}
}

func TestArgumentsAreLeft(t *testing.T) {
	bytes, weights := []int{6, 2, 0, -7, 5}, []int{1, 2, 1, 0, 5}
	bytesBefore, weightsBefore := slices.Clone(bytes), slices.Clone(weights)
	for range 2 {
		checkAll(t, bytes[:3], weights[:3], []int{8, 6, 0}, []int{2, 1, 0}, []int{8, 2, 0})
		checkError(t, bytes[:4], weights[:4], api.ErrRange)
		checkError(t, bytes[:3], weights[:2], api.ErrForm)
	}
	if !slices.Equal(bytes, bytesBefore) || !slices.Equal(weights, weightsBefore) {
		t.Errorf("the arguments are %v and %v after the calls, want %v and %v", bytes, weights, bytesBefore, weightsBefore)
	}
}
