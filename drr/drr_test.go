package drr

import (
	"cmp"
	"math"
	"math/rand"
	"slices"
	"testing"

	"weirhouse/api"
)

// outside lists numbers that are no quantum, no packet, no credit and no number
// of rounds.
var outside = []int{-1, -500, 10001, 1 << 32, 1<<32 + 5, 1 << 62, math.MaxInt, math.MinInt}

var wrongQuanta = append([]int{0}, outside...)

var wrongSizes = append([]int{0, 1501, 10000}, outside...)

var wrongCredits = append([]int{1500, 1501, 10000}, outside...)

var wrongRounds = append([]int{401}, outside...)

// result is all that Round and Rounds return.
type result struct {
	sent    []api.Sent
	left    [][]int
	credits []int
	err     api.Errno
}

func same(a, b result) bool {
	return slices.Equal(a.sent, b.sent) &&
		slices.EqualFunc(a.left, b.left, slices.Equal) &&
		slices.Equal(a.credits, b.credits) &&
		a.err == b.err
}

func round(turns []int, flows [][]int, may []int) result {
	sent, left, credits, err := Round(turns, flows, may)
	return result{sent, left, credits, err}
}

func rounds(turns []int, flows [][]int, n int) result {
	sent, left, credits, err := Rounds(turns, flows, n)
	return result{sent, left, credits, err}
}

// packets returns the packets of one flow as they are sent.
func packets(flow int, sizes ...int) []api.Sent {
	var sent []api.Sent
	for _, size := range sizes {
		sent = append(sent, api.Sent{Flow: flow, Bytes: size})
	}
	return sent
}

func repeated(n, number int) []int { return slices.Repeat([]int{number}, n) }

// many returns n flows with the packets of flow, each in memory of its own.
func many(n int, flow ...int) [][]int {
	flows := make([][]int, n)
	for i := range flows {
		flows[i] = slices.Clone(flow)
	}
	return flows
}

func checkWrong(t *testing.T, turns []int, flows [][]int, want api.Errno) {
	t.Helper()
	if got := Wrong(turns, flows); got != want {
		t.Errorf("Wrong(%v, %v) = %d, want %d", turns, flows, got, want)
	}
}

func checkRound(t *testing.T, turns []int, flows [][]int, may []int, want result) {
	t.Helper()
	if got := round(turns, flows, may); !same(got, want) {
		t.Errorf("Round(%v, %v, %v) = %v, want %v", turns, flows, may, got, want)
	}
}

func checkRounds(t *testing.T, turns []int, flows [][]int, n int, want result) {
	t.Helper()
	if got := rounds(turns, flows, n); !same(got, want) {
		t.Errorf("Rounds(%v, %v, %d) = %v, want %v", turns, flows, n, got, want)
	}
}

// checkError checks all functions with invalid quanta or flows. Their error
// comes before those of the third argument.
func checkError(t *testing.T, turns []int, flows [][]int, err api.Errno) {
	t.Helper()
	checkWrong(t, turns, flows, err)
	for _, may := range [][]int{nil, make([]int, len(flows)), make([]int, len(turns)), repeated(len(flows)+1, -1), repeated(len(flows), 1500)} {
		checkRound(t, turns, flows, may, result{err: err})
	}
	for _, n := range []int{0, 3, 400, -1, 401} {
		checkRounds(t, turns, flows, n, result{err: err})
	}
}

// N1: Wrong, and the errors of the other functions that come from it.

func TestWrongOfValidFlows(t *testing.T) {
	checkWrong(t, []int{500, 600}, [][]int{{300, 300}, {700}}, api.OK)
	checkWrong(t, nil, nil, api.OK)
	checkWrong(t, []int{}, nil, api.OK)
	checkWrong(t, nil, [][]int{}, api.OK)
	checkWrong(t, []int{1}, [][]int{nil}, api.OK)
	checkWrong(t, []int{10000}, [][]int{{}}, api.OK)
	checkWrong(t, []int{1, 10000}, [][]int{{1, 1500}, {1500, 1}}, api.OK)
	checkWrong(t, repeated(16, 1), many(16), api.OK)
	checkWrong(t, repeated(16, 10000), many(16, repeated(400, 1500)...), api.OK)
	checkWrong(t, repeated(16, 1), many(16, repeated(400, 1)...), api.OK)
}

func TestDifferentLengths(t *testing.T) {
	checkError(t, []int{100}, nil, api.ErrForm)
	checkError(t, []int{100}, [][]int{}, api.ErrForm)
	checkError(t, nil, [][]int{nil}, api.ErrForm)
	checkError(t, []int{1, 2}, many(1, 3), api.ErrForm)
	checkError(t, []int{1}, many(2, 3), api.ErrForm)
	checkError(t, repeated(16, 1), many(15, 1), api.ErrForm)
	checkError(t, repeated(15, 1), many(16, 1), api.ErrForm)
}

// Different lengths come before numbers that are out of bounds.
func TestDifferentLengthsComeFirst(t *testing.T) {
	checkError(t, repeated(17, 1), many(16, 1), api.ErrForm)
	checkError(t, repeated(16, 1), many(17, 1), api.ErrForm)
	checkError(t, repeated(18, 1), many(17, 1), api.ErrForm)
	checkError(t, []int{1, 1}, many(1, repeated(401, 1)...), api.ErrForm)
	for _, n := range wrongQuanta {
		checkError(t, []int{n}, nil, api.ErrForm)
		checkError(t, []int{1, n}, many(1, 1), api.ErrForm)
	}
	for _, n := range wrongSizes {
		checkError(t, nil, many(1, n), api.ErrForm)
		checkError(t, []int{1}, [][]int{{n}, {1}}, api.ErrForm)
	}
}

func TestTooManyFlows(t *testing.T) {
	for _, n := range []int{17, 18, 32, 400} {
		checkError(t, repeated(n, 5), many(n), api.ErrRange)
		checkError(t, repeated(n, 5), many(n, 7, 8), api.ErrRange)
		checkError(t, repeated(n, 0), many(n, 0), api.ErrRange)
	}
}

func TestQuantaOutOfBounds(t *testing.T) {
	for _, n := range wrongQuanta {
		checkError(t, []int{n}, many(1), api.ErrRange)
		checkError(t, []int{n}, many(1, 1), api.ErrRange)
		for i := range 16 {
			turns := repeated(16, 3)
			turns[i] = n
			checkError(t, turns, many(16, 2), api.ErrRange)
			checkError(t, turns[:i+1], many(i+1, 2), api.ErrRange)
		}
	}
}

func TestTooManyPackets(t *testing.T) {
	for _, n := range []int{401, 402, 1000} {
		checkError(t, []int{5}, many(1, repeated(n, 1)...), api.ErrRange)
		for i := range 16 {
			flows := many(16, 1, 2)
			flows[i] = repeated(n, 1500)
			checkError(t, repeated(16, 5), flows, api.ErrRange)
			checkError(t, repeated(i+1, 5), flows[:i+1], api.ErrRange)
		}
	}
}

func TestPacketsOutOfBounds(t *testing.T) {
	for _, n := range wrongSizes {
		checkError(t, []int{5}, many(1, n), api.ErrRange)
		checkError(t, []int{5}, many(1, n, 1), api.ErrRange)
		for _, last := range []int{0, 1, 7, 399} {
			flow := append(repeated(last, 1), n)
			checkError(t, []int{5}, [][]int{flow}, api.ErrRange)
			checkError(t, []int{5, 5, 5}, [][]int{{1}, nil, flow}, api.ErrRange)
			checkError(t, []int{5, 5, 5}, [][]int{flow, {1}, {1}}, api.ErrRange)
		}
	}
}

// N1: Round.

func TestExample(t *testing.T) {
	checkRound(t, []int{500}, [][]int{{300, 201}}, []int{0}, result{packets(0, 300), [][]int{{201}}, []int{200}, api.OK})
	checkRound(t, []int{500}, [][]int{{300}}, []int{0}, result{packets(0, 300), [][]int{nil}, []int{0}, api.OK})
}

func TestRoundOfOneFlow(t *testing.T) {
	for _, c := range []struct {
		name          string
		quantum, may  int
		flow          []int
		sent, credits int
	}{
		{"no packets", 500, 0, nil, 0, 0},
		{"no packets, but a credit", 500, 1499, nil, 0, 0},
		{"a packet of all of the credit", 500, 0, []int{500, 1}, 1, 0},
		{"a packet of a byte more", 500, 0, []int{501}, 0, 500},
		{"a packet of all of both credits", 500, 20, []int{520, 1}, 1, 0},
		{"a packet of a byte more than both", 500, 20, []int{521, 1}, 0, 520},
		{"the last packet, of less", 500, 20, []int{519}, 1, 0},
		{"several packets", 500, 0, []int{100, 200, 150, 60, 1}, 3, 50},
		{"several packets, the last one of all that is left", 500, 0, []int{100, 200, 150, 50, 1}, 4, 0},
		{"all packets", 500, 0, []int{100, 200, 150}, 3, 0},
		{"a small packet behind a large one waits", 500, 0, []int{501, 1, 1}, 0, 500},
		{"the same, behind one that is sent", 500, 0, []int{300, 201, 1, 1}, 1, 200},
		{"the largest credit and the least quantum", 1, 1499, []int{1500, 1}, 1, 0},
		{"a byte less", 1, 1498, []int{1500, 1}, 0, 1499},
		{"the least quantum", 1, 0, []int{1, 1, 1}, 1, 0},
		{"the largest quantum", 10000, 0, repeated(7, 1500), 6, 1000},
		{"the largest quantum and credit", 10000, 1499, repeated(400, 1500), 7, 999},
		{"the most packets of one byte", 10000, 0, repeated(400, 1), 400, 0},
		{"more packets of one byte than the credit", 100, 20, repeated(400, 1), 120, 0},
	} {
		t.Run(c.name, func(t *testing.T) {
			want := result{packets(0, c.flow[:c.sent]...), [][]int{c.flow[c.sent:]}, []int{c.credits}, api.OK}
			checkRound(t, []int{c.quantum}, [][]int{c.flow}, []int{c.may}, want)
		})
	}
}

func TestRoundServesEveryFlowInOrder(t *testing.T) {
	turns := []int{300, 100, 50, 700, 5}
	flows := [][]int{{100, 100, 150}, {200, 1}, nil, {700}, {1, 2, 3}}
	may := []int{0, 99, 7, 30, 0}
	sent := slices.Concat(packets(0, 100, 100), packets(3, 700), packets(4, 1, 2))
	checkRound(t, turns, flows, may, result{sent, [][]int{{150}, {200, 1}, nil, nil, {3}}, []int{100, 199, 0, 0, 2}, api.OK})
	may[1] = 100
	sent = slices.Insert(sent, 2, packets(1, 200)...)
	checkRound(t, turns, flows, may, result{sent, [][]int{{150}, {1}, nil, nil, {3}}, []int{100, 0, 0, 0, 2}, api.OK})
}

func TestRoundWithoutFlows(t *testing.T) {
	for _, none := range [][]int{nil, {}} {
		for _, flows := range [][][]int{nil, {}} {
			checkRound(t, none, flows, nil, result{})
			checkRound(t, nil, flows, none, result{})
			checkRounds(t, none, flows, 0, result{})
			checkRounds(t, none, flows, 400, result{})
		}
	}
}

// Different lengths come before credits that are out of bounds.
func TestCreditsOfAnotherLength(t *testing.T) {
	turns, flows := []int{500, 600}, [][]int{{300, 300}, {700}}
	for _, may := range [][]int{nil, {}, {0}, {0, 0, 0}, {-1}, {1500}, {0, 0, -1}, {1500, -1, 0}} {
		checkRound(t, turns, flows, may, result{err: api.ErrForm})
	}
	checkRound(t, nil, nil, []int{0}, result{err: api.ErrForm})
	checkRound(t, nil, nil, []int{-1}, result{err: api.ErrForm})
	checkRound(t, repeated(16, 1), many(16, 1), repeated(15, 0), result{err: api.ErrForm})
	checkRound(t, repeated(16, 1), many(16, 1), repeated(17, 0), result{err: api.ErrForm})
}

func TestCreditsOutOfBounds(t *testing.T) {
	for _, n := range wrongCredits {
		checkRound(t, []int{5}, many(1, 3), []int{n}, result{err: api.ErrRange})
		checkRound(t, []int{5}, many(1), []int{n}, result{err: api.ErrRange})
		for i := range 16 {
			may := repeated(16, 1499)
			may[i] = n
			checkRound(t, repeated(16, 5), many(16, 3, 4), may, result{err: api.ErrRange})
		}
	}
	for _, n := range []int{0, 1499} {
		if _, _, _, err := Round([]int{5}, many(1, 3), []int{n}); err != api.OK {
			t.Errorf("Round with the credit %d gives error %d", n, err)
		}
	}
}

// N2: Rounds.

func TestRoundsOfTwoFlows(t *testing.T) {
	turns, flows := []int{200, 150}, [][]int{{500, 100, 300}, {100, 300}}
	first, second := packets(1, 100), packets(0, 500)
	for n, want := range []result{
		{nil, flows, []int{0, 0}, api.OK},
		{first, [][]int{{500, 100, 300}, {300}}, []int{200, 50}, api.OK},
		{first, [][]int{{500, 100, 300}, {300}}, []int{400, 200}, api.OK},
		{slices.Concat(first, second, packets(0, 100), packets(1, 300)), [][]int{{300}, nil}, []int{0, 0}, api.OK},
		{slices.Concat(first, second, packets(0, 100), packets(1, 300)), [][]int{{300}, nil}, []int{200, 0}, api.OK},
		{slices.Concat(first, second, packets(0, 100), packets(1, 300), packets(0, 300)), [][]int{nil, nil}, []int{0, 0}, api.OK},
		{slices.Concat(first, second, packets(0, 100), packets(1, 300), packets(0, 300)), [][]int{nil, nil}, []int{0, 0}, api.OK},
	} {
		checkRounds(t, turns, flows, n, want)
	}
}

func TestWithoutRounds(t *testing.T) {
	checkRounds(t, []int{500}, [][]int{{300, 300}}, 0, result{nil, [][]int{{300, 300}}, []int{0}, api.OK})
	checkRounds(t, []int{10000, 1}, [][]int{nil, {1}}, 0, result{nil, [][]int{nil, {1}}, []int{0, 0}, api.OK})
}

// Flow 3 sends its 600000 bytes in the first 60 rounds, flow 0 a packet in round
// 200, flow 2 one in round 375, and flows 1 and 2 one each in round 400.
func TestAsManyRoundsAsAllowed(t *testing.T) {
	turns := []int{1, 3, 4, 10000}
	flows := [][]int{{200, 201}, {1200}, {1500, 100, 1}, repeated(400, 1500)}
	sent := slices.Concat(packets(3, flows[3]...), packets(0, 200), packets(2, 1500), packets(1, 1200), packets(2, 100))
	checkRounds(t, turns, flows, 400, result{sent, [][]int{{201}, nil, {1}, nil}, []int{200, 0, 0, 0}, api.OK})
	sent = sent[:402]
	checkRounds(t, turns, flows, 399, result{sent, [][]int{{201}, {1200}, {100, 1}, nil}, []int{199, 1197, 96, 0}, api.OK})
}

func TestRoundsOutOfBounds(t *testing.T) {
	for _, n := range wrongRounds {
		checkRounds(t, []int{500, 600}, [][]int{{300, 300}, {700}}, n, result{err: api.ErrRange})
		checkRounds(t, nil, nil, n, result{err: api.ErrRange})
	}
}

// Many packets and rounds.

// plain computes the round in which each packet is sent without serving the
// flows: the first one by which the flow has received as many bytes as all of
// its packets up to that one have. Credits are lost only where no packet is left.
func plain(turns []int, flows [][]int, may []int, rounds int) result {
	type timed struct {
		round  int
		packet api.Sent
	}
	var all []timed
	want := result{left: make([][]int, len(flows)), credits: make([]int, len(flows))}
	for i, flow := range flows {
		needed, credit := -may[i], may[i]+rounds*turns[i]
		for _, size := range flow {
			needed += size
			round := max(1, (needed+turns[i]-1)/turns[i])
			if round > rounds {
				want.left[i] = append(want.left[i], size)
				want.credits[i] = credit
			} else {
				all = append(all, timed{round, api.Sent{Flow: i, Bytes: size}})
				credit -= size
			}
		}
	}
	slices.SortStableFunc(all, func(a, b timed) int { return cmp.Compare(a.round, b.round) })
	for _, one := range all {
		want.sent = append(want.sent, one.packet)
	}
	return want
}

func randomNumbers(r *rand.Rand, n, low, high int) []int {
	numbers := make([]int, n)
	for i := range numbers {
		numbers[i] = low + r.Intn(high-low+1)
	}
	return numbers
}

// randomFlows returns quanta and flows, some of them with numbers of the same
// size, so that packets often need all of the credit.
func randomFlows(r *rand.Rand, n int) (turns []int, flows [][]int) {
	turns = randomNumbers(r, n, 1, []int{6, 100, 2000, 10000}[r.Intn(4)])
	flows = make([][]int, n)
	for i := range flows {
		flows[i] = randomNumbers(r, r.Intn([]int{3, 40, 401}[r.Intn(3)]), 1, []int{8, 150, 1500}[r.Intn(3)])
	}
	return turns, flows
}

func TestRoundAgainstThePlainOne(t *testing.T) {
	r := rand.New(rand.NewSource(43))
	for range 4000 {
		turns, flows := randomFlows(r, r.Intn(17))
		may := randomNumbers(r, len(flows), 0, []int{0, 9, 1499}[r.Intn(3)])
		checkRound(t, turns, flows, may, plain(turns, flows, may, 1))
		if t.Failed() {
			return
		}
	}
}

func TestRoundsAgainstThePlainOne(t *testing.T) {
	r := rand.New(rand.NewSource(44))
	done, waiting := 0, 0
	for range 3000 {
		turns, flows := randomFlows(r, r.Intn(17))
		n := r.Intn([]int{4, 50, 401}[r.Intn(3)])
		want := plain(turns, flows, make([]int, len(flows)), n)
		checkRounds(t, turns, flows, n, want)
		if t.Failed() {
			return
		}
		if slices.ContainsFunc(want.left, func(left []int) bool { return len(left) > 0 }) {
			waiting++
		} else {
			done++
		}
	}
	if min(done, waiting) < 500 {
		t.Errorf("all packets are sent %d times, and some wait %d times", done, waiting)
	}
}

// All flows of up to three small packets.
func TestSmallNumbersAgainstThePlainOne(t *testing.T) {
	for i := range 4 * 4 * 4 * 4 * 4 * 4 {
		flow := slices.DeleteFunc([]int{i % 4, i / 4 % 4, i / 16 % 4}, func(size int) bool { return size == 0 })
		turns, flows, may := []int{1 + i/64%4, 2}, [][]int{flow, {1, 3}}, []int{i / 256 % 4, i / 1024}
		checkRound(t, turns, flows, may, plain(turns, flows, may, 1))
		checkRounds(t, turns, flows, i/256, plain(turns, flows, []int{0, 0}, i/256))
		if t.Failed() {
			return
		}
	}
}

// Round, one after the other with what the one before it left, must do what
// Rounds does.
func TestRoundsAreConsecutive(t *testing.T) {
	r := rand.New(rand.NewSource(45))
	for range 300 {
		turns, flows := randomFlows(r, r.Intn(17))
		all := result{left: flows, credits: make([]int, len(flows))}
		for n := range 30 {
			checkRounds(t, turns, flows, n, all)
			next := round(turns, all.left, all.credits)
			next.sent = slices.Concat(all.sent, next.sent)
			all = next
			if t.Failed() {
				return
			}
		}
	}
}

func bytesOf(sent []api.Sent, flow int) int {
	sum := 0
	for _, packet := range sent {
		if packet.Flow == flow {
			sum += packet.Bytes
		}
	}
	return sum
}

// Fair up to one packet: as long as packets of a flow wait, in no rounds in
// succession is it sent a whole packet more or less than its quanta.
func TestFairUpToOnePacket(t *testing.T) {
	r := rand.New(rand.NewSource(46))
	checked := 0
	for range 150 {
		turns, flows := randomFlows(r, 1+r.Intn(6))
		flow := r.Intn(len(flows))
		if len(flows[flow]) == 0 {
			continue
		}
		largest := slices.Max(flows[flow])
		var ahead []int // of the quanta, after each round
		for n := range 40 {
			got := rounds(turns, flows, n)
			if got.err != api.OK || len(got.left[flow]) == 0 {
				break
			}
			ahead = append(ahead, bytesOf(got.sent, flow)-n*turns[flow])
			if slices.Max(ahead)-slices.Min(ahead) >= largest {
				t.Fatalf("Rounds(%v, %v, %d): flow %d is %v bytes ahead", turns, flows, n, flow, ahead)
			}
			checked++
		}
	}
	if checked < 1000 {
		t.Errorf("packets wait after only %d rounds", checked)
	}
}

// AA1 and AA2: no state is kept, arguments are left as they are with the spare
// capacity behind them, and results are new memory.

// spoil changes all of the memory of a result.
func spoil(got result) {
	for i := range got.sent {
		got.sent[i] = api.Sent{Flow: -7, Bytes: -7}
	}
	for i, left := range got.left {
		copy(left[:cap(left)], repeated(cap(left), -7))
		got.left[i] = []int{-7}
	}
	copy(got.credits[:cap(got.credits)], repeated(cap(got.credits), -7))
}

func TestCallsAreIndependent(t *testing.T) {
	turns, flows, may := []int{500, 600, 1}, [][]int{{300, 300}, {700}, nil}, []int{0, 0, 0}
	want := result{packets(0, 300), [][]int{{300}, {700}, nil}, []int{200, 600, 0}, api.OK}
	for range 3 {
		spoil(round(turns, flows, may))
		spoil(rounds(turns, flows, 1))
		spoil(rounds(turns, flows, 0))
		checkRound(t, turns, flows, may, want)
		checkRounds(t, turns, flows, 1, want)
		checkRound(t, turns, flows, may[:2], result{err: api.ErrForm})
		checkRounds(t, turns, flows, 401, result{err: api.ErrRange})
		checkError(t, turns, flows[:2], api.ErrForm)
	}
}

func TestResultsAreNewMemory(t *testing.T) {
	turns, flows, may := []int{500, 600, 9}, [][]int{{300, 300}, {700, 1}, nil}, []int{0, 0, 3}
	one, two, none := round(turns, flows, may), rounds(turns, flows, 1), rounds(turns, flows, 0)
	for _, flow := range flows {
		clear(flow)
	}
	clear(flows)
	clear(turns)
	clear(may)
	want := result{packets(0, 300), [][]int{{300}, {700, 1}, nil}, []int{200, 600, 0}, api.OK}
	unserved := result{nil, [][]int{{300, 300}, {700, 1}, nil}, []int{0, 0, 0}, api.OK}
	if !same(one, want) || !same(two, want) || !same(none, unserved) {
		t.Errorf("the results are %v, %v and %v after a change of the arguments", one, two, none)
	}
}

// Flows may share memory, their remaining packets may not.
func TestRemainingPacketsShareNoMemory(t *testing.T) {
	memory := []int{300, 300, 700, 5}
	flows := [][]int{memory[:3], memory[:3], memory[1:3], memory}
	turns := []int{300, 300, 300, 300}
	for _, got := range []result{round(turns, flows, []int{0, 0, 0, 0}), rounds(turns, flows, 1), rounds(turns, flows, 0)} {
		for i := range got.left {
			before := make([][]int, len(got.left))
			for j, left := range got.left {
				before[j] = slices.Clone(left)
			}
			left := got.left[i]
			copy(left[:cap(left)], repeated(cap(left), -7-i))
			before[i] = repeated(len(left), -7-i)
			if !slices.EqualFunc(got.left, before, slices.Equal) {
				t.Errorf("the remaining packets are %v after a change of flow %d, want %v", got.left, i, before)
			}
		}
	}
	if !slices.Equal(memory, []int{300, 300, 700, 5}) {
		t.Errorf("the packets are %v after a change of the results", memory)
	}
}

// The quanta and the credits may be the same slice.
func TestQuantaAsCredits(t *testing.T) {
	both := []int{500, 600}
	want := result{packets(0, 1000), [][]int{{1}, {1201}}, []int{0, 1200}, api.OK}
	got := round(both, [][]int{{1000, 1}, {1201}}, both)
	if !same(got, want) || !slices.Equal(both, []int{500, 600}) {
		t.Errorf("Round gives %v and leaves %v, want %v", got, both, want)
	}
}

func TestArgumentsAreLeft(t *testing.T) {
	turns, may, memory := []int{500, 600, 0, 7}, []int{0, 0, -1, 7}, []int{300, 300, -5, 9}
	flows := [][]int{memory[:2], {700}, {-3}, {8}}
	for range 2 {
		want := result{packets(0, 300), [][]int{{300}, {700}}, []int{200, 600}, api.OK}
		checkRound(t, turns[:2], flows[:2], may[:2], want)
		checkRounds(t, turns[:2], flows[:2], 1, want)
		spoil(round(turns[:2], flows[:2], may[:2]))
		spoil(rounds(turns[:2], flows[:2], 0))
		checkError(t, turns[:3], flows[:3], api.ErrRange)
		checkError(t, turns, flows[:2], api.ErrForm)
		checkRound(t, turns[:2], flows[:2], may[:3], result{err: api.ErrForm})
	}
	if !slices.Equal(turns, []int{500, 600, 0, 7}) || !slices.Equal(may, []int{0, 0, -1, 7}) {
		t.Errorf("the quanta are %v and the credits %v after the calls", turns, may)
	}
	if !slices.Equal(memory, []int{300, 300, -5, 9}) || !slices.EqualFunc(flows, [][]int{{300, 300}, {700}, {-3}, {8}}, slices.Equal) {
		t.Errorf("the flows are %v in %v after the calls", flows, memory)
	}
}
