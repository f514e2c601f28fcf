package wfq

import (
	"cmp"
	"math"
	"math/big"
	"math/rand"
	"slices"
	"testing"

	"weirhouse/api"
)

// outside lists numbers that are no weight, no flow, no size and no kind.
var outside = []int{-1, -12, 1 << 32, 1<<32 + 1, 1<<32 + 5, 1 << 62, math.MaxInt, math.MinInt}

var wrongWeights = append([]int{0, 13, 14, 100}, outside...)

var wrongSizes = append([]int{0, 1501, 10000}, outside...)

var wrongKinds = append([]int{0, 3, 4, 257, 258}, outside...)

// result is all that Play returns.
type result struct {
	errs    []api.Errno
	sent    []api.Sent
	waiting []int
	err     api.Errno
}

func same(a, b result) bool {
	return slices.Equal(a.errs, b.errs) &&
		slices.Equal(a.sent, b.sent) &&
		slices.Equal(a.waiting, b.waiting) &&
		a.err == b.err
}

func play(weights []int, ops []api.FlowOp) result {
	errs, sent, waiting, err := Play(weights, ops)
	return result{errs, sent, waiting, err}
}

func in(flow, bytes int) api.FlowOp {
	return api.FlowOp{Kind: api.FlowIn, Flow: flow, Bytes: bytes}
}

func out() api.FlowOp { return api.FlowOp{Kind: api.FlowOut} }

func outs(n int) []api.FlowOp { return slices.Repeat([]api.FlowOp{out()}, n) }

// ins returns operations by which packets of one flow come.
func ins(flow int, sizes ...int) []api.FlowOp {
	var ops []api.FlowOp
	for _, size := range sizes {
		ops = append(ops, in(flow, size))
	}
	return ops
}

// sentIn returns the packets that ops bring, in the order of their numbers.
func sentIn(ops []api.FlowOp, order ...int) []api.Sent {
	var sent []api.Sent
	for _, i := range order {
		sent = append(sent, api.Sent{Flow: ops[i].Flow, Bytes: ops[i].Bytes})
	}
	return sent
}

// oks returns n codes without an error.
func oks(n int) []api.Errno { return make([]api.Errno, n) }

func repeated(n, number int) []int { return slices.Repeat([]int{number}, n) }

func total(weights []int) int {
	all := 0
	for _, weight := range weights {
		all += weight
	}
	return all
}

func checkWrong(t *testing.T, weights []int, want api.Errno) {
	t.Helper()
	if got := Wrong(weights); got != want {
		t.Errorf("Wrong(%v) = %d, want %d", weights, got, want)
	}
}

func checkPlay(t *testing.T, weights []int, ops []api.FlowOp, want result) {
	t.Helper()
	if got := play(weights, ops); !same(got, want) {
		t.Errorf("Play(%v, %v) = %v, want %v", weights, ops, got, want)
	}
}

// checkOrder lets packets come and go, and checks in which order those that the
// operations bring are sent. The others must be waiting in the end.
func checkOrder(t *testing.T, weights []int, ops []api.FlowOp, order ...int) {
	t.Helper()
	waiting := make([]int, len(weights))
	for i, op := range ops {
		if op.Kind == api.FlowIn && !slices.Contains(order, i) {
			waiting[op.Flow]++
		}
	}
	checkPlay(t, weights, ops, result{oks(len(ops)), sentIn(ops, order...), waiting, api.OK})
}

func checkError(t *testing.T, weights []int) {
	t.Helper()
	checkWrong(t, weights, api.ErrRange)
	many := slices.Repeat([]api.FlowOp{in(0, 1)}, 401)
	for _, n := range []int{0, 1, 400, 401} {
		checkPlay(t, weights, many[:n], result{err: api.ErrRange})
	}
	checkPlay(t, weights, []api.FlowOp{{}, out(), in(-1, 0)}, result{err: api.ErrRange})
}

// P1: Wrong, and the error of Play that comes from it.

func TestWrongOfValidWeights(t *testing.T) {
	checkWrong(t, nil, api.OK)
	checkWrong(t, []int{}, api.OK)
	for weight := 1; weight <= 12; weight++ {
		checkWrong(t, []int{weight}, api.OK)
		checkWrong(t, repeated(16, weight), api.OK)
	}
	checkWrong(t, []int{1, 2, 3, 4, 5, 6, 7, 8, 9, 10, 11, 12, 12, 1, 1, 12}, api.OK)
}

func TestWeightsOutOfBounds(t *testing.T) {
	for _, n := range wrongWeights {
		checkError(t, []int{n})
		for i := range 16 {
			weights := repeated(16, 1+i%12)
			weights[i] = n
			checkError(t, weights)
			checkError(t, weights[:i+1])
		}
	}
}

func TestTooManyWeights(t *testing.T) {
	for _, n := range []int{17, 18, 32, 400} {
		checkError(t, repeated(n, 1))
		checkError(t, repeated(n, 12))
		checkError(t, repeated(n, 0))
	}
}

// P1: Play.

func TestFlowIn(t *testing.T) {
	for _, size := range []int{1, 2, 1499, 1500} {
		checkPlay(t, []int{1, 12}, []api.FlowOp{in(1, size)}, result{oks(1), nil, []int{0, 1}, api.OK})
		checkOrder(t, []int{1, 12}, []api.FlowOp{in(1, size), out()}, 0)
	}
	checkPlay(t, []int{4, 5, 6}, slices.Concat(ins(2, 1, 2, 3), ins(0, 4)), result{oks(4), nil, []int{1, 0, 3}, api.OK})
	for flow := range 16 {
		waiting := make([]int, 16)
		waiting[flow] = 2
		checkPlay(t, repeated(16, 12), ins(flow, 1, 1500), result{oks(2), nil, waiting, api.OK})
	}
}

// No such flow comes before a size that is out of bounds.
func TestFlowInOfNoFlow(t *testing.T) {
	for n := range 17 {
		for _, flow := range slices.Concat([]int{n, n + 1, 17}, outside) {
			for _, size := range slices.Concat([]int{1, 1500}, wrongSizes) {
				checkPlay(t, repeated(n, 1), []api.FlowOp{in(flow, size)}, result{[]api.Errno{api.ErrNone}, nil, make([]int, n), api.OK})
			}
		}
	}
}

func TestFlowInOfWrongSize(t *testing.T) {
	for _, size := range wrongSizes {
		for flow := range 3 {
			checkPlay(t, []int{1, 2, 3}, []api.FlowOp{in(flow, size)}, result{[]api.Errno{api.ErrRange}, nil, []int{0, 0, 0}, api.OK})
		}
	}
}

func TestFlowOutWithoutPackets(t *testing.T) {
	none := []api.Errno{api.ErrNone}
	checkPlay(t, nil, outs(1), result{errs: none})
	checkPlay(t, []int{1, 2}, outs(1), result{none, nil, []int{0, 0}, api.OK})
	ops := []api.FlowOp{in(1, 5), out(), out(), in(0, 6), out(), out()}
	errs := []api.Errno{api.OK, api.OK, api.ErrNone, api.OK, api.OK, api.ErrNone}
	checkPlay(t, []int{1, 2}, ops, result{errs, sentIn(ops, 0, 3), []int{0, 0}, api.OK})
}

func TestFlowOutIgnoresOtherFields(t *testing.T) {
	for _, n := range slices.Concat([]int{0, 1, 2}, outside) {
		ignored := api.FlowOp{Kind: api.FlowOut, Flow: n, Bytes: n}
		checkOrder(t, []int{1, 2}, []api.FlowOp{in(0, 100), in(1, 150), ignored, ignored}, 1, 0)
		checkPlay(t, []int{1}, []api.FlowOp{ignored}, result{[]api.Errno{api.ErrNone}, nil, []int{0}, api.OK})
	}
}

func TestUnknownKinds(t *testing.T) {
	for _, kind := range wrongKinds {
		for _, op := range []api.FlowOp{{Kind: kind, Bytes: 5}, {Kind: kind, Flow: -1, Bytes: 5}, {Kind: kind}} {
			checkPlay(t, nil, []api.FlowOp{op}, result{errs: []api.Errno{api.ErrKind}})
			checkPlay(t, []int{3}, []api.FlowOp{op}, result{[]api.Errno{api.ErrKind}, nil, []int{0}, api.OK})
			ops := []api.FlowOp{in(0, 7), op, out()}
			checkPlay(t, []int{3}, ops, result{[]api.Errno{0, api.ErrKind, 0}, sentIn(ops, 0), []int{0}, api.OK})
		}
	}
}

// With an operation that has an error behind each other one, the result is the
// same. It would be another one if such a packet had changed a time of its flow,
// or if the virtual time had been changed.
func checkWithErrors(t *testing.T, weights []int, ops []api.FlowOp, order ...int) {
	t.Helper()
	checkOrder(t, weights, ops, order...)
	for _, c := range []struct {
		wrong api.FlowOp
		err   api.Errno
	}{
		{in(0, 0), api.ErrRange},
		{in(1, 0), api.ErrRange},
		{in(0, -500), api.ErrRange},
		{in(1, -500), api.ErrRange},
		{in(0, 1501), api.ErrRange},
		{in(1, 1501), api.ErrRange},
		{in(len(weights), 5), api.ErrNone},
		{in(-1, 5), api.ErrNone},
		{api.FlowOp{Kind: 0, Bytes: 5}, api.ErrKind},
		{api.FlowOp{Kind: 3, Flow: 1, Bytes: 5}, api.ErrKind},
	} {
		var more []api.FlowOp
		var errs []api.Errno
		for _, op := range ops {
			more = append(more, op, c.wrong)
			errs = append(errs, api.OK, c.err)
		}
		checkPlay(t, weights, more, result{errs, sentIn(ops, order...), repeated(len(weights), 0), api.OK})
	}
}

func TestOperationsWithAnErrorHaveNoEffect(t *testing.T) {
	checkWithErrors(t, []int{1, 2}, []api.FlowOp{in(0, 100), in(1, 150), out(), in(1, 51), in(0, 1), out(), out(), out(), in(1, 100), in(0, 49), out(), out()}, 1, 0, 3, 4, 8, 9)
	// When the last packet of flow 0 comes, the one before it is late.
	checkWithErrors(t, []int{1, 1, 2}, []api.FlowOp{in(0, 1), in(0, 1), in(1, 1500), out(), out(), in(2, 10), in(0, 6), out(), out(), out()}, 0, 2, 1, 6, 5)
	// A FlowOut has an error only if no packet is waiting.
	ops := []api.FlowOp{out(), in(0, 100), out(), out(), in(1, 134), in(1, 50), in(0, 50), out(), out(), out(), out()}
	errs := []api.Errno{api.ErrNone, 0, 0, api.ErrNone, 0, 0, 0, 0, 0, 0, api.ErrNone}
	checkPlay(t, []int{1, 2}, ops, result{errs, sentIn(ops, 1, 4, 6, 5), []int{0, 0}, api.OK})
	ops[4].Bytes--
	checkPlay(t, []int{1, 2}, ops, result{errs, sentIn(ops, 1, 4, 5, 6), []int{0, 0}, api.OK})
}

func TestWithoutOperations(t *testing.T) {
	for _, none := range [][]api.FlowOp{nil, {}} {
		checkPlay(t, nil, none, result{})
		checkPlay(t, []int{}, none, result{})
		checkPlay(t, []int{3, 4}, none, result{nil, nil, []int{0, 0}, api.OK})
		checkPlay(t, repeated(16, 12), none, result{nil, nil, repeated(16, 0), api.OK})
	}
}

func TestWithoutFlows(t *testing.T) {
	ops := []api.FlowOp{in(0, 5), out(), {}, in(0, 0), in(-1, 5)}
	errs := []api.Errno{api.ErrNone, api.ErrNone, api.ErrKind, api.ErrNone, api.ErrNone}
	checkPlay(t, nil, ops, result{errs: errs})
	checkPlay(t, []int{}, ops, result{errs: errs})
}

func TestAsManyOperationsAsAllowed(t *testing.T) {
	ops := slices.Repeat([]api.FlowOp{in(0, 1500)}, 400)
	checkPlay(t, []int{1}, ops, result{oks(400), nil, []int{400}, api.OK})
	copy(ops[200:], outs(200))
	sent := slices.Repeat([]api.Sent{{Bytes: 1500}}, 200)
	checkPlay(t, []int{1}, ops, result{oks(400), sent, []int{0}, api.OK})
	checkPlay(t, nil, make([]api.FlowOp, 400), result{errs: slices.Repeat([]api.Errno{api.ErrKind}, 400)})
}

func TestTooManyOperations(t *testing.T) {
	for _, n := range []int{401, 402, 1000} {
		for _, weights := range [][]int{nil, {1}, repeated(16, 12)} {
			for _, op := range []api.FlowOp{in(0, 5), out(), {}, in(-1, 5)} {
				checkPlay(t, weights, slices.Repeat([]api.FlowOp{op}, n), result{err: api.ErrRange})
			}
		}
	}
}

// P2: the order in which packets are sent.

func TestExample(t *testing.T) {
	ops := slices.Concat(ins(0, 100, 100, 100), ins(1, repeated(9, 100)...), outs(12))
	checkOrder(t, []int{1, 3}, ops, 3, 0, 4, 5, 6, 1, 7, 8, 9, 2, 10, 11)
	for size := 1; size <= 1500; size += 7 {
		ops := slices.Concat(ins(0, repeated(40, size)...), ins(1, repeated(120, size)...), outs(160))
		errs, sent, waiting, err := Play([]int{1, 3}, ops)
		if len(sent) != 160 || !slices.Equal(errs, oks(320)) || !slices.Equal(waiting, []int{0, 0}) || err != api.OK {
			t.Fatalf("packets of %d bytes: %v are sent, errors %v, %v are waiting, error %d", size, sent, errs, waiting, err)
		}
		for i, one := range sent {
			if want := []int{1, 0, 1, 1}[i%4]; one != (api.Sent{Flow: want, Bytes: size}) {
				t.Fatalf("packets of %d bytes: %v is sent as number %d, want flow %d", size, one, i, want)
			}
		}
	}
}

func TestEarliestFinish(t *testing.T) {
	for _, c := range []struct {
		name    string
		weights []int
		ops     []api.FlowOp
		order   []int
	}{
		{"one flow", []int{5}, append(ins(0, 300, 1, 1500, 2), outs(4)...), []int{0, 1, 2, 3}},
		{"the smallest packet of equal weights", []int{7, 7, 7}, []api.FlowOp{in(0, 51), in(1, 52), in(2, 50), out(), out()}, []int{2, 0}},
		{"the largest weight of equal packets", []int{3, 12, 4}, []api.FlowOp{in(0, 50), in(1, 50), in(2, 50), out(), out()}, []int{1, 2}},
		{"equal times", []int{2, 1, 3, 1}, []api.FlowOp{in(3, 100), in(2, 300), in(1, 100), in(0, 200), out(), out(), out(), out()}, []int{3, 2, 1, 0}},
		{"a byte less than equal times", []int{2, 3}, []api.FlowOp{in(0, 200), in(1, 299), out()}, []int{1}},
		{"a byte more than equal times", []int{3, 2}, []api.FlowOp{in(0, 301), in(1, 200), out()}, []int{1}},
		{"the largest packets", []int{12, 11}, []api.FlowOp{in(1, 1376), in(0, 1500), out()}, []int{1}},
		{"the earliest start does not matter", []int{1, 1}, []api.FlowOp{in(0, 900), in(1, 100), out(), in(1, 1), out(), out()}, []int{1, 0, 3}},
		{"a second packet behind the first", []int{1, 1, 2}, []api.FlowOp{in(0, 50), in(0, 50), in(1, 150), in(2, 1500), out(), out(), out(), out()}, []int{0, 2, 1, 3}},
	} {
		t.Run(c.name, func(t *testing.T) { checkOrder(t, c.weights, c.ops, c.order...) })
	}
}

func TestAllWeightsAndSmallPackets(t *testing.T) {
	for i := range 12 * 12 * 24 * 24 {
		weights := []int{1 + i%12, 1 + i/12%12}
		ops := []api.FlowOp{in(0, 1+i/144%24), in(1, 1+i/144/24), out()}
		order := 0
		if ops[1].Bytes*weights[0] < ops[0].Bytes*weights[1] {
			order = 1
		}
		checkOrder(t, weights, ops, order)
		if t.Failed() {
			return
		}
	}
}

// A packet that has not started is not sent before one that has, however much
// earlier it finishes. In the first cases the second packet of flow 0 starts at
// the time 200.
func TestOnlyPacketsThatHaveStarted(t *testing.T) {
	third := func(size int) []api.FlowOp {
		return []api.FlowOp{in(0, 50), in(0, 1), in(1, size), in(2, 1500), out(), out(), out()}
	}
	for _, c := range []struct {
		name    string
		weights []int
		ops     []api.FlowOp
		order   []int
	}{
		{"it starts later", []int{1, 1, 2}, third(149), []int{0, 2, 3}},
		{"it starts now", []int{1, 1, 2}, third(150), []int{0, 2, 1}},
		{"it has started", []int{1, 1, 2}, third(151), []int{0, 2, 1}},
		{"a large weight", []int{1, 11}, slices.Concat(ins(1, 12, 12), ins(0, 1500), outs(3)), []int{0, 2, 1}},
		{"the largest weight", []int{12, 1}, slices.Concat(ins(0, 1200, 1, 1), ins(1, 1500), outs(4)), []int{0, 3, 1, 2}},
		{"a small weight", []int{1, 11}, slices.Concat(ins(0, 1, 1), ins(1, 10, 10, 10), outs(5)), []int{2, 0, 3, 1, 4}},
		{"both start together", []int{1, 11}, slices.Concat(ins(0, 1, 1), ins(1, 11, 11, 11), outs(5)), []int{0, 2, 1, 3, 4}},
		{"the sum of all weights counts", []int{1, 1, 12}, slices.Concat(ins(0, 10, 10), ins(1, 139, 1), outs(4)), []int{0, 2, 1, 3}},
	} {
		t.Run(c.name, func(t *testing.T) { checkOrder(t, c.weights, c.ops, c.order...) })
	}
}

// If all packets start later, the virtual time becomes the earliest start time.
// In the first cases it is 200 when flow 0 sends again and 300 when flow 1
// starts, and the last packet of flow 0 starts at 400.
func TestVirtualTimeBecomesTheEarliestStart(t *testing.T) {
	after := func(size, last int) []api.FlowOp {
		return []api.FlowOp{in(0, 100), out(), in(0, 100), out(), in(0, 9), in(1, size), in(1, last), out(), out(), out()}
	}
	for _, c := range []struct {
		name    string
		weights []int
		ops     []api.FlowOp
		order   []int
	}{
		{"that of flow 1", []int{1, 1}, after(49, 1500), []int{0, 2, 5, 6, 4}},
		{"both, and flow 0 finishes first", []int{1, 1}, after(50, 10), []int{0, 2, 5, 4, 6}},
		{"both, and both finish together", []int{1, 1}, after(50, 9), []int{0, 2, 5, 4, 6}},
		{"both, and flow 1 finishes first", []int{1, 1}, after(50, 8), []int{0, 2, 5, 6, 4}},
		{"that of flow 0", []int{1, 1}, after(51, 1), []int{0, 2, 5, 4, 6}},
		{"one alone", []int{1, 12}, slices.Concat(ins(0, 100, 5), outs(2), ins(1, 240, 5), ins(0, 5), outs(3)), []int{0, 1, 4, 6, 5}},
	} {
		t.Run(c.name, func(t *testing.T) { checkOrder(t, c.weights, c.ops, c.order...) })
	}
}

func TestStartTimes(t *testing.T) {
	for _, c := range []struct {
		name    string
		weights []int
		ops     []api.FlowOp
		order   []int
	}{
		{"not earlier than the last finish", []int{1, 1}, []api.FlowOp{in(0, 100), out(), in(0, 1), in(1, 1500), out(), out()}, []int{0, 3, 2}},
		{"not earlier than the virtual time", []int{1, 1, 2}, []api.FlowOp{in(0, 1), out(), in(1, 1500), out(), in(2, 10), in(0, 6), out(), out()}, []int{0, 2, 4, 5}},
		{"behind another packet even before the virtual time", []int{1, 1, 2}, []api.FlowOp{in(0, 1), in(0, 1), in(1, 1500), out(), out(), in(2, 10), in(0, 6), out(), out(), out()}, []int{0, 2, 1, 6, 5}},
		{"the virtual time at which it came", []int{1, 1}, []api.FlowOp{in(0, 100), in(1, 100), out(), out(), in(0, 60), in(1, 50), out(), out()}, []int{0, 1, 5, 4}},
		{"the virtual time at which it came, not 0", []int{1, 1}, []api.FlowOp{in(0, 100), out(), in(1, 51), in(1, 7), in(0, 8), out(), out(), out()}, []int{0, 2, 4, 3}},
		{"the last finish, not the largest packet", []int{1, 1, 8}, []api.FlowOp{in(0, 10), in(1, 20), out(), out(), in(0, 9), in(1, 1), out(), out(), in(0, 1), in(1, 1), out(), out()}, []int{0, 1, 4, 5, 8, 9}},
	} {
		t.Run(c.name, func(t *testing.T) { checkOrder(t, c.weights, c.ops, c.order...) })
	}
}

// In the first cases the second packet of flow 1 starts at 301 or at 299.5, and
// that of flow 0 at 300.
func TestVirtualTimeIsKept(t *testing.T) {
	for _, c := range []struct {
		name    string
		weights []int
		ops     []api.FlowOp
		order   []int
	}{
		{"when no packet is waiting", []int{1, 2}, slices.Concat(ins(0, 100), outs(1), ins(1, 134, 50), ins(0, 50), outs(3)), []int{0, 2, 4, 3}},
		{"and not increased", []int{1, 2}, slices.Concat(ins(0, 100), outs(1), ins(1, 133, 50), ins(0, 50), outs(3)), []int{0, 2, 3, 4}},
		{"by the packets that come", []int{1, 1}, slices.Concat(ins(0, 100), outs(1), ins(0, repeated(20, 1500)...), ins(1, 51, 7), outs(3)), []int{0, 22, 2, 23}},
	} {
		t.Run(c.name, func(t *testing.T) { checkOrder(t, c.weights, c.ops, c.order...) })
	}
}

// With floating-point numbers the order is another one.
func TestTimesAreRational(t *testing.T) {
	checkOrder(t, []int{12, 10, 12}, slices.Concat(ins(0, 3), ins(2, 1), ins(1, 2), ins(2, 2), outs(4)), 1, 2, 0, 3)
	checkOrder(t, []int{3, 5, 5}, slices.Concat(ins(2, 1), ins(0, 3), ins(2, 4), outs(1), ins(1, 2), outs(3)), 0, 4, 1, 2)
	checkOrder(t, []int{9, 10, 3}, slices.Concat(ins(0, 2, 1), ins(1, 3), ins(2, 1), outs(4)), 0, 2, 1, 3)
	checkOrder(t, []int{7, 11, 7}, slices.Concat(ins(2, 1, 2), ins(0, 3, 3), ins(2, 2), outs(2), ins(0, 1), outs(4)), 0, 2, 1, 4, 3, 7)
}

// approach has the flow y, which has the weight 1, and five other flows, of
// which the last one is x.
type approach struct {
	weights, flows []int
	y              int
}

var approaches = []approach{
	{[]int{1, 5, 7, 8, 9, 11}, []int{1, 2, 3, 4, 5}, 0},
	{[]int{5, 7, 8, 9, 11, 1}, []int{0, 1, 2, 3, 4}, 5},
}

// closeBy says by which packets a packet of flow x starts nearly when that of
// flow y does.
type closeBy struct {
	name            string
	size            int
	firsts, seconds []int
	order           int // -1 if x is before y
}

var closest = []closeBy{
	{"1/27720 earlier", 3, []int{1, 3, 7, 8, 4}, []int{1, 2, 2, 2}, -1},
	{"equal", 6, []int{5, 7, 8, 9, 11}, []int{8, 9, 9, 9}, 0},
	{"1/27720 later", 3, []int{4, 4, 1, 1, 7}, []int{7, 7, 7, 7}, 1},
}

// ops lets flow y have a packet, as operation 2, that has not started, and
// advances the virtual time towards its start. Each of the other flows sends a
// packet and then, except for flow x, another one, which starts when the first
// one finishes: the denominator of the virtual time becomes the least common
// multiple of all weights.
func (a approach) ops(c closeBy, lastSize int) (ops []api.FlowOp, order []int) {
	send := func(flow, size int) {
		order = append(order, len(ops))
		ops = append(ops, in(flow, size), out())
	}
	send(a.y, c.size)
	ops = append(ops, in(a.y, lastSize))
	for i, flow := range a.flows {
		send(flow, c.firsts[i])
		if i < len(c.seconds) {
			send(flow, c.seconds[i])
		}
	}
	return ops, order
}

func (a approach) x() int { return a.flows[4] }

// The start times of two packets may differ by as little as 1/27720. Only the
// earlier one is sent then, even if it finishes later.
func TestStartsCloseToEachOther(t *testing.T) {
	for _, c := range closest {
		for _, a := range approaches {
			for _, last := range []struct{ x, y, order int }{{1500, 1, 1}, {1, 1500, -1}} {
				ops, order := a.ops(c, last.y)
				atX, atY := len(ops), 2
				ops = append(ops, in(a.x(), last.x), out(), out())
				if cmp.Or(c.order, last.order) > 0 {
					atX, atY = atY, atX
				}
				t.Run(c.name, func(t *testing.T) { checkOrder(t, a.weights, ops, append(order, atX, atY)...) })
			}
		}
	}
}

// The finish times may differ as little. The packet of another flow, which is
// sent before, makes both packets start.
func TestFinishesCloseToEachOther(t *testing.T) {
	for _, c := range closest {
		for _, a := range approaches {
			ops, order := a.ops(c, 1)
			atX, other, atY := len(ops), len(ops)+1, 2
			ops = append(ops, in(a.x(), 11), in(a.flows[0], 200), out(), out(), out())
			if cmp.Or(c.order, cmp.Compare(a.x(), a.y)) > 0 {
				atX, atY = atY, atX
			}
			t.Run(c.name, func(t *testing.T) { checkOrder(t, a.weights, ops, append(order, other, atX, atY)...) })
		}
	}
}

// The virtual time comes close to 12 million, with the least common multiple of
// all weights as its denominator. However far it is, later packets are compared
// exactly.
func TestLargestTimes(t *testing.T) {
	weights := []int{1, 5, 7, 8, 9, 11, 2}
	var ops []api.FlowOp
	var order []int
	send := func(flow, bytes int) {
		order = append(order, len(ops))
		ops = append(ops, in(flow, bytes), out())
	}
	for flow := 1; flow <= 5; flow++ {
		send(flow, 1)
		send(flow, 1)
	}
	for range 184 {
		send(0, 1500)
		n := len(ops)
		for _, c := range []struct {
			a, b  api.FlowOp
			first int
		}{
			{in(6, 2), in(5, 10), n + 1},
			{in(6, 2), in(5, 11), n + 1},
			{in(6, 2), in(5, 12), n},
			{in(6, 272), in(5, 1500), n},
			{in(6, 273), in(5, 1500), n + 1},
			{in(0, 1), in(6, 1500), n + 1},
		} {
			checkOrder(t, weights, slices.Concat(ops, []api.FlowOp{c.a, c.b, out()}), slices.Concat(order, []int{c.first})...)
		}
	}
}

// The weights add up to as much as possible, and so do the times.
func TestLargestSumOfWeights(t *testing.T) {
	weights := append(repeated(15, 12), 1)
	ops := append(ins(15, repeated(198, 1500)...), outs(198)...)
	order := make([]int, 198)
	for i := range order {
		order[i] = i
	}
	checkOrder(t, weights, ops, order...)
	ops = append(ops, in(14, 1500), in(13, 1499), out(), out())
	checkOrder(t, weights, ops, append(order, 397, 396)...)
}

// Many operations.

// arrival is a packet of the plain computation: whether it came alone, when no
// packet of its flow was waiting, and at which virtual time.
type arrival struct {
	bytes int
	alone bool
	at    *big.Rat
}

type plainFlow struct {
	perByte *big.Rat
	ended   *big.Rat // the finish time of the packet that was sent last
	waiting []arrival
}

// times returns the start and finish times of the first packet.
func (f plainFlow) times() (start, finish *big.Rat) {
	first := f.waiting[0]
	start = f.ended
	if first.alone && first.at.Cmp(start) > 0 {
		start = first.at
	}
	length := new(big.Rat).Mul(f.perByte, big.NewRat(int64(first.bytes), 1))
	return start, length.Add(length, start)
}

func plainFlows(weights []int) []plainFlow {
	all := total(weights)
	flows := make([]plainFlow, len(weights))
	for i, weight := range weights {
		flows[i] = plainFlow{perByte: big.NewRat(int64(all), int64(weight)), ended: new(big.Rat)}
	}
	return flows
}

// plainChoice returns the flow that sends, and the virtual time at that moment,
// or -1 if no packet is waiting.
func plainChoice(flows []plainFlow, now *big.Rat) (int, *big.Rat) {
	var earliest *big.Rat
	for _, f := range flows {
		if len(f.waiting) == 0 {
			continue
		}
		if start, _ := f.times(); earliest == nil || start.Cmp(earliest) < 0 {
			earliest = start
		}
	}
	if earliest != nil && earliest.Cmp(now) > 0 {
		now = earliest
	}
	chosen := -1
	var best *big.Rat
	for i, f := range flows {
		if len(f.waiting) == 0 {
			continue
		}
		start, finish := f.times()
		if start.Cmp(now) <= 0 && (chosen < 0 || finish.Cmp(best) < 0) {
			chosen, best = i, finish
		}
	}
	return chosen, now
}

// plain follows the chapter with fractions of any size. It computes times only
// when they are needed.
func plain(weights []int, ops []api.FlowOp) result {
	want := result{errs: make([]api.Errno, len(ops)), waiting: make([]int, len(weights))}
	flows := plainFlows(weights)
	now := new(big.Rat)
	for i, op := range ops {
		switch {
		case op.Kind == 1 && (op.Flow < 0 || op.Flow >= len(weights)):
			want.errs[i] = api.ErrNone
		case op.Kind == 1 && (op.Bytes < 1 || op.Bytes > 1500):
			want.errs[i] = api.ErrRange
		case op.Kind == 1:
			f := &flows[op.Flow]
			f.waiting = append(f.waiting, arrival{op.Bytes, len(f.waiting) == 0, now})
			want.waiting[op.Flow]++
		case op.Kind == 2:
			chosen, at := plainChoice(flows, now)
			if chosen < 0 {
				want.errs[i] = api.ErrNone
				continue
			}
			f := &flows[chosen]
			bytes := f.waiting[0].bytes
			_, f.ended = f.times()
			f.waiting = f.waiting[1:]
			now = new(big.Rat).Add(at, big.NewRat(int64(bytes), 1))
			want.sent = append(want.sent, api.Sent{Flow: chosen, Bytes: bytes})
			want.waiting[chosen]--
		default:
			want.errs[i] = api.ErrKind
		}
	}
	return want
}

func randomWeights(r *rand.Rand, n int) []int {
	weights := make([]int, n)
	for i := range weights {
		weights[i] = 1 + r.Intn(12)
	}
	return weights
}

// randomOps returns operations of which some are wrong. The sizes are mostly
// small or alike, so that times are often equal.
func randomOps(r *rand.Rand, flows, n int) []api.FlowOp {
	wrong := []api.FlowOp{in(0, 0), in(0, 1501), in(0, -7), in(-1, 5), in(flows, 5), {Kind: 0, Bytes: 9}, {Kind: 3, Bytes: 9}}
	largest := []int{3, 24, 1500}[r.Intn(3)]
	gone := 2 + r.Intn(6) // of ten operations
	ops := make([]api.FlowOp, n)
	for i := range ops {
		switch {
		case r.Intn(20) == 0:
			ops[i] = wrong[r.Intn(len(wrong))]
		case r.Intn(10) < gone:
			ops[i] = api.FlowOp{Kind: api.FlowOut, Flow: r.Intn(20), Bytes: r.Intn(2000)}
		default:
			ops[i] = in(r.Intn(max(1, flows)), 1+r.Intn(largest))
		}
	}
	return ops
}

func TestAgainstThePlainOne(t *testing.T) {
	r := rand.New(rand.NewSource(15))
	done, left := 0, 0
	for range 2500 {
		weights := randomWeights(r, r.Intn([]int{4, 17}[r.Intn(2)]))
		ops := randomOps(r, len(weights), r.Intn([]int{30, 120, 401}[r.Intn(3)]))
		want := plain(weights, ops)
		checkPlay(t, weights, ops, want)
		if t.Failed() {
			return
		}
		if slices.ContainsFunc(want.waiting, func(n int) bool { return n > 0 }) {
			left++
		} else {
			done++
		}
	}
	if min(done, left) < 300 {
		t.Errorf("all packets are sent %d times, and some wait %d times", done, left)
	}
}

// All lists of six operations of two flows, with packets of one or two bytes.
func TestFewOperationsAgainstThePlainOne(t *testing.T) {
	kinds := []api.FlowOp{in(0, 1), in(0, 2), in(1, 1), in(1, 2), out()}
	for i := range 5 * 5 * 5 * 5 * 5 * 5 {
		ops := outs(10)
		for j, rest := 0, i; j < 6; j, rest = j+1, rest/5 {
			ops[j] = kinds[rest%5]
		}
		for _, weights := range [][]int{{1, 1}, {1, 2}, {3, 2}} {
			checkPlay(t, weights, ops, plain(weights, ops))
		}
		if t.Failed() {
			return
		}
	}
}

// Packets are sent close to processor sharing: if packets of all flows wait all
// the time, a packet is sent neither before it would begin to be sent there, nor
// later than a largest packet after it would be finished there.
func TestCloseToSharing(t *testing.T) {
	r := rand.New(rand.NewSource(161))
	for range 400 {
		weights := randomWeights(r, 1+r.Intn(16))
		all, largest := total(weights), 0
		var ops []api.FlowOp
		for i := range weights {
			for range 300 / len(weights) {
				size := 1 + r.Intn([]int{3, 100, 1500}[r.Intn(3)])
				largest = max(largest, size)
				ops = append(ops, in(i, size))
			}
		}
		r.Shuffle(len(ops), func(i, j int) { ops[i], ops[j] = ops[j], ops[i] })
		left := repeated(len(weights), 300/len(weights))
		_, sent, _, err := Play(weights, append(ops, outs(100)...))
		if len(sent) != 100 || err != api.OK {
			t.Fatalf("Play(%v, %v) sends %d packets, error %d", weights, ops, len(sent), err)
		}
		now, bytes := 0, make([]int, len(weights))
		for _, one := range sent {
			i := one.Flow
			if bytes[i]*all > now*weights[i] {
				t.Fatalf("Play(%v, %v): flow %d has sent %d of %d bytes and sends again", weights, ops, i, bytes[i], now)
			}
			now += one.Bytes
			bytes[i] += one.Bytes
			if bytes[i]*all < (now-largest)*weights[i] {
				t.Fatalf("Play(%v, %v): flow %d has sent only %d of %d bytes", weights, ops, i, bytes[i], now)
			}
			if left[i]--; left[i] == 0 {
				break
			}
		}
	}
}

// pair watches two flows: by how many bytes for its weight, multiplied by both
// weights, the first one is ahead of the second one since both have packets.
type pair struct {
	i, j, ahead, least, most int
}

func (p *pair) restart() { p.ahead, p.least, p.most = 0, 0, 0 }

func (p *pair) count(sent api.Sent, weights []int) {
	switch sent.Flow {
	case p.i:
		p.ahead += sent.Bytes * weights[p.j]
	case p.j:
		p.ahead -= sent.Bytes * weights[p.i]
	}
	p.least, p.most = min(p.least, p.ahead), max(p.most, p.ahead)
}

// mostAhead returns by how much the number that pair counts may change, times
// the sum of all weights. The start time of a first packet is before the virtual
// time by at most its own length and a largest packet, and after it by at most
// the length of the packet before it.
func mostAhead(i, j int, weights, largest []int) int {
	lengths := largest[i]*weights[j] + largest[j]*weights[i]
	return 2 * (lengths*total(weights) + slices.Max(largest)*weights[i]*weights[j])
}

// Flows share in proportion to their weights as long as their packets wait.
func TestProportionalToWeights(t *testing.T) {
	r := rand.New(rand.NewSource(16))
	compared := 0
	for range 1500 {
		weights := randomWeights(r, 2+r.Intn(3))
		ops := randomOps(r, len(weights), 100+r.Intn(301))
		errs, sent, _, err := Play(weights, ops)
		if err != api.OK {
			t.Fatalf("Play(%v, %v) gives error %d", weights, ops, err)
		}
		p := pair{i: 0, j: 1 + r.Intn(len(weights)-1)}
		waiting, largest := make([]int, len(weights)), make([]int, len(weights))
		for k, op := range ops {
			if errs[k] == api.OK && op.Kind == api.FlowIn {
				waiting[op.Flow]++
				largest[op.Flow] = max(largest[op.Flow], op.Bytes)
			}
			if errs[k] != api.OK || op.Kind == api.FlowIn {
				continue
			}
			if waiting[p.i] > 0 && waiting[p.j] > 0 {
				p.count(sent[0], weights)
				compared++
			}
			if waiting[sent[0].Flow]--; waiting[p.i] == 0 || waiting[p.j] == 0 {
				p.restart()
			}
			sent = sent[1:]
			if (p.most-p.least)*total(weights) > mostAhead(p.i, p.j, weights, largest) {
				t.Fatalf("Play(%v, %v): flow %d is ahead of flow %d by %d and then by %d", weights, ops[:k+1], p.i, p.j, p.least, p.most)
			}
		}
	}
	if compared < 10000 {
		t.Errorf("two flows have packets at only %d operations", compared)
	}
}

// AA1 and AA2: no state is kept, arguments are left as they are with the spare
// capacity behind them, and results are new memory.

// spoil changes all of the memory of a result.
func spoil(got result) {
	for i := range got.errs[:cap(got.errs)] {
		got.errs[:cap(got.errs)][i] = -7
	}
	for i := range got.sent[:cap(got.sent)] {
		got.sent[:cap(got.sent)][i] = api.Sent{Flow: -7, Bytes: -7}
	}
	for i := range got.waiting[:cap(got.waiting)] {
		got.waiting[:cap(got.waiting)][i] = -7
	}
}

func TestCallsAreIndependent(t *testing.T) {
	weights, ops := []int{1, 2}, []api.FlowOp{in(0, 100), in(1, 150), in(0, 0), out()}
	want := result{[]api.Errno{0, 0, api.ErrRange, 0}, sentIn(ops, 1), []int{1, 0}, api.OK}
	for range 3 {
		spoil(play(weights, ops))
		checkPlay(t, weights, ops, want)
		checkPlay(t, weights, outs(1), result{[]api.Errno{api.ErrNone}, nil, []int{0, 0}, api.OK})
		checkPlay(t, weights, outs(401), result{err: api.ErrRange})
		checkError(t, []int{1, 0})
	}
}

func TestResultsAreNewMemory(t *testing.T) {
	weights, ops := []int{1, 2}, []api.FlowOp{in(0, 100), in(1, 150), out()}
	want := result{oks(3), sentIn(ops, 1), []int{1, 0}, api.OK}
	got := play(weights, ops)
	clear(weights)
	clear(ops)
	if !same(got, want) {
		t.Errorf("the result is %v after a change of the arguments, want %v", got, want)
	}
}

func TestArgumentsAreLeft(t *testing.T) {
	weights := []int{1, 2, 0, 7}
	ops := []api.FlowOp{in(0, 100), in(1, 150), out(), in(-1, 0), {Kind: 9, Flow: 9, Bytes: 9}}
	weightsBefore, opsBefore := slices.Clone(weights), slices.Clone(ops)
	for range 2 {
		checkPlay(t, weights[:2], ops[:3], result{oks(3), sentIn(ops, 1), []int{1, 0}, api.OK})
		checkPlay(t, weights[:2], ops[:4], result{[]api.Errno{0, 0, 0, api.ErrNone}, sentIn(ops, 1), []int{1, 0}, api.OK})
		spoil(play(weights[:2], ops[:3]))
		checkError(t, weights[:3])
	}
	if !slices.Equal(weights, weightsBefore) || !slices.Equal(ops, opsBefore) {
		t.Errorf("the weights are %v and the operations %v after the calls", weights, ops)
	}
}
