package scfq

import (
	"math"
	"math/big"
	"math/rand"
	"slices"
	"testing"

	"weirhouse/api"
)

// outside lists numbers that are no weight, no flow, no size and no kind.
var outside = []int{-1, -12, 1 << 32, 1<<32 + 1, 1<<32 + 5, 1 << 62, math.MaxInt, math.MinInt}

var wrongWeights = append([]int{0, 13, 14, 100}, outside...)

var wrongSizes = append([]int{0, 1501, 10000}, outside...)

var wrongKinds = append([]int{0, 3, 4, 257, 258}, outside...)

// result is all that Play returns.
type result struct {
	errs    []api.Errno
	sent    []api.Sent
	waiting []int
	err     api.Errno
}

func same(a, b result) bool {
	return slices.Equal(a.errs, b.errs) &&
		slices.Equal(a.sent, b.sent) &&
		slices.Equal(a.waiting, b.waiting) &&
		a.err == b.err
}

func play(weights []int, ops []api.FlowOp) result {
	errs, sent, waiting, err := Play(weights, ops)
	return result{errs, sent, waiting, err}
}

func in(flow, bytes int) api.FlowOp {
	return api.FlowOp{Kind: api.FlowIn, Flow: flow, Bytes: bytes}
}

func out() api.FlowOp { return api.FlowOp{Kind: api.FlowOut} }

func outs(n int) []api.FlowOp { return slices.Repeat([]api.FlowOp{out()}, n) }

// ins returns operations by which packets of one flow come.
func ins(flow int, sizes ...int) []api.FlowOp {
	var ops []api.FlowOp
	for _, size := range sizes {
		ops = append(ops, in(flow, size))
	}
	return ops
}

// sentIn returns the packets that ops bring, in the order of their numbers.
func sentIn(ops []api.FlowOp, order ...int) []api.Sent {
	var sent []api.Sent
	for _, i := range order {
		sent = append(sent, api.Sent{Flow: ops[i].Flow, Bytes: ops[i].Bytes})
	}
	return sent
}

// oks returns n codes without an error.
func oks(n int) []api.Errno { return make([]api.Errno, n) }

func repeated(n, number int) []int { return slices.Repeat([]int{number}, n) }

func checkWrong(t *testing.T, weights []int, want api.Errno) {
	t.Helper()
	if got := Wrong(weights); got != want {
		t.Errorf("Wrong(%v) = %d, want %d", weights, got, want)
	}
}

func checkPlay(t *testing.T, weights []int, ops []api.FlowOp, want result) {
	t.Helper()
	if got := play(weights, ops); !same(got, want) {
		t.Errorf("Play(%v, %v) = %v, want %v", weights, ops, got, want)
	}
}

// checkOrder lets packets come and go, and checks in which order those that the
// operations bring are sent. The others must be waiting in the end.
func checkOrder(t *testing.T, weights []int, ops []api.FlowOp, order ...int) {
	t.Helper()
	waiting := make([]int, len(weights))
	for i, op := range ops {
		if op.Kind == api.FlowIn && !slices.Contains(order, i) {
			waiting[op.Flow]++
		}
	}
	checkPlay(t, weights, ops, result{oks(len(ops)), sentIn(ops, order...), waiting, api.OK})
}

func checkError(t *testing.T, weights []int) {
	t.Helper()
	checkWrong(t, weights, api.ErrRange)
	many := slices.Repeat([]api.FlowOp{in(0, 1)}, 401)
	for _, n := range []int{0, 1, 400, 401} {
		checkPlay(t, weights, many[:n], result{err: api.ErrRange})
	}
	checkPlay(t, weights, []api.FlowOp{{}, out(), in(-1, 0)}, result{err: api.ErrRange})
}

// O1: Wrong, and the error of Play that comes from it.

func TestWrongOfValidWeights(t *testing.T) {
	checkWrong(t, nil, api.OK)
	checkWrong(t, []int{}, api.OK)
	for weight := 1; weight <= 12; weight++ {
		checkWrong(t, []int{weight}, api.OK)
		checkWrong(t, repeated(16, weight), api.OK)
	}
	checkWrong(t, []int{1, 2, 3, 4, 5, 6, 7, 8, 9, 10, 11, 12, 12, 1, 1, 12}, api.OK)
}

func TestWeightsOutOfBounds(t *testing.T) {
	for _, n := range wrongWeights {
		checkError(t, []int{n})
		for i := range 16 {
			weights := repeated(16, 1+i%12)
			weights[i] = n
			checkError(t, weights)
			checkError(t, weights[:i+1])
		}
	}
}

func TestTooManyWeights(t *testing.T) {
	for _, n := range []int{17, 18, 32, 400} {
		checkError(t, repeated(n, 1))
		checkError(t, repeated(n, 12))
		checkError(t, repeated(n, 0))
	}
}

// O1: Play.

func TestExample(t *testing.T) {
	ops := []api.FlowOp{in(0, 100), in(1, 150), out()}
	checkPlay(t, []int{1, 2}, ops, result{oks(3), []api.Sent{{Flow: 1, Bytes: 150}}, []int{1, 0}, api.OK})
	checkOrder(t, []int{1, 2}, append(ops, out()), 1, 0)
}

func TestOrderOfTags(t *testing.T) {
	for _, c := range []struct {
		name    string
		weights []int
		ops     []api.FlowOp
		order   []int
	}{
		{"one flow", []int{5}, append(ins(0, 300, 1, 1500, 2), outs(4)...), []int{0, 1, 2, 3}},
		{"the smallest packet of equal weights", []int{7, 7, 7}, []api.FlowOp{in(0, 51), in(1, 52), in(2, 50), out(), out()}, []int{2, 0}},
		{"the largest weight of equal packets", []int{3, 12, 4}, []api.FlowOp{in(0, 50), in(1, 50), in(2, 50), out(), out()}, []int{1, 2}},
		{"equal tags", []int{2, 1, 3, 1}, []api.FlowOp{in(3, 100), in(2, 300), in(1, 100), in(0, 200), out(), out(), out(), out()}, []int{3, 2, 1, 0}},
		{"a byte less than equal tags", []int{2, 3}, []api.FlowOp{in(0, 200), in(1, 299), out()}, []int{1}},
		{"a byte more than equal tags", []int{3, 2}, []api.FlowOp{in(0, 301), in(1, 200), out()}, []int{1}},
		{"the largest packets", []int{12, 11}, []api.FlowOp{in(1, 1376), in(0, 1500), out()}, []int{1}},
		{"a second packet behind the first", []int{1, 1}, []api.FlowOp{in(0, 100), in(0, 20), in(1, 110), out(), out(), out()}, []int{0, 2, 1}},
		{"a small packet waits for a large one", []int{1, 1}, []api.FlowOp{in(0, 1000), in(0, 1), in(1, 999), in(1, 500), out(), out(), out(), out()}, []int{2, 0, 1, 3}},
		{"turns by weight", []int{1, 3}, slices.Concat(ins(0, 30, 30, 30), ins(1, 30, 30, 30, 30, 30, 30), outs(9)), []int{3, 4, 0, 5, 6, 7, 1, 8, 2}},
	} {
		t.Run(c.name, func(t *testing.T) { checkOrder(t, c.weights, c.ops, c.order...) })
	}
}

func TestVirtualTime(t *testing.T) {
	for _, c := range []struct {
		name    string
		weights []int
		ops     []api.FlowOp
		order   []int
	}{
		{"a new flow starts at the virtual time", []int{1, 1}, []api.FlowOp{in(0, 100), in(0, 100), out(), in(1, 101), out()}, []int{0, 1}},
		{"and no later", []int{1, 1}, []api.FlowOp{in(0, 100), in(0, 100), out(), in(1, 99), out()}, []int{0, 3}},
		{"it is the tag of the packet, whatever its size", []int{2, 1}, []api.FlowOp{in(0, 100), in(0, 100), out(), in(1, 49), in(1, 2), out(), out()}, []int{0, 3, 1}},
		{"a flow that was idle saves nothing", []int{1, 1}, slices.Concat(ins(0, 100), ins(1, 50), outs(1), ins(0, 500, 500), outs(2), ins(1, 501), outs(1)), []int{1, 0, 3, 4}},
		{"the tag of the flow comes after the virtual time", []int{1, 1}, []api.FlowOp{in(0, 100), in(0, 200), in(1, 30), out(), in(0, 1), in(1, 269), in(1, 3), out(), out(), out(), out()}, []int{2, 0, 5, 1, 4}},
		{"it is kept when no packet is waiting", []int{1, 1}, []api.FlowOp{in(0, 100), out(), in(1, 60), in(0, 50), out()}, []int{0, 3}},
		{"no packet comes between two that go", []int{1, 1}, []api.FlowOp{in(0, 100), out(), in(0, 50), in(1, 50), out(), out()}, []int{0, 2, 3}},
	} {
		t.Run(c.name, func(t *testing.T) { checkOrder(t, c.weights, c.ops, c.order...) })
	}
}

// As floating-point numbers, a tenth and two tenths are more than three tenths.
func TestTagsAreRational(t *testing.T) {
	checkOrder(t, []int{10, 10}, []api.FlowOp{in(0, 1), in(0, 2), in(1, 3), out(), out()}, 0, 1)
	checkOrder(t, []int{10, 10}, []api.FlowOp{in(1, 1), in(1, 2), in(0, 3), out(), out()}, 0, 2)
	checkOrder(t, []int{3, 1}, append(ins(0, 1, 1, 1), in(1, 1), out(), out(), out()), 0, 1, 2)
	checkOrder(t, []int{1, 3}, append(ins(1, 1, 1, 1), in(0, 1), out(), out(), out()), 0, 1, 3)
	checkOrder(t, []int{1, 11}, append(append(ins(1, repeated(11, 1)...), in(0, 1)), outs(11)...), 0, 1, 2, 3, 4, 5, 6, 7, 8, 9, 11)
}

func TestAllWeightsAndSmallPackets(t *testing.T) {
	for i := range 12 * 12 * 24 * 24 {
		weights := []int{1 + i%12, 1 + i/12%12}
		ops := []api.FlowOp{in(0, 1+i/144%24), in(1, 1+i/144/24), out()}
		order := 0
		if ops[1].Bytes*weights[0] < ops[0].Bytes*weights[1] {
			order = 1
		}
		checkOrder(t, weights, ops, order)
		if t.Failed() {
			return
		}
	}
}

// The tags of two packets may differ by as little as 1/27720. Packets of the
// weights 5, 7, 8, 9 and 11 advance the virtual time close to the tag of a
// packet of flow 0, or of a last flow, that comes first.
func TestTagsCloseToEachOther(t *testing.T) {
	weights := []int{1, 5, 7, 8, 9, 11, 1}
	for _, c := range []struct {
		name        string
		tag         int
		sizes       []int
		first, last bool // whether it is sent before the fifth other packet
	}{
		{"1/27720 less", 2, []int{4, 3, 1, 5, 1}, true, true},
		{"equal", 5, []int{5, 7, 8, 9, 11}, true, false},
		{"1/27720 more", 3, []int{1, 4, 7, 4, 10}, false, false},
	} {
		for _, one := range []struct {
			flow   int
			before bool
		}{{0, c.first}, {6, c.last}} {
			ops := []api.FlowOp{in(one.flow, c.tag)}
			for i, size := range c.sizes {
				ops = append(ops, in(1+i, size), out())
			}
			order := []int{1, 3, 5, 7, 9}
			if one.before {
				order[4] = 0
			}
			t.Run(c.name, func(t *testing.T) { checkOrder(t, weights, ops, order...) })
		}
	}
}

func TestFlowIn(t *testing.T) {
	for _, size := range []int{1, 2, 1499, 1500} {
		checkPlay(t, []int{1, 12}, []api.FlowOp{in(1, size)}, result{oks(1), nil, []int{0, 1}, api.OK})
		checkOrder(t, []int{1, 12}, []api.FlowOp{in(1, size), out()}, 0)
	}
	checkPlay(t, []int{4, 5, 6}, slices.Concat(ins(2, 1, 2, 3), ins(0, 4)), result{oks(4), nil, []int{1, 0, 3}, api.OK})
	for flow := range 16 {
		waiting := make([]int, 16)
		waiting[flow] = 2
		checkPlay(t, repeated(16, 12), ins(flow, 1, 1500), result{oks(2), nil, waiting, api.OK})
	}
}

// No such flow comes before a size that is out of bounds.
func TestFlowInOfNoFlow(t *testing.T) {
	for n := range 17 {
		for _, flow := range slices.Concat([]int{n, n + 1, 17}, outside) {
			for _, size := range slices.Concat([]int{1, 1500}, wrongSizes) {
				checkPlay(t, repeated(n, 1), []api.FlowOp{in(flow, size)}, result{[]api.Errno{api.ErrNone}, nil, make([]int, n), api.OK})
			}
		}
	}
}

func TestFlowInOfWrongSize(t *testing.T) {
	for _, size := range wrongSizes {
		for flow := range 3 {
			checkPlay(t, []int{1, 2, 3}, []api.FlowOp{in(flow, size)}, result{[]api.Errno{api.ErrRange}, nil, []int{0, 0, 0}, api.OK})
		}
	}
}

func TestFlowOutWithoutPackets(t *testing.T) {
	none := []api.Errno{api.ErrNone}
	checkPlay(t, nil, outs(1), result{errs: none})
	checkPlay(t, []int{1, 2}, outs(1), result{none, nil, []int{0, 0}, api.OK})
	ops := []api.FlowOp{in(1, 5), out(), out(), in(0, 6), out(), out()}
	errs := []api.Errno{api.OK, api.OK, api.ErrNone, api.OK, api.OK, api.ErrNone}
	checkPlay(t, []int{1, 2}, ops, result{errs, sentIn(ops, 0, 3), []int{0, 0}, api.OK})
}

func TestFlowOutIgnoresOtherFields(t *testing.T) {
	for _, n := range slices.Concat([]int{0, 1, 2}, outside) {
		ignored := api.FlowOp{Kind: api.FlowOut, Flow: n, Bytes: n}
		checkOrder(t, []int{1, 2}, []api.FlowOp{in(0, 100), in(1, 150), ignored, ignored}, 1, 0)
		checkPlay(t, []int{1}, []api.FlowOp{ignored}, result{[]api.Errno{api.ErrNone}, nil, []int{0}, api.OK})
	}
}

func TestUnknownKinds(t *testing.T) {
	for _, kind := range wrongKinds {
		for _, op := range []api.FlowOp{{Kind: kind, Bytes: 5}, {Kind: kind, Flow: -1, Bytes: 5}, {Kind: kind}} {
			checkPlay(t, nil, []api.FlowOp{op}, result{errs: []api.Errno{api.ErrKind}})
			checkPlay(t, []int{3}, []api.FlowOp{op}, result{[]api.Errno{api.ErrKind}, nil, []int{0}, api.OK})
			ops := []api.FlowOp{in(0, 7), op, out()}
			checkPlay(t, []int{3}, ops, result{[]api.Errno{0, api.ErrKind, 0}, sentIn(ops, 0), []int{0}, api.OK})
		}
	}
}

// With an operation that has an error behind each other one, the result is the
// same. It would be another one if such a packet had changed the tag of its
// flow, or if the virtual time had been changed.
func TestOperationsWithAnErrorHaveNoEffect(t *testing.T) {
	weights := []int{1, 2}
	ops := []api.FlowOp{in(0, 100), in(1, 150), out(), in(1, 51), in(0, 1), out(), out(), out(), in(1, 100), in(0, 49), out(), out()}
	sent := sentIn(ops, 1, 0, 3, 4, 9, 8)
	checkPlay(t, weights, ops, result{oks(len(ops)), sent, []int{0, 0}, api.OK})
	for _, c := range []struct {
		wrong api.FlowOp
		err   api.Errno
	}{
		{in(0, 0), api.ErrRange},
		{in(1, 0), api.ErrRange},
		{in(0, -500), api.ErrRange},
		{in(1, -500), api.ErrRange},
		{in(0, 1501), api.ErrRange},
		{in(1, 1501), api.ErrRange},
		{in(2, 5), api.ErrNone},
		{in(-1, 5), api.ErrNone},
		{api.FlowOp{Kind: 0, Bytes: 5}, api.ErrKind},
		{api.FlowOp{Kind: 3, Flow: 1, Bytes: 5}, api.ErrKind},
	} {
		var more []api.FlowOp
		var errs []api.Errno
		for _, op := range ops {
			more = append(more, op, c.wrong)
			errs = append(errs, api.OK, c.err)
		}
		checkPlay(t, weights, more, result{errs, sent, []int{0, 0}, api.OK})
	}
	// A FlowOut has an error only if no packet is waiting.
	ops = []api.FlowOp{out(), in(0, 100), out(), out(), in(1, 120), in(0, 50), out(), out(), out()}
	errs := []api.Errno{api.ErrNone, 0, 0, api.ErrNone, 0, 0, 0, 0, api.ErrNone}
	checkPlay(t, []int{1, 2}, ops, result{errs, sentIn(ops, 1, 5, 4), []int{0, 0}, api.OK})
}

func TestWithoutOperations(t *testing.T) {
	for _, none := range [][]api.FlowOp{nil, {}} {
		checkPlay(t, nil, none, result{})
		checkPlay(t, []int{}, none, result{})
		checkPlay(t, []int{3, 4}, none, result{nil, nil, []int{0, 0}, api.OK})
		checkPlay(t, repeated(16, 12), none, result{nil, nil, repeated(16, 0), api.OK})
	}
}

func TestWithoutFlows(t *testing.T) {
	ops := []api.FlowOp{in(0, 5), out(), {}, in(0, 0), in(-1, 5)}
	errs := []api.Errno{api.ErrNone, api.ErrNone, api.ErrKind, api.ErrNone, api.ErrNone}
	checkPlay(t, nil, ops, result{errs: errs})
	checkPlay(t, []int{}, ops, result{errs: errs})
}

func TestAsManyOperationsAsAllowed(t *testing.T) {
	ops := slices.Repeat([]api.FlowOp{in(0, 1500)}, 400)
	checkPlay(t, []int{1}, ops, result{oks(400), nil, []int{400}, api.OK})
	copy(ops[200:], outs(200))
	sent := slices.Repeat([]api.Sent{{Bytes: 1500}}, 200)
	checkPlay(t, []int{1}, ops, result{oks(400), sent, []int{0}, api.OK})
	checkPlay(t, nil, make([]api.FlowOp, 400), result{errs: slices.Repeat([]api.Errno{api.ErrKind}, 400)})
}

func TestTooManyOperations(t *testing.T) {
	for _, n := range []int{401, 402, 1000} {
		for _, weights := range [][]int{nil, {1}, repeated(16, 12)} {
			for _, op := range []api.FlowOp{in(0, 5), out(), {}, in(-1, 5)} {
				checkPlay(t, weights, slices.Repeat([]api.FlowOp{op}, n), result{err: api.ErrRange})
			}
		}
	}
}

// The virtual time comes close to 300000, with the least common multiple of all
// weights as its denominator. However far it is, later packets are compared
// exactly.
func TestLargestTags(t *testing.T) {
	weights := []int{1, 5, 7, 8, 9, 11, 1}
	var ops []api.FlowOp
	var order []int
	send := func(flow, bytes int) {
		order = append(order, len(ops))
		ops = append(ops, in(flow, bytes), out())
	}
	for flow := 1; flow <= 5; flow++ {
		send(flow, 1)
	}
	for range 193 {
		send(0, 1500)
		n := len(ops)
		for _, c := range []struct {
			a, b  api.FlowOp
			first int
		}{
			{in(0, 2), in(5, 21), n + 1},
			{in(0, 2), in(5, 22), n},
			{in(0, 2), in(5, 23), n},
			{in(0, 1500), in(6, 1), n + 1},
			{in(0, 1), in(6, 1500), n},
		} {
			checkOrder(t, weights, slices.Concat(ops, []api.FlowOp{c.a, c.b, out()}), slices.Concat(order, []int{c.first})...)
		}
	}
}

// Many operations.

type tagged struct {
	packet api.Sent
	tag    *big.Rat
}

// plain follows the chapter with fractions of any size. It keeps the tags of all
// packets of a flow, and searches for the least one of all waiting packets.
func plain(weights []int, ops []api.FlowOp) result {
	want := result{errs: make([]api.Errno, len(ops)), waiting: make([]int, len(weights))}
	tags := make([][]*big.Rat, len(weights))
	now := new(big.Rat)
	var waiting []tagged
	for i, op := range ops {
		switch {
		case op.Kind == 1 && (op.Flow < 0 || op.Flow >= len(weights)):
			want.errs[i] = api.ErrNone
		case op.Kind == 1 && (op.Bytes < 1 || op.Bytes > 1500):
			want.errs[i] = api.ErrRange
		case op.Kind == 1:
			tag := now
			if n := len(tags[op.Flow]); n > 0 && tags[op.Flow][n-1].Cmp(now) > 0 {
				tag = tags[op.Flow][n-1]
			}
			tag = new(big.Rat).Add(tag, big.NewRat(int64(op.Bytes), int64(weights[op.Flow])))
			tags[op.Flow] = append(tags[op.Flow], tag)
			waiting = append(waiting, tagged{api.Sent{Flow: op.Flow, Bytes: op.Bytes}, tag})
		case op.Kind == 2 && len(waiting) == 0:
			want.errs[i] = api.ErrNone
		case op.Kind == 2:
			slices.SortStableFunc(waiting, func(a, b tagged) int {
				if c := a.tag.Cmp(b.tag); c != 0 {
					return c
				}
				return a.packet.Flow - b.packet.Flow
			})
			now = waiting[0].tag
			want.sent = append(want.sent, waiting[0].packet)
			waiting = waiting[1:]
		default:
			want.errs[i] = api.ErrKind
		}
	}
	for _, one := range waiting {
		want.waiting[one.packet.Flow]++
	}
	return want
}

func randomWeights(r *rand.Rand, n int) []int {
	weights := make([]int, n)
	for i := range weights {
		weights[i] = 1 + r.Intn(12)
	}
	return weights
}

// randomOps returns operations of which some are wrong. The sizes are mostly
// small or alike, so that tags are often equal.
func randomOps(r *rand.Rand, flows, n int) []api.FlowOp {
	wrong := []api.FlowOp{in(0, 0), in(0, 1501), in(0, -7), in(-1, 5), in(flows, 5), {Kind: 0, Bytes: 9}, {Kind: 3, Bytes: 9}}
	largest := []int{3, 24, 1500}[r.Intn(3)]
	gone := 2 + r.Intn(6) // of ten operations
	ops := make([]api.FlowOp, n)
	for i := range ops {
		switch {
		case r.Intn(20) == 0:
			ops[i] = wrong[r.Intn(len(wrong))]
		case r.Intn(10) < gone:
			ops[i] = api.FlowOp{Kind: api.FlowOut, Flow: r.Intn(20), Bytes: r.Intn(2000)}
		default:
			ops[i] = in(r.Intn(max(1, flows)), 1+r.Intn(largest))
		}
	}
	return ops
}

func TestAgainstThePlainOne(t *testing.T) {
	r := rand.New(rand.NewSource(15))
	done, left := 0, 0
	for range 2500 {
		weights := randomWeights(r, r.Intn([]int{4, 17}[r.Intn(2)]))
		ops := randomOps(r, len(weights), r.Intn([]int{30, 120, 401}[r.Intn(3)]))
		want := plain(weights, ops)
		checkPlay(t, weights, ops, want)
		if t.Failed() {
			return
		}
		if slices.ContainsFunc(want.waiting, func(n int) bool { return n > 0 }) {
			left++
		} else {
			done++
		}
	}
	if min(done, left) < 300 {
		t.Errorf("all packets are sent %d times, and some wait %d times", done, left)
	}
}

// All lists of six operations of two flows, with packets of one or two bytes.
func TestFewOperationsAgainstThePlainOne(t *testing.T) {
	kinds := []api.FlowOp{in(0, 1), in(0, 2), in(1, 1), in(1, 2), out()}
	for i := range 5 * 5 * 5 * 5 * 5 * 5 {
		ops := outs(10)
		for j, rest := 0, i; j < 6; j, rest = j+1, rest/5 {
			ops[j] = kinds[rest%5]
		}
		for _, weights := range [][]int{{1, 1}, {1, 2}, {3, 2}} {
			checkPlay(t, weights, ops, plain(weights, ops))
		}
		if t.Failed() {
			return
		}
	}
}

// pair watches two flows: by how many bytes for its weight, multiplied by both
// weights, the first one is ahead of the second one since both have packets.
type pair struct {
	i, j, ahead, least, most int
}

func (p *pair) restart() { p.ahead, p.least, p.most = 0, 0, 0 }

func (p *pair) count(sent api.Sent, weights []int) {
	switch sent.Flow {
	case p.i:
		p.ahead += sent.Bytes * weights[p.j]
	case p.j:
		p.ahead -= sent.Bytes * weights[p.i]
	}
	p.least, p.most = min(p.least, p.ahead), max(p.most, p.ahead)
}

// Flows share in proportion to their weights: as long as packets of two flows
// wait, the bytes for its weight that one of them sends differ from those of the
// other one by at most a largest packet for its weight of each.
func TestFairUpToOnePacketOfEach(t *testing.T) {
	r := rand.New(rand.NewSource(16))
	compared := 0
	for range 1500 {
		weights := randomWeights(r, 2+r.Intn(3))
		ops := randomOps(r, len(weights), 100+r.Intn(301))
		errs, sent, _, err := Play(weights, ops)
		if err != api.OK {
			t.Fatalf("Play(%v, %v) gives error %d", weights, ops, err)
		}
		p := pair{i: 0, j: 1 + r.Intn(len(weights)-1)}
		waiting, largest := make([]int, len(weights)), make([]int, len(weights))
		for k, op := range ops {
			if errs[k] == api.OK && op.Kind == api.FlowIn {
				waiting[op.Flow]++
				largest[op.Flow] = max(largest[op.Flow], op.Bytes)
			}
			if errs[k] != api.OK || op.Kind == api.FlowIn {
				continue
			}
			if waiting[p.i] > 0 && waiting[p.j] > 0 {
				p.count(sent[0], weights)
				compared++
			} else {
				p.restart()
			}
			waiting[sent[0].Flow]--
			sent = sent[1:]
			if p.most-p.least > largest[p.i]*weights[p.j]+largest[p.j]*weights[p.i] {
				t.Fatalf("Play(%v, %v): flow %d is ahead of flow %d by %d and then by %d", weights, ops[:k+1], p.i, p.j, p.least, p.most)
			}
		}
	}
	if compared < 10000 {
		t.Errorf("two flows have packets at only %d operations", compared)
	}
}

// AA1 and AA2: no state is kept, arguments are left as they are with the spare
// capacity behind them, and results are new memory.

// spoil changes all of the memory of a result.
func spoil(got result) {
	for i := range got.errs[:cap(got.errs)] {
		got.errs[:cap(got.errs)][i] = -7
	}
	for i := range got.sent[:cap(got.sent)] {
		got.sent[:cap(got.sent)][i] = api.Sent{Flow: -7, Bytes: -7}
	}
	for i := range got.waiting[:cap(got.waiting)] {
		got.waiting[:cap(got.waiting)][i] = -7
	}
}

func TestCallsAreIndependent(t *testing.T) {
	weights, ops := []int{1, 2}, []api.FlowOp{in(0, 100), in(1, 150), in(0, 0), out()}
	want := result{[]api.Errno{0, 0, api.ErrRange, 0}, sentIn(ops, 1), []int{1, 0}, api.OK}
	for range 3 {
		spoil(play(weights, ops))
		checkPlay(t, weights, ops, want)
		checkPlay(t, weights, outs(1), result{[]api.Errno{api.ErrNone}, nil, []int{0, 0}, api.OK})
		checkPlay(t, weights, outs(401), result{err: api.ErrRange})
		checkError(t, []int{1, 0})
	}
}

func TestResultsAreNewMemory(t *testing.T) {
	weights, ops := []int{1, 2}, []api.FlowOp{in(0, 100), in(1, 150), out()}
	want := result{oks(3), sentIn(ops, 1), []int{1, 0}, api.OK}
	got := play(weights, ops)
	clear(weights)
	clear(ops)
	if !same(got, want) {
		t.Errorf("the result is %v after a change of the arguments, want %v", got, want)
	}
}

func TestArgumentsAreLeft(t *testing.T) {
	weights := []int{1, 2, 0, 7}
	ops := []api.FlowOp{in(0, 100), in(1, 150), out(), in(-1, 0), {Kind: 9, Flow: 9, Bytes: 9}}
	weightsBefore, opsBefore := slices.Clone(weights), slices.Clone(ops)
	for range 2 {
		checkPlay(t, weights[:2], ops[:3], result{oks(3), sentIn(ops, 1), []int{1, 0}, api.OK})
		checkPlay(t, weights[:2], ops[:4], result{[]api.Errno{0, 0, 0, api.ErrNone}, sentIn(ops, 1), []int{1, 0}, api.OK})
		spoil(play(weights[:2], ops[:3]))
		checkError(t, weights[:3])
	}
	if !slices.Equal(weights, weightsBefore) || !slices.Equal(ops, opsBefore) {
		t.Errorf("the weights are %v and the operations %v after the calls", weights, ops)
	}
}
