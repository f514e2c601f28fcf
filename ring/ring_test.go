package ring

import (
	"math"
	"math/rand"
	"slices"
	"testing"

	"weirhouse/api"
)

func in(n int) api.QueueOp { return api.QueueOp{Kind: api.QueueIn, N: n} }

func out() api.QueueOp { return api.QueueOp{Kind: api.QueueOut} }

// holding returns a queue for 5 packets and 6000 bytes.
func holding(sizes ...int) api.Queue { return api.Queue{Has: sizes, Most: 5, MostBytes: 6000} }

// full returns a valid queue with n packets of the largest size, whose limits
// allow no more.
func full(n int) api.Queue {
	return api.Queue{Has: slices.Repeat([]int{1500}, n), Most: n, MostBytes: n * 1500}
}

// with returns a changed copy of q.
func with(q api.Queue, change func(q *api.Queue)) api.Queue {
	q.Has = slices.Clone(q.Has)
	change(&q)
	return q
}

func same(a, b api.Queue) bool {
	return slices.Equal(a.Has, b.Has) &&
		a.Most == b.Most && a.MostBytes == b.MostBytes && a.Drops == b.Drops
}

func checkStep(t *testing.T, q api.Queue, o api.QueueOp, want api.Queue, number int, err api.Errno) {
	t.Helper()
	got, gotNumber, gotErr := Step(q, o)
	if !same(got, want) || gotNumber != number || gotErr != err {
		t.Errorf("Step(%+v, %+v) = %+v, %d, %d, want %+v, %d, %d", q, o, got, gotNumber, gotErr, want, number, err)
	}
}

func checkPlay(t *testing.T, most, bytes int, ops []api.QueueOp, removed []int, want api.Queue, err api.Errno) {
	t.Helper()
	gotRemoved, got, gotErr := Play(most, bytes, ops)
	if !slices.Equal(gotRemoved, removed) || !same(got, want) || gotErr != err {
		t.Errorf("Play(%d, %d, %v) = %v, %+v, %d, want %v, %+v, %d", most, bytes, ops, gotRemoved, got, gotErr, removed, want, err)
	}
}

// H1: Right.

// validity lists queues and whether they are valid.
var validity = []struct {
	name  string
	q     api.Queue
	valid bool
}{
	{"zero", api.Queue{}, true},
	{"no packets, but not nil", api.Queue{Has: []int{}}, true},
	{"some packets", holding(1, 1500, 700), true},
	{"all at its greatest", with(full(400), func(q *api.Queue) { q.MostBytes, q.Drops = 1<<30, 1<<40 }), true},

	{"Most 400", api.Queue{Most: 400}, true},
	{"Most 401", api.Queue{Most: 401}, false},
	{"Most -1", api.Queue{Most: -1}, false},
	{"Most least", api.Queue{Most: math.MinInt}, false},
	{"Most greatest", api.Queue{Most: math.MaxInt}, false},
	{"MostBytes 2^30", api.Queue{MostBytes: 1 << 30}, true},
	{"MostBytes 2^30 + 1", api.Queue{MostBytes: 1<<30 + 1}, false},
	{"MostBytes -1", api.Queue{MostBytes: -1}, false},
	{"MostBytes least", api.Queue{MostBytes: math.MinInt}, false},
	{"MostBytes greatest", api.Queue{MostBytes: math.MaxInt}, false},
	{"Drops 2^40", api.Queue{Drops: 1 << 40}, true},
	{"Drops 2^40 + 1", api.Queue{Drops: 1<<40 + 1}, false},
	{"Drops -1", api.Queue{Drops: -1}, false},
	{"Drops least", api.Queue{Drops: math.MinInt}, false},
	{"Drops greatest", api.Queue{Drops: math.MaxInt}, false},

	{"as many packets as allowed", api.Queue{Has: []int{5, 4}, Most: 2, MostBytes: 99}, true},
	{"a packet more than allowed", api.Queue{Has: []int{5, 4}, Most: 1, MostBytes: 99}, false},
	{"a packet where none is allowed", api.Queue{Has: []int{5}, Most: 0, MostBytes: 99}, false},
	{"as many bytes as allowed", api.Queue{Has: []int{5, 4}, Most: 9, MostBytes: 9}, true},
	{"a byte more than allowed", api.Queue{Has: []int{5, 4}, Most: 9, MostBytes: 8}, false},
	{"a byte where none is allowed", api.Queue{Has: []int{1}, Most: 9, MostBytes: 0}, false},
	{"400 packets", full(400), true},
	{"401 packets", full(401), false},
	{"400 packets, a byte too much", with(full(400), func(q *api.Queue) { q.MostBytes-- }), false},

	{"packet with 1 byte", holding(1), true},
	{"packet with 1500 bytes", holding(1500), true},
	{"packet with 0 bytes", holding(0), false},
	{"packet with 1501 bytes", holding(1501), false},
	{"packet with -1 bytes", holding(-1), false},
	{"first packet wrong", holding(0, 3, 3), false},
	{"middle packet wrong", holding(3, 1501, 3), false},
	{"last packet wrong", holding(3, 3, -1), false},
	{"the greatest packets, the sum of which wraps around", holding(math.MaxInt, math.MaxInt, 2), false},
	{"the least packets, the sum of which wraps around", holding(math.MinInt, math.MinInt), false},
}

func TestRight(t *testing.T) {
	for _, c := range validity {
		if got := Right(c.q); got != c.valid {
			t.Errorf("%s: Right = %t, want %t", c.name, got, c.valid)
		}
	}
}

// H1: Step.

func TestStepOfInvalidQueue(t *testing.T) {
	ops := []api.QueueOp{in(3), in(0), in(1501), out(), {Kind: 0}, {Kind: 3, N: 5}}
	for _, c := range validity {
		for _, o := range ops {
			got, number, err := Step(c.q, o)
			if (err == api.ErrForm) == c.valid {
				t.Errorf("%s: Step of %+v gives error %d", c.name, o, err)
			}
			if err != api.OK && (!same(got, api.Queue{}) || number != 0) {
				t.Errorf("%s: Step of %+v = %+v, %d with error %d", c.name, o, got, number, err)
			}
			if err == api.OK && !Right(got) {
				t.Errorf("%s: Step of %+v gives the invalid queue %+v", c.name, o, got)
			}
		}
	}
}

func TestIn(t *testing.T) {
	checkStep(t, holding(), in(1), holding(1), 1, api.OK)
	checkStep(t, holding(), in(1500), holding(1500), 1, api.OK)
	checkStep(t, holding(7, 9), in(8), holding(7, 9, 8), 1, api.OK)
	dropped := with(holding(7), func(q *api.Queue) { q.Drops = 1 << 40 })
	appended := with(dropped, func(q *api.Queue) { q.Has = append(q.Has, 8) })
	checkStep(t, dropped, in(8), appended, 1, api.OK) // it fits, so Drops does not matter
}

func TestInAtTheLimits(t *testing.T) {
	cases := []struct {
		name string
		q    api.Queue
		n    int
		fits bool
	}{
		{"the last packet", api.Queue{Has: []int{5}, Most: 2, MostBytes: 99}, 4, true},
		{"a packet too much", api.Queue{Has: []int{5}, Most: 1, MostBytes: 99}, 4, false},
		{"no packets allowed", api.Queue{Most: 0, MostBytes: 99}, 1, false},
		{"the last byte", api.Queue{Has: []int{5}, Most: 9, MostBytes: 9}, 4, true},
		{"a byte too much", api.Queue{Has: []int{5}, Most: 9, MostBytes: 9}, 5, false},
		{"no bytes left", api.Queue{Has: []int{5, 4}, Most: 9, MostBytes: 9}, 1, false},
		{"no bytes allowed", api.Queue{Most: 9, MostBytes: 0}, 1, false},
		{"the last packet and byte", api.Queue{Has: []int{5}, Most: 2, MostBytes: 9}, 4, true},
		{"packet 400", with(full(399), func(q *api.Queue) { q.Most, q.MostBytes = 400, 1<<30 }), 1500, true},
		{"packet 401", with(full(400), func(q *api.Queue) { q.MostBytes = 1 << 30 }), 1, false},
	}
	for _, c := range cases {
		for _, drops := range []int{0, 7, 1<<40 - 1} {
			q := with(c.q, func(q *api.Queue) { q.Drops = drops })
			if c.fits {
				want := with(q, func(q *api.Queue) { q.Has = append(q.Has, c.n) })
				checkStep(t, q, in(c.n), want, 1, api.OK)
			} else {
				want := with(q, func(q *api.Queue) { q.Drops++ })
				checkStep(t, q, in(c.n), want, 0, api.OK)
			}
			if t.Failed() {
				t.Fatalf("%s, %d drops", c.name, drops)
			}
		}
	}
}

func TestInWhereDropsCannotIncrease(t *testing.T) {
	tooLong := api.Queue{Has: []int{5}, Most: 1, MostBytes: 99, Drops: 1 << 40}
	checkStep(t, tooLong, in(4), api.Queue{}, 0, api.ErrFull)
	tooLarge := api.Queue{Has: []int{5}, Most: 9, MostBytes: 9, Drops: 1 << 40}
	checkStep(t, tooLarge, in(5), api.Queue{}, 0, api.ErrFull)
	checkStep(t, api.Queue{Drops: 1 << 40}, in(1), api.Queue{}, 0, api.ErrFull)
	// The range comes first.
	checkStep(t, tooLong, in(0), api.Queue{}, 0, api.ErrRange)
	checkStep(t, tooLarge, in(1501), api.Queue{}, 0, api.ErrRange)
}

func TestInOfWrongSize(t *testing.T) {
	roomy := api.Queue{Most: 400, MostBytes: 1 << 30}
	crowded := api.Queue{Has: []int{5}, Most: 1, MostBytes: 5}
	for _, n := range []int{0, -1, -1500, 1501, 1 << 30, 1<<32 + 1, math.MaxInt, math.MinInt} {
		checkStep(t, roomy, in(n), api.Queue{}, 0, api.ErrRange)
		checkStep(t, crowded, in(n), api.Queue{}, 0, api.ErrRange)
	}
}

func TestOut(t *testing.T) {
	checkStep(t, holding(7), out(), holding(), 7, api.OK)
	checkStep(t, holding(7, 9, 8), out(), holding(9, 8), 7, api.OK)
	checkStep(t, holding(1500, 1, 1500), out(), holding(1, 1500), 1500, api.OK)
	dropped := with(holding(7, 9), func(q *api.Queue) { q.Drops = 1 << 40 })
	checkStep(t, dropped, out(), with(dropped, func(q *api.Queue) { q.Has = q.Has[1:] }), 7, api.OK)
	left := with(full(400), func(q *api.Queue) { q.Has = q.Has[1:] })
	checkStep(t, full(400), out(), left, 1500, api.OK)
}

func TestOutOfEmptyQueue(t *testing.T) {
	for _, q := range []api.Queue{{}, {Has: []int{}}, holding(), {Most: 400, MostBytes: 1 << 30, Drops: 1 << 40}} {
		checkStep(t, q, out(), api.Queue{}, 0, api.ErrNone)
	}
}

func TestOutIgnoresN(t *testing.T) {
	for _, n := range []int{0, -1, 8, 1501, math.MaxInt, math.MinInt} {
		o := api.QueueOp{Kind: api.QueueOut, N: n}
		checkStep(t, holding(7, 9), o, holding(9), 7, api.OK)
		checkStep(t, holding(), o, api.Queue{}, 0, api.ErrNone)
	}
}

func TestUnknownKinds(t *testing.T) {
	for _, kind := range []int{0, 3, -1, 257, 258, 1<<32 + 1, math.MaxInt, math.MinInt} {
		for _, n := range []int{0, 5, 1501} {
			o := api.QueueOp{Kind: kind, N: n}
			checkStep(t, holding(7), o, api.Queue{}, 0, api.ErrKind)
			checkStep(t, holding(), o, api.Queue{}, 0, api.ErrKind)
			checkStep(t, api.Queue{Drops: 1 << 40}, o, api.Queue{}, 0, api.ErrKind)
			checkStep(t, api.Queue{Drops: -1}, o, api.Queue{}, 0, api.ErrForm)
		}
	}
}

// H2: Play.

func TestExampleOfTheChapter(t *testing.T) {
	ops := []api.QueueOp{in(60), in(50), in(40)}
	want := api.Queue{Has: []int{60, 40}, Most: 3, MostBytes: 100, Drops: 1}
	checkPlay(t, 3, 100, ops, nil, want, api.OK)
	want.Has = nil
	checkPlay(t, 3, 100, append(ops, out(), out()), []int{60, 40}, want, api.OK)
}

func TestPlayWithoutOperations(t *testing.T) {
	for _, ops := range [][]api.QueueOp{nil, {}} {
		checkPlay(t, 3, 100, ops, nil, api.Queue{Most: 3, MostBytes: 100}, api.OK)
		checkPlay(t, 0, 0, ops, nil, api.Queue{}, api.OK)
		checkPlay(t, 400, 1<<30, ops, nil, api.Queue{Most: 400, MostBytes: 1 << 30}, api.OK)
	}
}

func TestPlayWithWrongLimits(t *testing.T) {
	lists := [][]api.QueueOp{nil, {in(5), in(6), out()}, {{Kind: 9}}}
	for _, wrong := range []int{-1, 1<<30 + 1, math.MaxInt, math.MinInt} {
		for _, ops := range lists {
			checkPlay(t, wrong, 5, ops, nil, api.Queue{}, api.ErrRange)
			checkPlay(t, 5, wrong, ops, nil, api.Queue{}, api.ErrRange)
			checkPlay(t, wrong, wrong, ops, nil, api.Queue{}, api.ErrRange)
			checkPlay(t, 401, 5, ops, nil, api.Queue{}, api.ErrRange)
		}
	}
}

func TestOperationsWithAnErrorHaveNoEffect(t *testing.T) {
	wrong := []api.QueueOp{in(0), in(1501), in(-1), in(math.MaxInt), {Kind: 0, N: 5}, {Kind: 3, N: 5}, {Kind: -1}}
	ops := append([]api.QueueOp{out()}, wrong...)
	checkPlay(t, 2, 100, ops, nil, api.Queue{Most: 2, MostBytes: 100}, api.OK)
	ops = append(append([]api.QueueOp{in(60), in(50)}, wrong...), in(40))
	want := api.Queue{Has: []int{60, 40}, Most: 2, MostBytes: 100, Drops: 1}
	checkPlay(t, 2, 100, ops, nil, want, api.OK)
	ops = append(append(ops, out(), out(), out(), out()), wrong...)
	want.Has = nil
	checkPlay(t, 2, 100, ops, []int{60, 40}, want, api.OK)
	ops = append(ops, in(100), in(1))
	want.Has, want.Drops = []int{100}, 2
	checkPlay(t, 2, 100, ops, []int{60, 40}, want, api.OK)
}

func TestRemovedPacketsMakeRoom(t *testing.T) {
	ops := []api.QueueOp{in(3), in(4), out(), in(4), in(3), out(), in(3)}
	checkPlay(t, 2, 99, ops, []int{3, 4}, api.Queue{Has: []int{4, 3}, Most: 2, MostBytes: 99, Drops: 1}, api.OK)
	checkPlay(t, 9, 8, ops, []int{3, 4}, api.Queue{Has: []int{4, 3}, Most: 9, MostBytes: 8, Drops: 1}, api.OK)
}

// plainPlay follows the chapter with a queue that is copied and counted anew
// for every operation.
func plainPlay(most, bytes int, ops []api.QueueOp) (removed []int, q api.Queue) {
	q = api.Queue{Most: most, MostBytes: bytes}
	for _, o := range ops {
		longer := append(slices.Clone(q.Has), o.N)
		sum := 0
		for _, size := range longer {
			sum += size
		}
		switch {
		case o.Kind == 1 && (o.N < 1 || o.N > 1500):
		case o.Kind == 1 && len(longer) <= most && sum <= bytes:
			q.Has = longer
		case o.Kind == 1:
			q.Drops++
		case o.Kind == 2 && len(q.Has) > 0:
			removed = append(removed, q.Has[0])
			q.Has = slices.Clone(q.Has[1:])
		}
	}
	return removed, q
}

func randomOps(r *rand.Rand, n int) []api.QueueOp {
	sizes := []int{1, 2, 1499, 1500}
	wrong := []api.QueueOp{in(0), in(1501), in(-7), {Kind: 0, N: 9}, {Kind: 3, N: 9}}
	ops := make([]api.QueueOp, n)
	for i := range ops {
		switch r.Intn(20) {
		case 0:
			ops[i] = wrong[r.Intn(len(wrong))]
		case 1, 2, 3, 4, 5, 6, 7:
			ops[i] = api.QueueOp{Kind: api.QueueOut, N: r.Intn(2000)}
		case 8, 9:
			ops[i] = in(sizes[r.Intn(len(sizes))])
		default:
			ops[i] = in(1 + r.Intn(1500))
		}
	}
	return ops
}

// Step, operation by operation, must do what Play does.
func stepThrough(t *testing.T, most, bytes int, ops []api.QueueOp) (removed []int, q api.Queue) {
	t.Helper()
	q = api.Queue{Most: most, MostBytes: bytes}
	for _, o := range ops {
		next, number, err := Step(q, o)
		if err != api.OK {
			continue
		}
		if !Right(next) {
			t.Fatalf("Step(%+v, %+v) = %+v, which is not valid", q, o, next)
		}
		if o.Kind == api.QueueOut {
			removed = append(removed, number)
		} else if (number == 1) != (len(next.Has) == len(q.Has)+1) || (number == 0) != (next.Drops == q.Drops+1) {
			t.Fatalf("Step(%+v, %+v) = %+v, %d", q, o, next, number)
		}
		q = next
	}
	return removed, q
}

func TestAgainstThePlainOne(t *testing.T) {
	r := rand.New(rand.NewSource(8))
	dropped, emptied := 0, 0
	for round := range 2000 {
		most := []int{r.Intn(4), r.Intn(20), 400}[round%3]
		bytes := []int{r.Intn(3000), r.Intn(20000), 1 << 30}[r.Intn(3)]
		ops := randomOps(r, r.Intn(150))
		removed, q := plainPlay(most, bytes, ops)
		checkPlay(t, most, bytes, ops, removed, q, api.OK)
		stepRemoved, stepQueue := stepThrough(t, most, bytes, ops)
		if !slices.Equal(stepRemoved, removed) || !same(stepQueue, q) {
			t.Errorf("Step gives %v, %+v for %v, want %v, %+v", stepRemoved, stepQueue, ops, removed, q)
		}
		if t.Failed() {
			return
		}
		if q.Drops > 0 {
			dropped++
		}
		if len(q.Has) == 0 {
			emptied++
		}
	}
	if dropped < 200 || emptied < 100 {
		t.Errorf("only %d runs drop packets, and %d end with an empty queue", dropped, emptied)
	}
}

// The number of operations has no limit, and a full queue does not slow them
// down.
func TestManyOperations(t *testing.T) {
	const n = 1_000_000
	ops := slices.Repeat([]api.QueueOp{in(1)}, 400)
	for i := range n {
		ops = append(ops, in(1+i%1500), out(), in(1+i%1500))
	}
	removed, q, err := Play(400, 1<<30, ops)
	if err != api.OK || len(removed) != n || len(q.Has) != 400 || q.Drops != n {
		t.Fatalf("Play removes %d, leaves %d and drops %d packets, error %d", len(removed), len(q.Has), q.Drops, err)
	}
	for i := range n {
		want := 1
		if i >= 400 {
			want = 1 + (i-400)%1500
		}
		if removed[i] != want {
			t.Fatalf("packet %d has %d bytes, want %d", i, removed[i], want)
		}
	}
}

// AA1 and AA2: no state is kept, arguments are left as they are with the spare
// capacity behind them, and results are new memory.

func TestCallsAreIndependent(t *testing.T) {
	ops := []api.QueueOp{in(60), in(50), in(40), out()}
	want := api.Queue{Has: []int{40}, Most: 2, MostBytes: 100, Drops: 1}
	for range 3 {
		checkPlay(t, 2, 100, ops, []int{60}, want, api.OK)
	}
}

func TestStepLeavesTheQueue(t *testing.T) {
	memory := []int{7, 9, 8, -5, 9999}
	before := slices.Clone(memory)
	q := holding(memory[:3]...)
	checkStep(t, q, in(6), holding(7, 9, 8, 6), 1, api.OK)
	checkStep(t, q, out(), holding(9, 8), 7, api.OK)
	checkStep(t, q, in(0), api.Queue{}, 0, api.ErrRange)
	full := api.Queue{Has: memory[:3], Most: 3, MostBytes: 99}
	checkStep(t, full, in(6), api.Queue{Has: before[:3], Most: 3, MostBytes: 99, Drops: 1}, 0, api.OK)
	if !slices.Equal(memory, before) || !same(q, holding(before[:3]...)) {
		t.Errorf("the queue is %+v in %v after the calls", q, memory)
	}
}

func TestStepReturnsNewMemory(t *testing.T) {
	for _, o := range []api.QueueOp{in(6), out(), in(1500)} {
		memory := []int{7, 9, 8, 1, 2}
		before := slices.Clone(memory)
		got, _, err := Step(api.Queue{Has: memory[:3], Most: 4, MostBytes: 30}, o)
		if err != api.OK {
			t.Fatalf("Step of %+v gives error %d", o, err)
		}
		for i := range got.Has {
			got.Has[i] = -1
		}
		_ = append(got.Has, -2, -3)
		if !slices.Equal(memory, before) {
			t.Errorf("the argument's packets are %v after the result of %+v was overwritten, want %v", memory, o, before)
		}
	}
}

func TestPlayLeavesTheOperations(t *testing.T) {
	ops := []api.QueueOp{in(60), in(50), out(), in(40), in(0), out(), in(9)}
	before := slices.Clone(ops)
	want := api.Queue{Has: []int{40}, Most: 2, MostBytes: 100, Drops: 1}
	checkPlay(t, 2, 100, ops[:4], []int{60}, want, api.OK)
	if !slices.Equal(ops, before) {
		t.Errorf("the operations are %v after the call, want %v", ops, before)
	}
}

func TestPlayResultsShareNoMemory(t *testing.T) {
	ops := []api.QueueOp{in(60), in(50), in(40), in(30), out(), out()}
	removed, q, _ := Play(9, 999, ops)
	removed[0], removed[1] = -1, -2
	_ = append(removed, -3, -4, -5)
	if !slices.Equal(q.Has, []int{40, 30}) {
		t.Errorf("the remaining packets are %v after the removed ones were overwritten, want [40 30]", q.Has)
	}
	q.Has[0] = -6
	_ = append(q.Has, -7, -8)
	if !slices.Equal(removed, []int{-1, -2}) {
		t.Errorf("the removed packets are %v after the remaining ones were overwritten", removed)
	}
}
