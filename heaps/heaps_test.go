package heaps

import (
	"math"
	"math/rand"
	"slices"
	"testing"

	"weirhouse/api"
	"weirhouse/wide"
)

const most = math.MaxUint64

func push(id int, lo uint64) api.HeapOp { return pushWide(id, api.Wide{Lo: lo}) }

func pushWide(id int, key api.Wide) api.HeapOp {
	return api.HeapOp{Kind: api.HeapPush, Id: id, Key: key}
}

func pop() api.HeapOp { return api.HeapOp{Kind: api.HeapPop} }

func remove(id int) api.HeapOp { return api.HeapOp{Kind: api.HeapRemove, Id: id} }

func update(id int, lo uint64) api.HeapOp {
	return api.HeapOp{Kind: api.HeapUpdate, Id: id, Key: api.Wide{Lo: lo}}
}

// oks returns n codes without an error.
func oks(n int) []api.Errno { return make([]api.Errno, n) }

func check(t *testing.T, ops []api.HeapOp, errs []api.Errno, popped, left []int) {
	t.Helper()
	gotErrs, gotPopped, gotLeft := Play(ops)
	if !slices.Equal(gotErrs, errs) {
		t.Errorf("Play(%v): codes %v, want %v", ops, gotErrs, errs)
	}
	if !slices.Equal(gotPopped, popped) {
		t.Errorf("Play(%v): popped %v, want %v", ops, gotPopped, popped)
	}
	if !slices.Equal(gotLeft, left) {
		t.Errorf("Play(%v): remaining %v, want %v", ops, gotLeft, left)
	}
}

// C1: operations.

func TestNoOperations(t *testing.T) {
	check(t, nil, nil, nil, nil)
	check(t, []api.HeapOp{}, nil, nil, nil)
}

func TestExample(t *testing.T) {
	ops := []api.HeapOp{push(1, 9), push(2, 3), push(3, most), pop()}
	check(t, ops, oks(4), []int{2}, []int{1, 3})
}

func TestPopsInOrderOfKeys(t *testing.T) {
	ops := []api.HeapOp{push(1, 50), push(2, 20), push(3, 40), pop(), push(4, 10), push(5, 30), pop(), pop()}
	check(t, ops, oks(8), []int{2, 4, 5}, []int{3, 1})
}

func TestKeysAreComparedWhole(t *testing.T) {
	ops := []api.HeapOp{
		pushWide(1, api.Wide{Hi: most, Lo: most}),
		pushWide(2, api.Wide{Hi: 1 << 63}),
		pushWide(3, api.Wide{Hi: 1<<63 - 1, Lo: most}),
		pushWide(4, api.Wide{Hi: 1}),
		pushWide(5, api.Wide{Lo: most}),
		pushWide(6, api.Wide{Lo: 1 << 63}),
		pushWide(7, api.Wide{Lo: 1}),
		pushWide(8, api.Wide{Hi: 1, Lo: 1}),
		pushWide(9, api.Wide{}),
	}
	check(t, ops, oks(9), nil, []int{9, 7, 6, 5, 4, 8, 3, 2, 1})
}

func TestEqualKeysAreOrderedById(t *testing.T) {
	ops := []api.HeapOp{
		push(4, 7), push(math.MaxInt, 7), push(-3, 7), push(0, 7), push(math.MinInt, 7), push(-1, 7),
		pop(), pop(),
	}
	check(t, ops, oks(8), []int{math.MinInt, -3}, []int{-1, 0, 4, math.MaxInt})
}

func TestPushOfPresentId(t *testing.T) {
	ops := []api.HeapOp{push(1, 5), push(2, 6), push(2, 6), push(2, 1), push(1, 9)}
	errs := []api.Errno{api.OK, api.OK, api.ErrHeld, api.ErrHeld, api.ErrHeld}
	check(t, ops, errs, nil, []int{1, 2})
}

func TestIdCanReturn(t *testing.T) {
	check(t, []api.HeapOp{push(1, 5), pop(), push(1, 6), pop()}, oks(4), []int{1, 1}, nil)
	check(t, []api.HeapOp{push(1, 5), push(2, 6), remove(1), push(1, 7)}, oks(4), nil, []int{2, 1})
	ops := []api.HeapOp{push(1, 5), pop(), update(1, 6), remove(1)}
	check(t, ops, []api.Errno{api.OK, api.OK, api.ErrNone, api.ErrNone}, []int{1}, nil)
}

func TestPopOfEmptyQueue(t *testing.T) {
	ops := []api.HeapOp{pop(), push(1, 5), pop(), pop(), push(2, 6)}
	errs := []api.Errno{api.ErrNone, api.OK, api.OK, api.ErrNone, api.OK}
	check(t, ops, errs, []int{1}, []int{2})
}

func TestRemove(t *testing.T) {
	six := []api.HeapOp{push(1, 10), push(2, 20), push(3, 30), push(4, 40), push(5, 50), push(6, 60)}
	for id := 1; id <= 6; id++ {
		left := slices.DeleteFunc([]int{1, 2, 3, 4, 5, 6}, func(other int) bool { return other == id })
		check(t, append(slices.Clone(six), remove(id)), oks(7), nil, left)
	}
	ops := []api.HeapOp{remove(1), push(1, 5), remove(2), remove(1), remove(1), pop()}
	errs := []api.Errno{api.ErrNone, api.OK, api.ErrNone, api.OK, api.ErrNone, api.ErrNone}
	check(t, ops, errs, nil, nil)
}

// In a binary heap the last item takes the place of the removed one. Here that
// is 15, which then has to rise above 2.
func TestRemoveMovesAnItemUp(t *testing.T) {
	var ops []api.HeapOp
	for i, key := range []uint64{1, 10, 2, 11, 12, 20, 3, 13, 14, 15, 16, 22, 23, 24, 4} {
		ops = append(ops, push(i+1, key))
	}
	ops = append(ops, remove(4))
	check(t, ops, oks(16), nil, []int{1, 3, 7, 15, 2, 5, 8, 9, 10, 11, 6, 12, 13, 14})
}

func TestUpdate(t *testing.T) {
	three := []api.HeapOp{push(1, 10), push(2, 20), push(3, 30)}
	cases := []struct {
		op   api.HeapOp
		left []int
	}{
		{update(1, 25), []int{2, 1, 3}},
		{update(1, 40), []int{2, 3, 1}},
		{update(2, 20), []int{1, 2, 3}},
		{update(3, 15), []int{1, 3, 2}},
		{update(3, 0), []int{3, 1, 2}},
		// An equal key: the Ids decide.
		{update(1, 20), []int{1, 2, 3}},
		{update(3, 10), []int{1, 3, 2}},
	}
	for _, c := range cases {
		check(t, append(slices.Clone(three), c.op), oks(4), nil, c.left)
	}
	large := api.HeapOp{Kind: api.HeapUpdate, Id: 1, Key: api.Wide{Hi: 1}}
	check(t, append(slices.Clone(three), large, pop()), oks(5), []int{2}, []int{3, 1})
	absent := append(slices.Clone(three), update(4, 0), update(-1, 0))
	check(t, absent, append(oks(3), api.ErrNone, api.ErrNone), nil, []int{1, 2, 3})
	check(t, []api.HeapOp{update(1, 5)}, []api.Errno{api.ErrNone}, nil, nil)
}

func TestUnknownKinds(t *testing.T) {
	for _, kind := range []int{0, 5, -1, 257, 1<<32 + 1, math.MaxInt, math.MinInt} {
		bad := api.HeapOp{Kind: kind, Id: 1, Key: api.Wide{Lo: 99}}
		ops := []api.HeapOp{bad, push(1, 5), bad, push(2, 6), bad}
		errs := []api.Errno{api.ErrKind, api.OK, api.ErrKind, api.OK, api.ErrKind}
		check(t, ops, errs, nil, []int{1, 2})
	}
}

func TestUnusedFieldsAreIgnored(t *testing.T) {
	ops := []api.HeapOp{
		push(1, 5), push(2, 6), push(3, 7),
		{Kind: api.HeapPop, Id: 3, Key: api.Wide{Hi: most}},
		{Kind: api.HeapRemove, Id: 3, Key: api.Wide{Lo: 6}},
	}
	check(t, ops, oks(5), []int{1}, []int{2})
}

func TestInsertionOrderDoesNotMatter(t *testing.T) {
	ops := []api.HeapOp{push(1, 5), push(2, 3), push(3, 5), push(4, 0), push(5, most), push(6, 3)}
	permute(ops, 0, func(order []api.HeapOp) {
		check(t, order, oks(6), nil, []int{4, 2, 6, 1, 3, 5})
	})
}

// permute calls visit with every order of the operations from index at on.
func permute(ops []api.HeapOp, at int, visit func([]api.HeapOp)) {
	if at == len(ops) {
		visit(ops)
		return
	}
	for i := at; i < len(ops); i++ {
		ops[at], ops[i] = ops[i], ops[at]
		permute(ops, at+1, visit)
		ops[at], ops[i] = ops[i], ops[at]
	}
}

// sorted plays the operations on a slice that is searched and sorted anew for
// each of them.
func sorted(ops []api.HeapOp) (errs []api.Errno, popped, left []int) {
	var items []api.HeapOp
	for _, op := range ops {
		at := slices.IndexFunc(items, func(held api.HeapOp) bool { return held.Id == op.Id })
		err := api.OK
		switch {
		case op.Kind == api.HeapPush && at >= 0:
			err = api.ErrHeld
		case op.Kind == api.HeapPush:
			items = append(items, op)
		case op.Kind == api.HeapPop && len(items) > 0:
			popped = append(popped, items[0].Id)
			items = slices.Delete(items, 0, 1)
		case op.Kind == api.HeapRemove && at >= 0:
			items = slices.Delete(items, at, at+1)
		case op.Kind == api.HeapUpdate && at >= 0:
			items[at].Key = op.Key
		case op.Kind >= api.HeapPop && op.Kind <= api.HeapUpdate:
			err = api.ErrNone
		default:
			err = api.ErrKind
		}
		errs = append(errs, err)
		slices.SortFunc(items, func(a, b api.HeapOp) int {
			if order := wide.Cmp(a.Key, b.Key); order != 0 {
				return order
			}
			if a.Id < b.Id {
				return -1
			}
			return 1
		})
	}
	for _, held := range items {
		left = append(left, held.Id)
	}
	return errs, popped, left
}

// randomOps returns operations on Ids from -ids to ids. Their keys repeat, and
// more than half of the operations are pushes, so that the queue grows.
func randomOps(r *rand.Rand, n, ids int) []api.HeapOp {
	kinds := []int{0, 5, api.HeapPop, api.HeapPop, api.HeapRemove, api.HeapRemove, api.HeapUpdate, api.HeapUpdate}
	words := []uint64{0, 1, 2, most - 1, most}
	ops := make([]api.HeapOp, n)
	for i := range ops {
		ops[i] = pushWide(r.Intn(2*ids+1)-ids, api.Wide{Hi: words[r.Intn(5)], Lo: words[r.Intn(5)]})
		if r.Intn(100) < 45 {
			ops[i].Kind = kinds[r.Intn(len(kinds))]
		}
	}
	return ops
}

func TestAgainstASortedSlice(t *testing.T) {
	r := rand.New(rand.NewSource(3))
	for round := range 2000 {
		ops := randomOps(r, r.Intn(80), []int{2, 8, 40}[round%3])
		errs, popped, left := sorted(ops)
		check(t, ops, errs, popped, left)
		if t.Failed() {
			return
		}
	}
}

func TestManyOperations(t *testing.T) {
	const n = 100_000
	var ops []api.HeapOp
	for id := n; id > 0; id-- {
		ops = append(ops, push(id, uint64(id)))
	}
	for id := 1; id <= n; id += 2 {
		ops = append(ops, update(id, uint64(n+id)))
	}
	for range n / 2 {
		ops = append(ops, pop())
	}
	errs, popped, left := Play(ops)
	if !slices.Equal(errs, oks(len(ops))) || len(popped) != n/2 || len(left) != n/2 {
		t.Fatalf("%d popped and %d remaining, want %d of each and no errors", len(popped), len(left), n/2)
	}
	for i := range n / 2 {
		if popped[i] != 2*i+2 || left[i] != 2*i+1 {
			t.Fatalf("item %d: popped %d and remaining %d, want %d and %d", i, popped[i], left[i], 2*i+2, 2*i+1)
		}
	}
}

// AA1 and AA2: no state is kept, and the operations are left as they are, with
// the spare capacity behind them.

func TestCallsAreIndependent(t *testing.T) {
	check(t, []api.HeapOp{push(1, 5), push(2, 4)}, oks(2), nil, []int{2, 1})
	check(t, []api.HeapOp{pop(), push(1, 5)}, []api.Errno{api.ErrNone, api.OK}, nil, []int{1})
}

func TestOperationsAreNotModified(t *testing.T) {
	ops := []api.HeapOp{push(1, 5), push(2, 4), update(1, 3), pop(), remove(7), push(3, 0), pop()}
	before := slices.Clone(ops)
	check(t, ops[:4], oks(4), []int{1}, []int{2})
	if !slices.Equal(ops, before) {
		t.Errorf("the operations are %v after the call, want %v", ops, before)
	}
}

func TestResultsShareNoMemory(t *testing.T) {
	ops := []api.HeapOp{push(1, 5), push(2, 4), push(3, 3), pop()}
	_, popped, left := Play(ops)
	_ = append(popped, 77, 78, 79)
	if !slices.Equal(left, []int{2, 1}) {
		t.Errorf("the remaining Ids are %v after an append to the popped ones, want [2 1]", left)
	}
}
