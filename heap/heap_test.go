package heap_test

import (
	"math"
	"slices"
	"testing"

	"augury/api"
	"augury/heap"
)

const (
	leastInt    = math.MinInt
	greatestInt = math.MaxInt
	large       = math.MaxFloat64
	small       = math.SmallestNonzeroFloat64
)

var (
	nan   = math.NaN()
	inf   = math.Inf(1)
	minus = math.Copysign(0, -1) // -0
)

// made is a heap of n variables.
func made(t *testing.T, n int) *heap.Heap {
	t.Helper()
	h, e := heap.New(n)
	if e != api.OK || h == nil {
		t.Fatalf("New(%d): %d", n, e)
	}
	return h
}

// with is a heap of the variables 1, 2, .. with these scores. One of -0 comes
// to be 0.
func with(t *testing.T, scores ...float64) *heap.Heap {
	t.Helper()
	h := made(t, len(scores))
	for i, by := range scores {
		bump(t, h, i+1, by)
	}
	return h
}

func bump(t *testing.T, h *heap.Heap, v int, by float64) {
	t.Helper()
	if e := h.Bump(v, by); e != api.OK {
		t.Errorf("Bump(%d, %g) = %d", v, by, e)
	}
}

func scale(t *testing.T, h *heap.Heap, by float64) {
	t.Helper()
	if e := h.Scale(by); e != api.OK {
		t.Errorf("Scale(%g) = %d", by, e)
	}
}

func put(t *testing.T, h *heap.Heap, v int) {
	t.Helper()
	if e := h.Put(v); e != api.OK {
		t.Errorf("Put(%d) = %d", v, e)
	}
}

// pops reports what Pop answers, if it isn't these.
func pops(t *testing.T, h *heap.Heap, want ...int) {
	t.Helper()
	for i, w := range want {
		n := h.Len()
		if v, e := h.Pop(); v != w || e != api.OK || h.Has(w) || h.Len() != n-1 {
			t.Errorf("%d: Pop = %d, %d: want %d of %d", i, v, e, w, want)
		}
	}
}

// popsAll reports what Pop answers, if it isn't these, and then ErrNone.
func popsAll(t *testing.T, h *heap.Heap, want ...int) {
	t.Helper()
	if h.Len() != len(want) {
		t.Errorf("Len = %d: want %d", h.Len(), len(want))
	}
	pops(t, h, want...)
	empty(t, h)
}

// empty reports a heap that has something in it.
func empty(t *testing.T, h *heap.Heap) {
	t.Helper()
	for range 2 {
		if v, e := h.Pop(); v != 0 || e != api.ErrNone || h.Len() != 0 {
			t.Errorf("Pop = %d, %d; Len = %d: want 0, ErrNone; 0", v, e, h.Len())
		}
	}
}

// scores reports those of the variables 1, 2, .. that aren't these.
func scores(t *testing.T, h *heap.Heap, want ...float64) {
	t.Helper()
	for i, w := range want {
		if s := h.Score(i + 1); !same(s, w) {
			t.Errorf("Score(%d) = %g: want %g", i+1, s, w)
		}
	}
}

func TestExamples(t *testing.T) {
	h := made(t, 3)
	bump(t, h, 2, 1)
	pops(t, h, 2, 1)
	bump(t, h, 3, nan)
	popsAll(t, h, 3)
	if heap.Above(0, minus) || !heap.Above(-inf, nan) {
		t.Error("Above")
	}
}

func TestNew(t *testing.T) {
	for _, n := range []int{leastInt, leastInt + 1, -1000000, -2, -1, 1000001, 1000002, 1 << 31, 1<<32 + 1, greatestInt} {
		if h, e := heap.New(n); h != nil || e != api.ErrArg {
			t.Errorf("New(%d) = %v, %d", n, h, e)
		}
	}
	for _, n := range []int{0, 1, 2, 3, 4, 7, 1000, 999999, 1000000} {
		h := made(t, n)
		if h.Len() != n || h.Has(0) || h.Has(n+1) {
			t.Errorf("New(%d): Len = %d", n, h.Len())
		}
		for v := 1; v <= n; v++ {
			if !h.Has(v) || !same(h.Score(v), 0) {
				t.Fatalf("New(%d): Has(%d) = %t, Score = %g", n, v, h.Has(v), h.Score(v))
			}
		}
		for v := 1; v <= n; v++ {
			if w, e := h.Pop(); w != v || e != api.OK {
				t.Fatalf("New(%d): Pop = %d, %d: want %d", n, w, e, v)
			}
		}
		empty(t, h)
	}
}

// TestNothing: a heap of no variables is one.
func TestNothing(t *testing.T) {
	h := made(t, 0)
	for range 2 {
		empty(t, h)
		for _, v := range []int{leastInt, -1, 0, 1, 2, greatestInt} {
			if h.Bump(v, 1) != api.ErrArg || h.Put(v) != api.ErrArg || h.Has(v) || !same(h.Score(v), 0) {
				t.Errorf("of %d", v)
			}
		}
		scale(t, h, 2)
	}
}

func TestNone(t *testing.T) {
	for i, h := range []*heap.Heap{nil, {}} {
		for range 2 {
			for _, v := range []int{leastInt, -1, 0, 1, 2, 1000001, greatestInt} {
				for _, by := range []float64{0, 1, nan, -inf} {
					if e := h.Bump(v, by); e != api.ErrNil {
						t.Errorf("%d: Bump(%d, %g) = %d", i, v, by, e)
					}
				}
				if e := h.Put(v); e != api.ErrNil {
					t.Errorf("%d: Put(%d) = %d", i, v, e)
				}
				if h.Has(v) || !same(h.Score(v), 0) {
					t.Errorf("%d: Has, Score(%d) = %g", i, v, h.Score(v))
				}
			}
			for _, by := range []float64{0, 1, nan, inf} {
				if e := h.Scale(by); e != api.ErrNil {
					t.Errorf("%d: Scale(%g) = %d", i, by, e)
				}
			}
			if v, e := h.Pop(); v != 0 || e != api.ErrNil {
				t.Errorf("%d: Pop = %d, %d", i, v, e)
			}
			if n := h.Len(); n != 0 {
				t.Errorf("%d: Len = %d", i, n)
			}
		}
	}
}

// TestNoVariable: of numbers that no variable has; what is refused changes
// nothing.
func TestNoVariable(t *testing.T) {
	for _, n := range []int{1, 2, 5, 8} {
		h := made(t, n)
		bump(t, h, n, 3)
		pops(t, h, n)
		for _, v := range []int{leastInt, leastInt + 1, leastInt + n, -1<<32 + 1, -n, -1, 0, n + 1, n + 2, 2 * n, 1000000, 1<<32 + 1, greatestInt - n, greatestInt} {
			if v > 0 && v <= n {
				continue
			}
			for _, by := range []float64{0, 1, -1, inf, nan} {
				if e := h.Bump(v, by); e != api.ErrArg {
					t.Errorf("%d: Bump(%d, %g) = %d", n, v, by, e)
				}
			}
			if e := h.Put(v); e != api.ErrArg {
				t.Errorf("%d: Put(%d) = %d", n, v, e)
			}
			if h.Has(v) || !same(h.Score(v), 0) {
				t.Errorf("%d: Has, Score(%d) = %g", n, v, h.Score(v))
			}
			if h.Len() != n-1 || h.Has(n) || !same(h.Score(n), 3) {
				t.Errorf("%d: of %d: Len = %d, Score = %g", n, v, h.Len(), h.Score(n))
			}
		}
		scale(t, h, inf)
		if h.Has(0) || !same(h.Score(0), 0) || !same(h.Score(n+1), 0) {
			t.Errorf("%d: Score(0) = %g", n, h.Score(0))
		}
		// As their scores are 0 times an infinity, they come by their numbers.
		for v := 1; v < n; v++ {
			pops(t, h, v)
		}
		empty(t, h)
	}
}

// TestAbove: each two of a list that rises, in which those of a row are equal.
func TestAbove(t *testing.T) {
	rows := [][]float64{
		{nan, -nan, inf - inf, 0 * inf, math.Float64frombits(0xfff8000000000001), math.Float64frombits(0x7ff4000000000000)},
		{-inf, -large * inf},
		{-large},
		{-1 << 60},
		{-1.5},
		{-1},
		{math.Nextafter(-1, 0)},
		{-0x1p-1022},
		{-2 * small},
		{-small},
		{minus, 0, small / 2, -small / 2},
		{small},
		{0x1p-1022},
		{math.Nextafter(1, 0)},
		{1},
		{math.Nextafter(1, 2)},
		{1 << 53},
		{1<<53 + 2},
		{large},
		{inf, large * inf},
	}
	for i, row := range rows {
		for _, a := range row {
			for j, other := range rows {
				for _, b := range other {
					if heap.Above(a, b) != (i > j) {
						t.Errorf("Above(%g, %g): want %t", a, b, i > j)
					}
				}
			}
		}
	}
}

// act is a Bump of a variable, or a Scale, and what the variable's score is
// behind it.
type act struct {
	scale    bool
	by, want float64
}

func more(by, want float64) act  { return act{false, by, want} }
func times(by, want float64) act { return act{true, by, want} }

// TestScores: of a variable that is in the heap, and of one that is not.
func TestScores(t *testing.T) {
	for i, acts := range [][]act{
		{more(0, 0), more(minus, 0), more(1.5, 1.5), more(-4, -2.5), more(2.5, 0)},
		{times(1, 0), times(0, 0), times(-1, minus), more(minus, minus), times(3, minus), times(-1, 0)},
		{times(minus, minus), more(0, 0), times(minus, minus), times(minus, 0)},
		{more(3, 3), times(2, 6), times(-0.5, -3), times(0, minus), more(1, 1)},
		// Too great.
		{more(large, large), more(1, large), more(large, inf), more(-large, inf), times(0.5, inf), times(-1, -inf)},
		{more(-large, -large), more(-large, -inf), more(large, -inf), times(2, -inf)},
		{more(large, large), times(2, inf)},
		{more(large, large), times(-1.5, -inf)},
		{more(1e200, 1e200), times(1e200, inf)},
		// Too small.
		{more(small, small), times(0.5, 0), more(small, small), times(-0.5, minus)},
		{more(3*small, 3*small), times(0.5, 2*small), times(0.25, 0)},
		{more(1e-200, 1e-200), times(1e-200, 0), times(1e300, 0)},
		{more(-1e-200, -1e-200), times(1e-200, minus)},
		{more(0x1p-1022, 0x1p-1022), times(0.5, 0x1p-1023), more(-0x1p-1023, 0)},
		{more(1, 1), more(0x1p-53, 1), more(0x1p-52, math.Nextafter(1, 2)), more(-1, 0x1p-52)},
		{more(1<<53, 1<<53), more(1, 1<<53), more(3, 1<<53+4)},
		// Infinities.
		{more(inf, inf), more(1, inf), more(inf, inf), more(-inf, nan)},
		{more(-inf, -inf), more(large, -inf), more(inf, nan)},
		{more(inf, inf), times(0, nan)},
		{more(inf, inf), times(minus, nan)},
		{more(-inf, -inf), times(0, nan)},
		{times(inf, nan)},
		{times(-inf, nan)},
		{times(-1, minus), times(inf, nan)},
		{more(2, 2), times(inf, inf), times(-inf, -inf), times(-inf, inf)},
		{more(-small, -small), times(inf, -inf), times(small, -inf)},
		// What is no number stays so.
		{more(nan, nan), more(1, nan), more(-inf, nan), times(0, nan), times(inf, nan), more(nan, nan)},
		{times(nan, nan), more(5, nan)},
		{more(7, 7), times(nan, nan), times(0, nan)},
		{more(inf, inf), more(nan, nan)},
	} {
		h := made(t, 4)
		pops(t, h, 1)
		for j, a := range acts {
			if a.scale {
				scale(t, h, a.by)
			} else {
				bump(t, h, 1, a.by)
				bump(t, h, 3, a.by)
			}
			if !same(h.Score(1), a.want) || !same(h.Score(3), a.want) {
				t.Errorf("%d, %d: Score = %g, %g: want %g", i, j, h.Score(1), h.Score(3), a.want)
			}
		}
		if h.Len() != 3 || h.Has(1) || !h.Has(3) {
			t.Errorf("%d: Len = %d", i, h.Len())
		}
	}
}

func TestOrder(t *testing.T) {
	for _, c := range []struct {
		scores []float64
		want   []int
	}{
		{nil, nil},
		{[]float64{nan}, []int{1}},
		{[]float64{0, 0, 0, 0, 0, 0, 0}, []int{1, 2, 3, 4, 5, 6, 7}},
		{[]float64{1, 2, 3, 4, 5, 6, 7}, []int{7, 6, 5, 4, 3, 2, 1}},
		{[]float64{3, -1, 2, 3, -1, 2, 3}, []int{1, 4, 7, 3, 6, 2, 5}},
		{[]float64{nan, nan, -inf, nan}, []int{3, 1, 2, 4}},
		{[]float64{nan, inf, nan, inf, -inf, 0, nan, -inf}, []int{2, 4, 6, 5, 8, 1, 3, 7}},
		{[]float64{nan, nan, nan, nan, nan}, []int{1, 2, 3, 4, 5}},
		{[]float64{-inf, -inf, -inf}, []int{1, 2, 3}},
		{[]float64{-small, 0, small, 0}, []int{3, 2, 4, 1}},
		{[]float64{large, inf, -large, -inf}, []int{2, 1, 3, 4}},
		{[]float64{1, math.Nextafter(1, 2), math.Nextafter(1, 0), 1}, []int{2, 1, 4, 3}},
		{[]float64{1 << 53, 1<<53 + 1, 1<<53 + 2}, []int{3, 1, 2}},
		{[]float64{-1, -2, nan, -1, -inf}, []int{1, 4, 2, 5, 3}},
	} {
		popsAll(t, with(t, c.scores...), c.want...)
	}
}

// TestNoughts: 0 and -0 are equal, whichever has the lesser number.
func TestNoughts(t *testing.T) {
	for _, c := range []struct {
		plus []int // behind Scale(-1) they get to be 0 again
		want []float64
	}{
		{[]int{1, 3}, []float64{0, minus, 0, minus}},
		{[]int{2, 4}, []float64{minus, 0, minus, 0}},
		{nil, []float64{minus, minus, minus, minus}},
		{[]int{4, 3, 2, 1}, []float64{0, 0, 0, 0}},
	} {
		h := made(t, 4)
		scale(t, h, -1)
		for _, v := range c.plus {
			bump(t, h, v, 0)
		}
		scores(t, h, c.want...)
		popsAll(t, h, 1, 2, 3, 4)
		// Put back in another order they come by their numbers all the same.
		for _, v := range []int{3, 1, 4, 2} {
			put(t, h, v)
		}
		scores(t, h, c.want...)
		popsAll(t, h, 1, 2, 3, 4)
	}
}

func TestScaleOrder(t *testing.T) {
	for _, c := range []struct {
		scores []float64
		by     float64
		want   []float64
		order  []int
	}{
		{[]float64{1, 3, 2}, 1, []float64{1, 3, 2}, []int{2, 3, 1}},
		{[]float64{1, 3, 2}, 0.5, []float64{0.5, 1.5, 1}, []int{2, 3, 1}},
		{[]float64{3, 1, 2, inf, -inf, nan}, -1, []float64{-3, -1, -2, -inf, inf, nan}, []int{5, 2, 3, 1, 4, 6}},
		{[]float64{inf, -1, nan, -inf, 1}, 0, []float64{nan, minus, nan, nan, 0}, []int{2, 5, 1, 3, 4}},
		{[]float64{1, 2, 3}, 0, []float64{0, 0, 0}, []int{1, 2, 3}},
		{[]float64{-1, 2, -3}, minus, []float64{0, minus, 0}, []int{1, 2, 3}},
		{[]float64{0, 1, -1, nan, inf}, inf, []float64{nan, inf, -inf, nan, inf}, []int{2, 5, 3, 1, 4}},
		{[]float64{0, 1, -1, -2}, -inf, []float64{nan, -inf, inf, inf}, []int{3, 4, 2, 1}},
		{[]float64{1, nan, inf, -2}, nan, []float64{nan, nan, nan, nan}, []int{1, 2, 3, 4}},
		// Unequal ones become equal, by a number above 0, too.
		{[]float64{small, 2 * small, 3 * small}, 0.25, []float64{0, 0, small}, []int{3, 1, 2}},
		{[]float64{large / 4, large / 2, large, 1, large}, 4, []float64{large, inf, inf, 4, inf}, []int{2, 3, 5, 1, 4}},
		{[]float64{-large, -large / 2, -1}, 4, []float64{-inf, -inf, -4}, []int{3, 1, 2}},
		{[]float64{-0.25, -0.5, 0.5, 0.25}, small, []float64{minus, minus, 0, 0}, []int{1, 2, 3, 4}},
		{[]float64{1, math.Nextafter(1, 2), math.Nextafter(1, 0)}, 0x1p-1070, []float64{16 * small, 16 * small, 16 * small}, []int{1, 2, 3}},
	} {
		h := with(t, c.scores...)
		scale(t, h, c.by)
		scores(t, h, c.want...)
		popsAll(t, h, c.order...)
		// Of those that are not in it, too; they are put back from the last one on.
		h = with(t, c.scores...)
		for range c.scores {
			h.Pop()
		}
		scale(t, h, c.by)
		scores(t, h, c.want...)
		for _, v := range slices.Backward(c.order) {
			put(t, h, v)
		}
		popsAll(t, h, c.order...)
	}
}

// TestBumpOrder: one that is in the heap comes where its new score is, above
// and below the others.
func TestBumpOrder(t *testing.T) {
	h := with(t, 5, 4, 3, 2, 1)
	bump(t, h, 5, 10)
	bump(t, h, 1, -10)
	bump(t, h, 3, nan)
	bump(t, h, 2, -2)
	pops(t, h, 5)
	bump(t, h, 2, 0.5)
	bump(t, h, 1, 100)
	scores(t, h, 95, 2.5, nan, 2, 11)
	popsAll(t, h, 1, 2, 4, 3)
	// Its score goes on being told, and added to, while it is out.
	bump(t, h, 4, 1)
	bump(t, h, 1, -95)
	scores(t, h, 0, 2.5, nan, 3, 11)
	for v := 1; v <= 5; v++ {
		if h.Has(v) {
			t.Errorf("Has(%d)", v)
		}
	}
	empty(t, h)
	for v := 1; v <= 5; v++ {
		put(t, h, v)
	}
	popsAll(t, h, 5, 4, 2, 1, 3)
}

func TestPut(t *testing.T) {
	h := with(t, 1, 2, 3)
	// Those that are in it already are in it once.
	for _, v := range []int{3, 1, 1, 2, 3} {
		put(t, h, v)
		if h.Len() != 3 || !h.Has(v) {
			t.Errorf("Put(%d): Len = %d", v, h.Len())
		}
	}
	scores(t, h, 1, 2, 3)
	popsAll(t, h, 3, 2, 1)
	for i, v := range []int{2, 2, 3, 2, 3} {
		put(t, h, v)
		if n := min(1+i/2, 2); h.Len() != n || !h.Has(v) || h.Has(1) {
			t.Errorf("%d: Put(%d): Len = %d", i, v, h.Len())
		}
	}
	scores(t, h, 1, 2, 3)
	pops(t, h, 3)
	put(t, h, 1)
	put(t, h, 3)
	popsAll(t, h, 3, 2, 1)
	// Behind nothing, one again and again.
	for range 3 {
		put(t, h, 1)
		popsAll(t, h, 1)
	}
}

// TestApart: heaps share nothing.
func TestApart(t *testing.T) {
	g, h := made(t, 3), made(t, 3)
	bump(t, g, 3, 1)
	pops(t, g, 3, 1)
	scale(t, g, -2)
	scores(t, h, 0, 0, 0)
	popsAll(t, h, 1, 2, 3)
	scores(t, g, minus, minus, -2)
	popsAll(t, g, 2)
}
