package heap_test

import (
	"cmp"
	"math"
	"math/rand"
	"slices"
	"testing"

	"augury/api"
	"augury/heap"
)

// drawnBy is what a score is added to or multiplied by: often a small number,
// so that many are equal.
func drawnBy(r *rand.Rand) float64 {
	if r.Intn(4) > 0 {
		return float64(r.Intn(9) - 4)
	}
	edges := []float64{
		0, minus, small, -small, 0.5, -0.5, 0.25, 1e-200, 0x1p-1022, 1e200, -1e200,
		large, -large, inf, -inf, nan, math.Nextafter(1, 2), 1 << 53,
	}
	return edges[r.Intn(len(edges))]
}

// drawnAct does the same to both, and reports where they answer otherwise. By
// NaN or an infinity it scales nothing, as few scores would differ behind that:
// other tests do.
func drawnAct(t *testing.T, r *rand.Rand, h *heap.Heap, l list) {
	t.Helper()
	v := r.Intn(len(l)+3) - 1
	by := drawnBy(r)
	switch r.Intn(20) {
	case 0, 1, 2, 3, 4, 5:
		if e, want := h.Bump(v, by), l.bump(v, by); e != want {
			t.Errorf("Bump(%d, %g) = %d: want %d", v, by, e, want)
		}
	case 6:
		if math.IsNaN(by) || math.IsInf(by, 0) {
			by = []float64{2, -1, 0.5}[r.Intn(3)]
		}
		l.scale(by)
		scale(t, h, by)
	case 7, 8, 9, 10, 11, 12:
		w, wantE := l.pop()
		if p, e := h.Pop(); p != w || e != wantE {
			t.Errorf("Pop = %d, %d: want %d, %d", p, e, w, wantE)
		}
	default:
		if e, want := h.Put(v), l.put(v); e != want {
			t.Errorf("Put(%d) = %d: want %d", v, e, want)
		}
	}
}

// agree reports what the heap tells otherwise than the list.
func agree(t *testing.T, h *heap.Heap, l list) {
	t.Helper()
	if h.Len() != l.count() {
		t.Errorf("Len = %d: want %d", h.Len(), l.count())
	}
	for v := -1; v <= len(l)+1; v++ {
		if h.Has(v) != l.has(v) || !same(h.Score(v), l.scoreOf(v)) {
			t.Errorf("Has, Score(%d) = %t, %g: want %t, %g", v, h.Has(v), h.Score(v), l.has(v), l.scoreOf(v))
		}
	}
}

// TestDrawnActs: as the chapter's words have it, and the same of the same.
func TestDrawnActs(t *testing.T) {
	r := rand.New(rand.NewSource(10))
	for round := range 3000 {
		n := r.Intn(20)
		if round%500 == 0 {
			n = 300
		}
		h, l := made(t, n), newList(n)
		for i := range 5 + r.Intn(5*n+20) {
			drawnAct(t, r, h, l)
			agree(t, h, l)
			if t.Failed() {
				t.Fatalf("of %d, act %d of round %d", n, i, round)
			}
		}
		popsAll(t, h, l.order()...)
		if t.Failed() {
			t.Fatalf("of %d, behind round %d", n, round)
		}
	}
}

// TestPopsInOrder: popped one by one each is above the next, or equal and of a
// lesser number.
func TestPopsInOrder(t *testing.T) {
	r := rand.New(rand.NewSource(103))
	for n := range 400 {
		h := made(t, n)
		for range 3 * n {
			bump(t, h, 1+r.Intn(n), drawnBy(r))
		}
		scale(t, h, drawnBy(r))
		for i, before := 0, 0; i < n; i++ {
			v, e := h.Pop()
			if e != api.OK {
				t.Fatalf("of %d: Pop = %d, %d", n, v, e)
			}
			a, b := h.Score(before), h.Score(v)
			if i > 0 && (heap.Above(b, a) || !heap.Above(a, b) && v <= before) {
				t.Fatalf("of %d: %d comes ahead of %d, of %g and %g", n, before, v, a, b)
			}
			before = v
		}
		empty(t, h)
	}
}

// TestMost: a heap of as many variables as may be, and time that goes with it.
func TestMost(t *testing.T) {
	const n = 1000000
	r := rand.New(rand.NewSource(1000000))
	h, want := made(t, n), make([]int, n)
	for i := range want {
		want[i] = i + 1
		bump(t, h, i+1, float64(r.Intn(n/4)))
	}
	for range n {
		bump(t, h, 1+r.Intn(n), drawnBy(r))
	}
	scale(t, h, -0.5)
	slices.SortStableFunc(want, func(v, w int) int { return cmp.Compare(h.Score(w), h.Score(v)) })
	for range 2 {
		for i, w := range want {
			if v, e := h.Pop(); v != w || e != api.OK {
				t.Fatalf("%d: Pop = %d, %d: want %d", i, v, e, w)
			}
		}
		empty(t, h)
		for _, i := range r.Perm(n) {
			put(t, h, i+1)
		}
	}
}
