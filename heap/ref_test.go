package heap_test

// What chapter 10 says of a heap, on a plain list that is gone through whole:
// nothing here goes by a tree or by Above.

import (
	"cmp"
	"math"
	"slices"

	"augury/api"
)

// one is a variable's score, and whether it is in the heap.
type one struct {
	score float64
	in    bool
}

// list is the variables from 1 on.
type list []one

// newList is a list of n variables.
func newList(n int) list {
	l := make(list, n)
	for i := range l {
		l[i].in = true
	}
	return l
}

// isOne tells whether there is such a variable.
func (l list) isOne(v int) bool { return v >= 1 && v <= len(l) }

func (l list) bump(v int, by float64) api.Errno {
	if !l.isOne(v) {
		return api.ErrArg
	}
	l[v-1].score += by
	return api.OK
}

func (l list) scale(by float64) {
	for i := range l {
		l[i].score *= by
	}
}

func (l list) put(v int) api.Errno {
	if !l.isOne(v) {
		return api.ErrArg
	}
	l[v-1].in = true
	return api.OK
}

func (l list) pop() (int, api.Errno) {
	order := l.order()
	if len(order) == 0 {
		return 0, api.ErrNone
	}
	l[order[0]-1].in = false
	return order[0], api.OK
}

func (l list) has(v int) bool { return l.isOne(v) && l[v-1].in }

func (l list) scoreOf(v int) float64 {
	if !l.isOne(v) {
		return 0
	}
	return l[v-1].score
}

func (l list) count() int { return len(l.order()) }

// order is all that are in it, the greatest one first.
func (l list) order() []int {
	var in []int
	for i, o := range l {
		if o.in {
			in = append(in, i+1)
		}
	}
	// Compare has NaN less than all others and like itself, and 0 like -0; what
	// is like another keeps its place, so that the lesser number stays ahead.
	slices.SortStableFunc(in, func(v, w int) int { return cmp.Compare(l[w-1].score, l[v-1].score) })
	return in
}

// same tells whether two scores are one: both NaN, or of the same bits, so that
// 0 is not -0.
func same(a, b float64) bool {
	if math.IsNaN(a) || math.IsNaN(b) {
		return math.IsNaN(a) && math.IsNaN(b)
	}
	return math.Float64bits(a) == math.Float64bits(b)
}
