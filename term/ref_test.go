package term_test

// What chapters 1 and 2 say of a node's kids and widths, in a table of its
// own: nothing here goes by package bv.

import (
	"math"
	"slices"
	"testing"

	"augury/api"
	"augury/term"
)

// These are all Ops that have kids, by how an answer's width comes of theirs.
var (
	sameWidth = []api.Op{api.Not, api.Neg}
	twoOfOne  = []api.Op{
		api.And, api.Or, api.Xor, api.Add, api.Sub, api.Mul,
		api.Udiv, api.Urem, api.Sdiv, api.Srem, api.Shl, api.Lshr, api.Ashr,
	}
	toOneBit = []api.Op{api.Eq, api.Ult, api.Slt}
	wider    = []api.Op{api.Zext, api.Sext}
)

// withKids is all Ops that have kids.
func withKids() []api.Op {
	return slices.Concat(sameWidth, twoOfOne, toOneBit, wider, []api.Op{api.Concat, api.Extract, api.Ite})
}

// kidsOf is how many kids an Op has.
func kidsOf(o api.Op) int {
	switch {
	case o == api.Ite:
		return 3
	case slices.Contains(twoOfOne, o), slices.Contains(toOneBit, o), o == api.Concat:
		return 2
	case slices.Contains(withKids(), o):
		return 1
	}
	return 0
}

// fits tells whether kids of the widths k may make a node of the Op, the width
// w and the lowest bit low.
func fits(o api.Op, k [3]int, w, low int) bool {
	switch {
	case slices.Contains(sameWidth, o):
		return w == k[0]
	case slices.Contains(twoOfOne, o):
		return k[0] == k[1] && w == k[0]
	case slices.Contains(toOneBit, o):
		return k[0] == k[1] && w == 1
	case slices.Contains(wider, o):
		return w >= k[0] && w <= 64
	case o == api.Concat:
		return w == k[0]+k[1] && w <= 64
	case o == api.Extract:
		return w >= 1 && low+w <= k[0]
	case o == api.Ite:
		return k[0] == 1 && k[1] == k[2] && w == k[1]
	}
	return false
}

// below is the variables below a node, one call for each kid.
func below(s *term.Store, id int, is map[int]bool) {
	n, _ := s.Node(id)
	if n.Op == api.Var {
		is[int(n.N)] = true
	}
	for _, kid := range n.Kids[:kidsOf(n.Op)] {
		below(s, kid, is)
	}
}

// state is all that a store tells of what was made.
type state struct {
	nodes  []api.Node
	widths []int
}

// tell asks a store for all of it.
func tell(t *testing.T, s *term.Store) state {
	t.Helper()
	var l state
	for id := range s.Len() {
		n, e := s.Node(id)
		if e != api.OK {
			t.Fatalf("Node(%d): %d, of %d nodes", id, e, s.Len())
		}
		l.nodes = append(l.nodes, n)
	}
	for n := range api.MaxVars {
		l.widths = append(l.widths, s.Width(n))
	}
	return l
}

// same reports a store that tells other than it did.
func (l state) same(t *testing.T, s *term.Store, behind string) {
	t.Helper()
	now := tell(t, s)
	if !slices.Equal(l.nodes, now.nodes) {
		t.Errorf("behind %s: nodes %v, were %v", behind, now.nodes, l.nodes)
	}
	if !slices.Equal(l.widths, now.widths) {
		t.Errorf("behind %s: widths %v, were %v", behind, now.widths, l.widths)
	}
}

// notThere is numbers of nodes that a store doesn't have.
func notThere(s *term.Store) []int {
	return []int{math.MinInt, math.MinInt32, -256, -1, s.Len(), s.Len() + 1, 1 << 31, 1 << 32, 1<<32 + 1, math.MaxInt}
}
