package eval_test

// What the tests build stores with, and what chapter 3 says of one node: what
// bv makes of its kids' vectors. Nothing here goes from a node to those below.

import (
	"math"
	"slices"
	"testing"

	"augury/api"
	"augury/bv"
	"augury/eval"
	"augury/term"
)

// widths is few bits, and the edges.
var widths = []int{1, 2, 7, 8, 31, 32, 33, 63, 64}

// These are all Ops that have kids, by what kids they have.
var (
	ofOne  = []api.Op{api.Not, api.Neg}
	ofTwo  = []api.Op{api.And, api.Or, api.Xor, api.Add, api.Sub, api.Mul, api.Udiv, api.Urem, api.Sdiv, api.Srem, api.Shl, api.Lshr, api.Ashr}
	oneBit = []api.Op{api.Eq, api.Ult, api.Slt}
	wider  = []api.Op{api.Zext, api.Sext}
)

// vec is w bits of n.
func vec(w int, n uint64) api.Bv { return api.Bv{W: uint8(w), N: n} }

// cut is what is left of n by 2^w.
func cut(w int, n uint64) uint64 {
	if w == 64 {
		return n
	}
	return n % (uint64(1) << w)
}

// edges is numbers of w bits: the least, the greatest, those round the sign,
// and those round w.
func edges(w int) []uint64 {
	top := uint64(math.MaxUint64) >> (64 - w)
	half := uint64(1) << (w - 1)
	var l []uint64
	for _, n := range []uint64{0, 1, 2, 3, half - 1, half, half + 1, top - 1, top, uint64(w) - 1, uint64(w), uint64(w) + 1, 0x123456789abcdef5} {
		if n = cut(w, n); !slices.Contains(l, n) {
			l = append(l, n)
		}
	}
	return l
}

// maker makes nodes that may be.
type maker struct {
	*testing.T
	s *term.Store
}

func newMaker(t *testing.T) maker { return maker{t, term.New()} }

func (m maker) made(n api.Node) int {
	m.Helper()
	id, e := m.s.Make(n)
	if e != api.OK {
		m.Fatalf("Make(%v): %d", n, e)
	}
	return id
}

func (m maker) variable(w, n int) int {
	m.Helper()
	return m.made(api.Node{Op: api.Var, W: uint8(w), N: uint64(n)})
}

func (m maker) constant(w int, n uint64) int {
	m.Helper()
	return m.made(api.Node{Op: api.Const, W: uint8(w), N: n})
}

func (m maker) op(o api.Op, w int, kids ...int) int {
	m.Helper()
	n := api.Node{Op: o, W: uint8(w)}
	copy(n.Kids[:], kids)
	return m.made(n)
}

func (m maker) part(low, w, kid int) int {
	m.Helper()
	return m.made(api.Node{Op: api.Extract, W: uint8(w), Low: uint8(low), Kids: [3]int{kid}})
}

// is reports an Eval that is not want.
func (m maker) is(id int, a api.Assign, want api.Bv) {
	m.Helper()
	if b, e := eval.Eval(m.s, id, a); b != want || e != api.OK {
		n, _ := m.s.Node(id)
		m.Errorf("Eval(%d, %v) = %v, %d: want %v, 0 (%v)", id, a, b, e, want, n)
	}
}

// as reports an Eval of a node that is not what its kids' Evals make it.
func (m maker) as(id int, a api.Assign) {
	m.Helper()
	n, e := m.s.Node(id)
	if e != api.OK {
		m.Fatalf("Node(%d): %d", id, e)
	}
	var kids [3]api.Bv
	for i := range kidsOf(n.Op) {
		if kids[i], e = eval.Eval(m.s, n.Kids[i], a); e != api.OK {
			m.Errorf("Eval(%d, %v): %d", n.Kids[i], a, e)
		}
	}
	want, e := ofKids(n, kids, a)
	if e != api.OK {
		m.Fatalf("%v of %v: %d", n, kids, e)
	}
	m.is(id, a, want)
}

// kidsOf is how many kids an Op has.
func kidsOf(o api.Op) int {
	switch {
	case o == api.Const || o == api.Var:
		return 0
	case o == api.Ite:
		return 3
	case slices.Contains(ofTwo, o), slices.Contains(oneBit, o), o == api.Concat:
		return 2
	}
	return 1
}

// ofKids is what a node is, whose kids are k.
func ofKids(n api.Node, k [3]api.Bv, a api.Assign) (api.Bv, api.Errno) {
	switch {
	case n.Op == api.Const:
		return vec(int(n.W), n.N), api.OK
	case n.Op == api.Var && n.N >= uint64(len(a)):
		return vec(int(n.W), 0), api.OK
	case n.Op == api.Var:
		return vec(int(n.W), cut(int(n.W), a[n.N])), api.OK
	case slices.Contains(ofOne, n.Op):
		return bv.Unary(n.Op, k[0])
	case slices.Contains(wider, n.Op):
		return bv.Extend(n.Op, k[0], int(n.W))
	case n.Op == api.Extract:
		return bv.Extract(k[0], int(n.Low), int(n.W))
	case n.Op == api.Ite:
		return bv.Ite(k[0], k[1], k[2])
	}
	return bv.Binary(n.Op, k[0], k[1])
}

// nodes is all nodes of a store.
func nodes(t *testing.T, s *term.Store) []api.Node {
	t.Helper()
	var l []api.Node
	for id := range s.Len() {
		n, e := s.Node(id)
		if e != api.OK {
			t.Fatalf("Node(%d): %d, of %d nodes", id, e, s.Len())
		}
		l = append(l, n)
	}
	return l
}

// notThere is numbers of nodes that a store doesn't have.
func notThere(s *term.Store) []int {
	return []int{math.MinInt, math.MinInt32, -256, -1, s.Len(), s.Len() + 1, api.MaxNodes, 1 << 31, 1 << 32, 1<<32 + 1, math.MaxInt}
}
