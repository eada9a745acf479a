package term_test

import (
	"math"
	"math/rand"
	"slices"
	"testing"

	"augury/api"
	"augury/term"
)

// some is widths: few bits, and the edges.
var some = []int{1, 2, 7, 8, 31, 32, 33, 63, 64}

// made is the number of a node that may be.
func made(t *testing.T, s *term.Store, n api.Node) int {
	t.Helper()
	id, e := s.Make(n)
	if e != api.OK {
		t.Fatalf("Make(%v): %d", n, e)
	}
	return id
}

// variable is the number of a variable that may be.
func variable(t *testing.T, s *term.Store, w, n int) int {
	t.Helper()
	id, e := s.Var(w, n)
	if e != api.OK {
		t.Fatalf("Var(%d, %d): %d", w, n, e)
	}
	return id
}

// refused reports an answer that is not the error with a 0 beside it.
func refused(t *testing.T, what string, arg any, id int, e, want api.Errno) {
	t.Helper()
	if id != 0 || e != want {
		t.Errorf("%s(%v) = %d, %d: want 0, %d", what, arg, id, e, want)
	}
}

// answered reports an answer that is not want, without an error.
func answered(t *testing.T, what string, arg any, id int, e api.Errno, want int) {
	t.Helper()
	if id != want || e != api.OK {
		t.Errorf("%s(%v) = %d, %d: want %d, 0", what, arg, id, e, want)
	}
}

func op(o api.Op, w int, kids ...int) api.Node {
	n := api.Node{Op: o, W: uint8(w)}
	copy(n.Kids[:], kids)
	return n
}

// eachOp is a store of a variable of each width of some, and on them one node
// of each Op with kids; the last ones' numbers.
func eachOp(t *testing.T) (*term.Store, map[api.Op]int) {
	t.Helper()
	s := term.New()
	one, eight, other := variable(t, s, 1, 1), variable(t, s, 8, 8), variable(t, s, 8, 9)
	ids := map[api.Op]int{}
	for _, o := range withKids() {
		n := op(o, 8, []int{eight, other, other}[:kidsOf(o)]...)
		switch {
		case o == api.Ite:
			n.Kids[0] = one
		case o == api.Concat:
			n.W = 16
		case o == api.Extract:
			n.W, n.Low = 3, 2
		case slices.Contains(toOneBit, o):
			n.W = 1
		}
		ids[o] = made(t, s, n)
	}
	return s, ids
}

func TestExamples(t *testing.T) {
	s := term.New()
	id, e := s.Var(8, 0)
	answered(t, "Var", "8, 0", id, e, 0)
	id, e = s.Const(8, 1)
	answered(t, "Const", "8, 1", id, e, 1)
	for range 2 {
		id, e = s.Make(op(api.Add, 8, 0, 1))
		answered(t, "Make", "Add", id, e, 2)
	}
	id, e = s.Var(4, 0)
	refused(t, "Var", "4, 0", id, e, api.ErrTwice)
	id, e = s.Const(8, 256)
	refused(t, "Const", "8, 256", id, e, api.ErrArg)
	id, e = s.Make(op(api.Add, 8, 0, 9))
	refused(t, "Make", "Add of 0 and 9", id, e, api.ErrArg)
	if s.Len() != 3 {
		t.Errorf("Len = %d", s.Len())
	}
	if l, e := s.Vars(2); !slices.Equal(l, []int{0}) || e != api.OK {
		t.Errorf("Vars = %v, %d", l, e)
	}
}

func TestNew(t *testing.T) {
	s, other := term.New(), term.New()
	if s.Len() != 0 {
		t.Errorf("Len = %d", s.Len())
	}
	for _, id := range notThere(s) {
		if n, e := s.Node(id); n != (api.Node{}) || e != api.ErrArg {
			t.Errorf("Node(%d) = %v, %d", id, n, e)
		}
		if l, e := s.Vars(id); len(l) != 0 || e != api.ErrArg {
			t.Errorf("Vars(%d) = %v, %d", id, l, e)
		}
	}
	for _, o := range withKids() {
		id, e := s.Make(op(o, 1))
		refused(t, "Make", o, id, e, api.ErrArg)
	}
	variable(t, s, 8, 0)
	if other.Len() != 0 || other.Width(0) != 0 {
		t.Errorf("another store: Len = %d, Width = %d", other.Len(), other.Width(0))
	}
	id, e := other.Var(4, 0)
	answered(t, "Var", "4, 0 of another store", id, e, 0)
}

// TestWidths: each Op, kids of widths of all kinds, each width that may be said.
func TestWidths(t *testing.T) {
	s := term.New()
	ids := map[int]int{}
	for i, w := range some {
		ids[w] = variable(t, s, w, i)
	}
	for _, o := range withKids() {
		for _, k := range kidWidths(kidsOf(o)) {
			for w := range 256 {
				n := op(o, w, kidIds(ids, k, kidsOf(o))...)
				before := s.Len()
				id, e := s.Make(n)
				if fits(o, k, w, 0) {
					answered(t, "Make", n, id, e, before)
				} else if refused(t, "Make", n, id, e, api.ErrArg); s.Len() != before {
					t.Fatalf("Make(%v): a node more", n)
				}
			}
		}
	}
}

// kidWidths is all widths of some for so many kids, 0 behind them.
func kidWidths(kids int) [][3]int {
	l := [][3]int{{}}
	for i := range kids {
		var more [][3]int
		for _, k := range l {
			for _, w := range some {
				k[i] = w
				more = append(more, k)
			}
		}
		l = more
	}
	return l
}

// kidIds is the numbers of kids of so many widths.
func kidIds(ids map[int]int, k [3]int, kids int) []int {
	var l []int
	for _, w := range k[:kids] {
		l = append(l, ids[w])
	}
	return l
}

func TestExtract(t *testing.T) {
	for _, kid := range some {
		s := term.New()
		variable(t, s, kid, 5)
		for low := range 256 {
			for w := range 256 {
				n := op(api.Extract, w, 0)
				n.Low = uint8(low)
				before := s.Len()
				id, e := s.Make(n)
				if fits(api.Extract, [3]int{kid}, w, low) {
					answered(t, "Make", n, id, e, before)
				} else if refused(t, "Make", n, id, e, api.ErrArg); s.Len() != before {
					t.Fatalf("Make(%v): a node more", n)
				}
			}
		}
	}
}

// TestExtend: from each width to each one.
func TestExtend(t *testing.T) {
	for _, o := range wider {
		for kid := 1; kid <= 64; kid++ {
			s := term.New()
			variable(t, s, kid, 5)
			for w := range 256 {
				n, before := op(o, w, 0), s.Len()
				id, e := s.Make(n)
				if w >= kid && w <= 64 {
					answered(t, "Make", n, id, e, before)
				} else {
					refused(t, "Make", n, id, e, api.ErrArg)
				}
			}
		}
	}
}

// TestConcat: each two widths, and the widths beside their sum.
func TestConcat(t *testing.T) {
	s := term.New()
	for w := 1; w <= 64; w++ {
		variable(t, s, w, w)
	}
	for a := 1; a <= 64; a++ {
		for b := 1; b <= 64; b++ {
			for w := a + b - 1; w <= a+b+1; w++ {
				n, before := op(api.Concat, w, a-1, b-1), s.Len()
				id, e := s.Make(n)
				if w == a+b && w <= 64 {
					answered(t, "Make", n, id, e, before)
				} else {
					refused(t, "Make", n, id, e, api.ErrArg)
				}
			}
		}
	}
}

func TestKidsNotThere(t *testing.T) {
	s, ids := eachOp(t)
	for o, id := range ids {
		n, _ := s.Node(id)
		was := tell(t, s)
		for i := range kidsOf(o) {
			for _, kid := range notThere(s) {
				m := n
				m.Kids[i] = kid
				x, e := s.Make(m)
				refused(t, "Make", m, x, e, api.ErrArg)
			}
		}
		was.same(t, s, "kids that are not there")
	}
	// A node is no kid of itself, nor of one that would come behind it.
	x, e := s.Make(op(api.Not, 8, s.Len()))
	refused(t, "Make", "of itself", x, e, api.ErrArg)
}

// TestOtherFields: what an Op does not have is 0.
func TestOtherFields(t *testing.T) {
	s, ids := eachOp(t)
	l := []api.Node{op(api.Const, 8), op(api.Var, 8), {Op: api.Const, W: 8, N: 200}, {Op: api.Var, W: 8, N: 8}}
	for _, id := range ids {
		n, _ := s.Node(id)
		l = append(l, n)
	}
	was := tell(t, s)
	for _, n := range l {
		for _, m := range withMore(s, n) {
			x, e := s.Make(m)
			refused(t, "Make", m, x, e, api.ErrArg)
		}
	}
	was.same(t, s, "fields that an Op does not have")
}

// withMore is n with each field that its Op does not have.
func withMore(s *term.Store, n api.Node) []api.Node {
	var l []api.Node
	for i := kidsOf(n.Op); i < 3; i++ {
		for _, kid := range append(notThere(s), 1, s.Len()-1) {
			m := n
			m.Kids[i] = kid
			l = append(l, m)
		}
	}
	if n.Op != api.Const && n.Op != api.Var {
		for _, x := range []uint64{1, 8, 255, 256, 1 << 32, 1 << 63, math.MaxUint64} {
			m := n
			m.N = x
			l = append(l, m)
		}
	}
	if n.Op != api.Extract {
		for _, low := range []uint8{1, 2, 8, 63, 64, 128, 255} {
			m := n
			m.Low = low
			l = append(l, m)
		}
	}
	return l
}

func TestNoSuchOp(t *testing.T) {
	s, _ := eachOp(t)
	was := tell(t, s)
	for o := range 256 {
		if o >= int(api.Const) && o <= int(api.Ite) {
			continue
		}
		for _, n := range []api.Node{
			{}, {W: 8}, {W: 1}, {W: 8, Kids: [3]int{1}}, {W: 8, Kids: [3]int{1, 2}}, {W: 16, Kids: [3]int{1, 2}}, {W: 8, Kids: [3]int{0, 1, 2}}, {W: 8, N: 1}, {W: 8, Low: 1},
		} {
			n.Op = api.Op(o)
			id, e := s.Make(n)
			refused(t, "Make", n, id, e, api.ErrArg)
		}
	}
	was.same(t, s, "an Op that is none")
}

// wrongWidths is widths that no vector has, those among them that a byte does
// not hold.
var wrongWidths = []int{math.MinInt, -1 << 32, -256, -248, -192, -1, 0, 65, 66, 128, 255, 256, 257, 264, 320, 1<<32 + 8, math.MaxInt}

func TestConst(t *testing.T) {
	s := term.New()
	for w := 1; w <= 64; w++ {
		top := uint64(math.MaxUint64) >> (64 - w)
		for _, n := range []uint64{0, 1, top / 2, top/2 + 1, top - 1, top} {
			id, e := s.Const(w, n)
			if got, _ := s.Node(id); e != api.OK || got != (api.Node{Op: api.Const, W: uint8(w), N: n}) {
				t.Errorf("Const(%d, %d) = %d, %d: %v", w, n, id, e, got)
			}
			again, e := s.Make(api.Node{Op: api.Const, W: uint8(w), N: n})
			answered(t, "Make", []any{"Const", w, n}, again, e, id)
		}
		if w == 64 {
			continue
		}
		for _, n := range []uint64{top + 1, top + 2, math.MaxUint64} {
			id, e := s.Const(w, n)
			refused(t, "Const", []any{w, n}, id, e, api.ErrArg)
			id, e = s.Make(api.Node{Op: api.Const, W: uint8(w), N: n})
			refused(t, "Make", []any{"Const", w, n}, id, e, api.ErrArg)
		}
	}
	was := tell(t, s)
	for _, w := range wrongWidths {
		for _, n := range []uint64{0, 1, math.MaxUint64} {
			id, e := s.Const(w, n)
			refused(t, "Const", []any{w, n}, id, e, api.ErrArg)
		}
	}
	for w := range 256 {
		if w == 0 || w > 64 {
			id, e := s.Make(op(api.Const, w))
			refused(t, "Make", []any{"Const", w}, id, e, api.ErrArg)
		}
	}
	was.same(t, s, "Consts of a width that is none")
}

func TestVar(t *testing.T) {
	s := term.New()
	for n := range api.MaxVars {
		w := n%64 + 1
		id, e := s.Var(w, n)
		answered(t, "Var", []any{w, n}, id, e, n)
		if got, _ := s.Node(id); got != (api.Node{Op: api.Var, W: uint8(w), N: uint64(n)}) {
			t.Errorf("Var(%d, %d): %v", w, n, got)
		}
		id, e = s.Make(api.Node{Op: api.Var, W: uint8(w), N: uint64(n)})
		answered(t, "Make", []any{"Var", w, n}, id, e, n)
		if s.Width(n) != w {
			t.Errorf("Width(%d) = %d, want %d", n, s.Width(n), w)
		}
	}
	was := tell(t, s)
	for _, n := range []int{math.MinInt, math.MinInt32, -256, -1, 256, 257, 512, 1 << 32, math.MaxInt} {
		id, e := s.Var(8, n)
		refused(t, "Var", []any{8, n}, id, e, api.ErrArg)
		if s.Width(n) != 0 {
			t.Errorf("Width(%d) = %d", n, s.Width(n))
		}
	}
	for _, n := range []uint64{256, 257, 1 << 32, 1 << 63, math.MaxUint64} {
		id, e := s.Make(api.Node{Op: api.Var, W: 8, N: n})
		refused(t, "Make", []any{"Var", n}, id, e, api.ErrArg)
	}
	was.same(t, s, "variables that may not be")
}

// TestVarWidth: a width that is none is wrong, of a variable that is there as
// well: ErrArg comes ahead of ErrTwice.
func TestVarWidth(t *testing.T) {
	s := term.New()
	variable(t, s, 8, 0)
	was := tell(t, s)
	for n := range 2 {
		for _, w := range wrongWidths {
			id, e := s.Var(w, n)
			refused(t, "Var", []any{w, n}, id, e, api.ErrArg)
		}
		for w := range 256 {
			if w == 0 || w > 64 {
				id, e := s.Make(api.Node{Op: api.Var, W: uint8(w), N: uint64(n)})
				refused(t, "Make", []any{"Var", w, n}, id, e, api.ErrArg)
			}
		}
	}
	was.same(t, s, "variables of a width that is none")
}

func TestTwice(t *testing.T) {
	for w := 1; w <= 64; w++ {
		s := term.New()
		id := variable(t, s, w, 255)
		was := tell(t, s)
		for x := 1; x <= 64; x++ {
			if x == w {
				continue
			}
			y, e := s.Var(x, 255)
			refused(t, "Var", []any{x, 255, w}, y, e, api.ErrTwice)
			y, e = s.Make(api.Node{Op: api.Var, W: uint8(x), N: 255})
			refused(t, "Make", []any{"Var", x, 255, w}, y, e, api.ErrTwice)
		}
		was.same(t, s, "ErrTwice")
		again, e := s.Var(w, 255)
		answered(t, "Var", []any{w, 255}, again, e, id)
		// A Const, and another variable, may have whatever width.
		variable(t, s, 65-w, 254)
		if _, e := s.Const(65-w, 1); e != api.OK {
			t.Errorf("Const(%d, 1): %d", 65-w, e)
		}
	}
}

// TestRefusedIsFree: a node that was refused takes no number, and a variable
// that was refused has no width yet.
func TestRefusedIsFree(t *testing.T) {
	s := term.New()
	s.Var(0, 3)
	s.Var(65, 3)
	s.Make(api.Node{Op: api.Var, W: 8, N: 3, Low: 1})
	s.Make(api.Node{Op: api.Var, W: 8, N: 3, Kids: [3]int{1}})
	if s.Width(3) != 0 || s.Len() != 0 {
		t.Errorf("Width = %d, Len = %d", s.Width(3), s.Len())
	}
	id, e := s.Var(4, 3)
	answered(t, "Var", "4, 3", id, e, 0)
	s.Make(op(api.Not, 8, 0))
	s.Var(8, 3)
	id, e = s.Make(op(api.Not, 4, 0))
	answered(t, "Make", "Not", id, e, 1)
}

// TestSame: each node again has its number, whatever was made since.
func TestSame(t *testing.T) {
	s, _ := eachOp(t)
	s.Const(8, 3)
	s.Const(8, 0)
	was := tell(t, s)
	for id, n := range was.nodes {
		x, e := s.Make(n)
		answered(t, "Make", n, x, e, id)
	}
	was.same(t, s, "all nodes again")
}

// TestDifferent: nodes that differ in whatever field have two numbers.
func TestDifferent(t *testing.T) {
	s := term.New()
	a, b, c := variable(t, s, 8, 0), variable(t, s, 8, 1), variable(t, s, 1, 2)
	l := []api.Node{
		op(api.Add, 8, a, b), op(api.Add, 8, b, a), op(api.Add, 8, a, a), op(api.Sub, 8, a, b),
		op(api.Eq, 1, a, b), op(api.Eq, 1, b, a), op(api.Concat, 16, a, b), op(api.Concat, 16, b, a),
		op(api.Ite, 8, c, a, b), op(api.Ite, 8, c, b, a), op(api.Ite, 8, c, a, a),
		op(api.Zext, 8, a), op(api.Sext, 8, a), op(api.Zext, 9, a), op(api.Zext, 8, b),
		op(api.Extract, 8, a), op(api.Extract, 7, a), {Op: api.Extract, W: 7, Low: 1, Kids: [3]int{a}},
		op(api.Not, 8, a), op(api.Neg, 8, a), op(api.Not, 8, b),
		{Op: api.Const, W: 8, N: 1}, {Op: api.Const, W: 9, N: 1}, {Op: api.Const, W: 8, N: 2}, {Op: api.Const, W: 8},
	}
	for i, n := range l {
		id, e := s.Make(n)
		answered(t, "Make", n, id, e, 3+i)
	}
	for i, n := range l {
		id, e := s.Make(n)
		answered(t, "Make again", n, id, e, 3+i)
	}
}

// full is a store with as many nodes as may be: variables 0 (8 bits) and 1
// (1 bit), then Consts.
func full(t *testing.T) *term.Store {
	t.Helper()
	s := term.New()
	variable(t, s, 8, 0)
	variable(t, s, 1, 1)
	for i := s.Len(); i < api.MaxNodes; i++ {
		id, e := s.Const(64, uint64(i))
		if id != i || e != api.OK {
			t.Fatalf("Const(64, %d) = %d, %d", i, id, e)
		}
	}
	return s
}

func TestLimit(t *testing.T) {
	s := full(t)
	if s.Len() != 200000 {
		t.Fatalf("Len = %d", s.Len())
	}
	last := api.MaxNodes - 1
	for range 2 {
		id, e := s.Const(64, math.MaxUint64)
		refused(t, "Const", "a node more", id, e, api.ErrLimit)
		id, e = s.Var(8, 2)
		refused(t, "Var", "a node more", id, e, api.ErrLimit)
		id, e = s.Make(op(api.Not, 64, last))
		refused(t, "Make", "a node more", id, e, api.ErrLimit)
		// What comes ahead of the limit.
		id, e = s.Var(9, 0)
		refused(t, "Var", "another width", id, e, api.ErrTwice)
		id, e = s.Make(op(api.Not, 8, last))
		refused(t, "Make", "another width", id, e, api.ErrArg)
		id, e = s.Make(op(api.Not, 8, api.MaxNodes))
		refused(t, "Make", "a kid that is not there", id, e, api.ErrArg)
		id, e = s.Var(8, 256)
		refused(t, "Var", 256, id, e, api.ErrArg)
		id, e = s.Const(64, uint64(last))
		answered(t, "Const", last, id, e, last)
		id, e = s.Const(64, 77777)
		answered(t, "Const", 77777, id, e, 77777)
		id, e = s.Var(8, 0)
		answered(t, "Var", 0, id, e, 0)
		if s.Len() != api.MaxNodes || s.Width(2) != 0 || s.Width(0) != 8 {
			t.Errorf("Len = %d, Width(2) = %d, Width(0) = %d", s.Len(), s.Width(2), s.Width(0))
		}
	}
	if n, e := s.Node(last); n != (api.Node{Op: api.Const, W: 64, N: uint64(last)}) || e != api.OK {
		t.Errorf("Node(%d) = %v, %d", last, n, e)
	}
	if n, e := s.Node(api.MaxNodes); n != (api.Node{}) || e != api.ErrArg {
		t.Errorf("Node(%d) = %v, %d", api.MaxNodes, n, e)
	}
}

func TestNode(t *testing.T) {
	s, ids := eachOp(t)
	for o, id := range ids {
		n, e := s.Node(id)
		if n.Op != o || e != api.OK {
			t.Errorf("Node(%d) = %v, %d, want one of Op %d", id, n, e, o)
		}
	}
	for _, id := range notThere(s) {
		if n, e := s.Node(id); n != (api.Node{}) || e != api.ErrArg {
			t.Errorf("Node(%d) = %v, %d", id, n, e)
		}
		if l, e := s.Vars(id); len(l) != 0 || e != api.ErrArg {
			t.Errorf("Vars(%d) = %v, %d", id, l, e)
		}
	}
}

// grow makes so many nodes of two kids, each of some that are there.
func grow(t *testing.T, s *term.Store, r *rand.Rand, count int) {
	t.Helper()
	for range count {
		kids := []int{r.Intn(s.Len()), r.Intn(s.Len())}
		made(t, s, op(twoOfOne[r.Intn(len(twoOfOne))], 8, kids...))
	}
}

// TestStays: P2.3 of many nodes.
func TestStays(t *testing.T) {
	s := term.New()
	r := rand.New(rand.NewSource(1))
	for n := range 20 {
		variable(t, s, 8, n*13)
	}
	for range 50 {
		was := tell(t, s)
		grow(t, s, r, 200)
		now := tell(t, s)
		now.nodes = now.nodes[:len(was.nodes)]
		if !slices.Equal(was.nodes, now.nodes) || !slices.Equal(was.widths, now.widths) {
			t.Fatalf("with %d nodes: what was made did not stay", s.Len())
		}
	}
	ids := map[api.Node]int{}
	for id, n := range tell(t, s).nodes {
		if other, is := ids[n]; is {
			t.Errorf("%d and %d are the same: %v", other, id, n)
		}
		ids[n] = id
		for _, kid := range n.Kids[:kidsOf(n.Op)] {
			if kid >= id {
				t.Errorf("%d has the kid %d", id, kid)
			}
		}
		x, e := s.Make(n)
		answered(t, "Make again", n, x, e, id)
	}
}

func TestVars(t *testing.T) {
	s := term.New()
	// The first node is a variable, so that a kid that is none, but 0, shows.
	high, low, c := variable(t, s, 8, 255), variable(t, s, 8, 0), 2
	s.Const(8, 7)
	middle := variable(t, s, 1, 100)
	add := made(t, s, op(api.Add, 8, high, low))
	twice := made(t, s, op(api.Mul, 8, low, low))
	ite := made(t, s, op(api.Ite, 8, middle, add, c))
	for _, x := range []struct {
		id   int
		want []int
	}{
		{high, []int{255}}, {low, []int{0}}, {c, nil}, {add, []int{0, 255}}, {twice, []int{0}},
		{ite, []int{0, 100, 255}},
		{made(t, s, op(api.Not, 8, c)), nil}, {made(t, s, op(api.Sub, 8, c, c)), nil},
		{made(t, s, op(api.Zext, 64, c)), nil}, {made(t, s, op(api.Extract, 3, c)), nil},
		{made(t, s, op(api.Neg, 8, low)), []int{0}}, {made(t, s, op(api.Sub, 8, c, low)), []int{0}},
		{made(t, s, op(api.Ite, 8, middle, c, c)), []int{100}}, {made(t, s, op(api.Ite, 8, middle, c, low)), []int{0, 100}},
		{made(t, s, op(api.Xor, 8, add, ite)), []int{0, 100, 255}},
	} {
		if l, e := s.Vars(x.id); !slices.Equal(l, x.want) || e != api.OK {
			t.Errorf("Vars(%d) = %v, %d, want %v", x.id, l, e, x.want)
		}
	}
}

// TestVarsOfEach: an Op hands on the variables of all its kids.
func TestVarsOfEach(t *testing.T) {
	s, ids := eachOp(t)
	for o, id := range ids {
		want := [][]int{{8}, {8, 9}, {1, 9}}[kidsOf(o)-1]
		if l, e := s.Vars(id); !slices.Equal(l, want) || e != api.OK {
			t.Errorf("Vars of Op %d = %v, %d, want %v", o, l, e, want)
		}
	}
}

func TestVarsOfMany(t *testing.T) {
	r := rand.New(rand.NewSource(2))
	for range 30 {
		s := term.New()
		for _, n := range r.Perm(api.MaxVars)[:30] {
			variable(t, s, 8, n)
		}
		for range 40 {
			// Of those that came first: terms stay small enough for below.
			made(t, s, op(api.Add, 8, r.Intn(40)%s.Len(), r.Intn(s.Len())))
		}
		for id := range s.Len() {
			is := map[int]bool{}
			below(s, id, is)
			var want []int
			for n := range is {
				want = append(want, n)
			}
			slices.Sort(want)
			if l, e := s.Vars(id); !slices.Equal(l, want) || e != api.OK {
				t.Errorf("Vars(%d) = %v, %d, want %v", id, l, e, want)
			}
		}
	}
}

func TestVarsOfAll(t *testing.T) {
	s := term.New()
	last := variable(t, s, 8, 255)
	var want []int
	for n := 255; n >= 0; n-- {
		last = made(t, s, op(api.Add, 8, variable(t, s, 8, n), last))
		want = append(want, 255-n)
	}
	if l, e := s.Vars(last); !slices.Equal(l, want) || e != api.OK {
		t.Errorf("Vars = %v, %d", l, e)
	}
}

// TestVarsDeep: a chain as long as a store may be, of kids that both are the
// one below, so that there are more ways down than could be gone.
func TestVarsDeep(t *testing.T) {
	s := term.New()
	id := variable(t, s, 8, 42)
	for s.Len() < api.MaxNodes {
		id = made(t, s, op(api.Add, 8, id, id))
	}
	if l, e := s.Vars(id); !slices.Equal(l, []int{42}) || e != api.OK {
		t.Errorf("Vars = %v, %d", l, e)
	}
}

// TestVarsIsNew: an answer is the caller's, the room behind its end too.
func TestVarsIsNew(t *testing.T) {
	s := term.New()
	id := made(t, s, op(api.Add, 8, variable(t, s, 8, 3), variable(t, s, 8, 2)))
	first, _ := s.Vars(id)
	other, _ := s.Vars(id)
	for _, l := range [][]int{first[:cap(first)], other[:cap(other)]} {
		for i := range l {
			l[i] = 77
		}
		if again, e := s.Vars(id); !slices.Equal(again, []int{2, 3}) || e != api.OK {
			t.Errorf("Vars = %v, %d behind a change of its answer", again, e)
		}
	}
	first[0] = 1
	if other[0] != 77 {
		t.Errorf("two answers share memory")
	}
	if s.Width(2) != 8 || s.Width(3) != 8 || s.Width(77) != 0 {
		t.Errorf("widths changed")
	}
}

// TestVarsMakesNone: to ask is to change nothing.
func TestVarsMakesNone(t *testing.T) {
	s, ids := eachOp(t)
	was := tell(t, s)
	for _, id := range ids {
		s.Vars(id)
		s.Node(id)
	}
	s.Vars(-1)
	s.Node(s.Len())
	s.Width(200)
	was.same(t, s, "questions")
	if s.Width(200) != 0 {
		t.Errorf("Width(200) = %d", s.Width(200))
	}
}

func TestWidth(t *testing.T) {
	s := term.New()
	s.Const(16, 5)
	variable(t, s, 1, 0)
	variable(t, s, 64, 255)
	for _, x := range []struct{ n, want int }{
		{0, 1}, {255, 64}, {1, 0}, {5, 0}, {254, 0}, {256, 0}, {-1, 0}, {-255, 0}, {511, 0},
		{1 << 32, 0}, {math.MinInt, 0}, {math.MaxInt, 0},
	} {
		if w := s.Width(x.n); w != x.want {
			t.Errorf("Width(%d) = %d, want %d", x.n, w, x.want)
		}
	}
}

// TestNone: a store that is not there, and one that no call made.
func TestNone(t *testing.T) {
	for what, s := range map[string]*term.Store{"nil": nil, "zero": {}} {
		for range 2 {
			for _, n := range []api.Node{{}, op(api.Const, 8), op(api.Var, 8), op(api.Not, 8), {Op: 99, W: 70}} {
				id, e := s.Make(n)
				refused(t, what+" Make", n, id, e, api.ErrNil)
			}
			for _, w := range []int{-1, 0, 8, 65} {
				id, e := s.Const(w, 1)
				refused(t, what+" Const", w, id, e, api.ErrNil)
				id, e = s.Var(w, 1)
				refused(t, what+" Var", w, id, e, api.ErrNil)
			}
			for _, id := range []int{math.MinInt, -1, 0, 1, math.MaxInt} {
				if n, e := s.Node(id); n != (api.Node{}) || e != api.ErrNil {
					t.Errorf("%s Node(%d) = %v, %d", what, id, n, e)
				}
				if l, e := s.Vars(id); len(l) != 0 || e != api.ErrNil {
					t.Errorf("%s Vars(%d) = %v, %d", what, id, l, e)
				}
				if w := s.Width(id); w != 0 {
					t.Errorf("%s Width(%d) = %d", what, id, w)
				}
			}
			if s.Len() != 0 {
				t.Errorf("%s Len = %d", what, s.Len())
			}
		}
	}
}
