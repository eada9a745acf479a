package eval_test

import (
	"math"
	"math/rand"
	"slices"
	"testing"

	"augury/api"
	"augury/eval"
	"augury/term"
)

func TestExamples(t *testing.T) {
	m := newMaker(t)
	v := m.variable(8, 0)
	more := m.op(api.Add, 8, v, m.constant(8, 1))
	m.is(more, api.Assign{255}, vec(8, 0))
	m.is(v, api.Assign{257}, vec(8, 1))
	m.is(v, nil, vec(8, 0))
	if eval.True(m.s, v, api.Assign{1}) {
		t.Error("True of 8 bits")
	}
}

// TestOps: each Op's vector, worked out by hand.
func TestOps(t *testing.T) {
	for _, c := range []struct {
		o      api.Op
		w      int
		x, y   api.Bv
		want   uint64
		beside string
	}{
		{api.Not, 4, vec(4, 5), vec(4, 0), 10, ""},
		{api.Not, 1, vec(1, 1), vec(1, 0), 0, "of 1 bit"},
		{api.Not, 64, vec(64, 0), vec(64, 0), math.MaxUint64, "of 64 bits"},
		{api.Neg, 8, vec(8, 1), vec(8, 0), 255, ""},
		{api.Neg, 8, vec(8, 128), vec(8, 0), 128, "of the least worth"},
		{api.Neg, 64, vec(64, 0), vec(64, 0), 0, "of 0"},
		{api.And, 4, vec(4, 12), vec(4, 10), 8, ""},
		{api.Or, 4, vec(4, 12), vec(4, 10), 14, ""},
		{api.Xor, 4, vec(4, 12), vec(4, 10), 6, ""},
		{api.Add, 8, vec(8, 200), vec(8, 100), 44, "beyond the width"},
		{api.Add, 64, vec(64, math.MaxUint64), vec(64, 2), 1, "beyond 64 bits"},
		{api.Sub, 8, vec(8, 3), vec(8, 5), 254, "below 0"},
		{api.Sub, 8, vec(8, 5), vec(8, 3), 2, "the first less the second"},
		{api.Mul, 8, vec(8, 20), vec(8, 13), 4, "beyond the width"},
		{api.Udiv, 8, vec(8, 200), vec(8, 7), 28, ""},
		{api.Udiv, 8, vec(8, 7), vec(8, 0), 255, "by 0"},
		{api.Urem, 8, vec(8, 200), vec(8, 7), 4, ""},
		{api.Urem, 8, vec(8, 200), vec(8, 0), 200, "by 0"},
		{api.Sdiv, 8, vec(8, 249), vec(8, 2), 253, "rounded to 0"},
		{api.Sdiv, 8, vec(8, 249), vec(8, 0), 255, "by 0"},
		{api.Sdiv, 4, vec(4, 8), vec(4, 15), 8, "the least worth by -1"},
		{api.Sdiv, 64, vec(64, 1<<63), vec(64, math.MaxUint64), 1 << 63, "the least worth by -1"},
		{api.Srem, 8, vec(8, 249), vec(8, 2), 255, "as the first's sign"},
		{api.Srem, 8, vec(8, 249), vec(8, 0), 249, "by 0"},
		{api.Srem, 64, vec(64, 1<<63), vec(64, math.MaxUint64), 0, "the least worth by -1"},
		{api.Shl, 8, vec(8, 0x81), vec(8, 1), 2, ""},
		{api.Shl, 8, vec(8, 255), vec(8, 8), 0, "by the width"},
		{api.Lshr, 8, vec(8, 0x81), vec(8, 7), 1, ""},
		{api.Lshr, 64, vec(64, math.MaxUint64), vec(64, 64), 0, "by the width"},
		{api.Ashr, 8, vec(8, 0x81), vec(8, 7), 255, ""},
		{api.Ashr, 4, vec(4, 8), vec(4, 9), 15, "by more than the width"},
		{api.Ashr, 8, vec(8, 0x71), vec(8, 200), 0, "by more than the width"},
		{api.Eq, 1, vec(8, 9), vec(8, 9), 1, ""},
		{api.Eq, 1, vec(8, 9), vec(8, 8), 0, ""},
		{api.Ult, 1, vec(8, 127), vec(8, 128), 1, ""},
		{api.Ult, 1, vec(8, 128), vec(8, 127), 0, ""},
		{api.Ult, 1, vec(8, 128), vec(8, 128), 0, "of the same"},
		{api.Slt, 1, vec(8, 127), vec(8, 128), 0, "by worths"},
		{api.Slt, 1, vec(8, 128), vec(8, 127), 1, "by worths"},
		{api.Concat, 8, vec(4, 1), vec(4, 2), 18, "the first one above"},
		{api.Concat, 64, vec(1, 1), vec(63, 5), 1<<63 + 5, "of unlike widths"},
		{api.Zext, 8, vec(4, 9), vec(4, 0), 9, ""},
		{api.Zext, 4, vec(4, 9), vec(4, 0), 9, "to the same width"},
		{api.Sext, 8, vec(4, 9), vec(4, 0), 249, ""},
		{api.Sext, 64, vec(1, 1), vec(1, 0), math.MaxUint64, "to 64 bits"},
		{api.Sext, 4, vec(4, 9), vec(4, 0), 9, "to the same width"},
	} {
		m := newMaker(t)
		kids := []int{m.variable(int(c.x.W), 0), m.variable(int(c.y.W), 1)}
		id := m.op(c.o, c.w, kids[:kidsOf(c.o)]...)
		if b, e := eval.Eval(m.s, id, api.Assign{c.x.N, c.y.N}); b != vec(c.w, c.want) || e != api.OK {
			t.Errorf("Op %d %s of %v, %v = %v, %d: want %d bits %d", c.o, c.beside, c.x, c.y, b, e, c.w, c.want)
		}
	}
}

func TestExtract(t *testing.T) {
	m := newMaker(t)
	v, l := m.variable(16, 1), m.variable(64, 2)
	a := api.Assign{0, 0x1234, 1<<63 + 6}
	m.is(m.part(0, 16, v), a, vec(16, 0x1234))
	m.is(m.part(0, 4, v), a, vec(4, 4))
	m.is(m.part(4, 8, v), a, vec(8, 0x23))
	m.is(m.part(12, 4, v), a, vec(4, 1))
	m.is(m.part(2, 1, v), a, vec(1, 1))
	m.is(m.part(15, 1, v), a, vec(1, 0))
	m.is(m.part(63, 1, l), a, vec(1, 1))
	m.is(m.part(0, 64, l), a, vec(64, 1<<63+6))
}

func TestIte(t *testing.T) {
	m := newMaker(t)
	c, x, y := m.variable(1, 0), m.variable(8, 1), m.variable(8, 2)
	id := m.op(api.Ite, 8, c, x, y)
	m.is(id, api.Assign{1, 7, 9}, vec(8, 7))
	m.is(id, api.Assign{0, 7, 9}, vec(8, 9))
	m.is(id, api.Assign{3, 7, 9}, vec(8, 7))
	m.is(id, api.Assign{2, 7, 9}, vec(8, 9))
	m.is(m.op(api.Ite, 8, c, y, x), api.Assign{1, 7, 9}, vec(8, 9))
	m.is(m.op(api.Ite, 1, c, c, m.op(api.Not, 1, c)), api.Assign{0, 7, 9}, vec(1, 1))
}

// onTwo is a node of each Op on two variables of w bits, 0 and 1, and on one
// of 1 bit, 2.
func onTwo(m maker, w int) []int {
	x, y, c := m.variable(w, 0), m.variable(w, 1), m.variable(1, 2)
	ids := []int{m.op(api.Ite, w, c, x, y), m.op(api.Ite, w, c, y, x)}
	for _, o := range ofOne {
		ids = append(ids, m.op(o, w, x))
	}
	for _, o := range ofTwo {
		ids = append(ids, m.op(o, w, x, y), m.op(o, w, x, x))
	}
	for _, o := range oneBit {
		ids = append(ids, m.op(o, 1, x, y), m.op(o, 1, y, y))
	}
	if w <= 32 {
		ids = append(ids, m.op(api.Concat, 2*w, x, y))
	}
	if w < 64 {
		ids = append(ids, m.op(api.Concat, w+1, x, c), m.op(api.Concat, w+1, c, x))
	}
	for _, o := range wider {
		ids = append(ids, m.op(o, w, x), m.op(o, (w+64)/2, x), m.op(o, 64, x))
	}
	return append(ids, m.part(0, 1, x), m.part(w-1, 1, x), m.part(w/2, w-w/2, x), m.part(0, w, x))
}

// TestEdges: each Op at edges of width and number.
func TestEdges(t *testing.T) {
	for _, w := range widths {
		m := newMaker(t)
		ids := onTwo(m, w)
		for _, x := range edges(w) {
			for _, y := range edges(w) {
				for c := range uint64(2) {
					for _, id := range ids {
						m.as(id, api.Assign{x, y, c})
					}
				}
			}
		}
	}
}

func TestConst(t *testing.T) {
	m := newMaker(t)
	for w := 1; w <= 64; w++ {
		for _, n := range edges(w) {
			id := m.constant(w, n)
			for _, a := range []api.Assign{nil, {}, {9}, {math.MaxUint64, 5, 6}} {
				m.is(id, a, vec(w, n))
			}
		}
	}
}

// TestVar: numbers with more bits than the variable has.
func TestVar(t *testing.T) {
	for w := 1; w <= 64; w++ {
		m := newMaker(t)
		v, last := m.variable(w, 3), m.variable(w, 255)
		a := make(api.Assign, 256)
		for _, n := range append(edges(64), 1<<w, 1<<w+1, 3<<w+1, 256, 257, 1<<32+7, 1<<63) {
			a[3], a[255] = n, n
			m.is(v, a, vec(w, cut(w, n)))
			m.is(last, a, vec(w, cut(w, n)))
		}
	}
}

// TestLengths: assignments that are shorter than the variables, and longer.
func TestLengths(t *testing.T) {
	m := newMaker(t)
	v, x, last := m.variable(8, 0), m.variable(16, 2), m.variable(64, 255)
	sum := m.op(api.Add, 16, m.op(api.Zext, 16, v), x)
	long := make(api.Assign, 1000)
	for i := range long {
		long[i] = uint64(i) + 1000
	}
	for _, c := range []struct {
		a              api.Assign
		v, x, sum, end uint64
	}{
		{nil, 0, 0, 0, 0},
		{api.Assign{}, 0, 0, 0, 0},
		{long[:0], 0, 0, 0, 0},
		{long[:1], 1000 - 3*256, 0, 1000 - 3*256, 0},
		{long[:2], 1000 - 3*256, 0, 1000 - 3*256, 0},
		{long[:3], 1000 - 3*256, 1002, 2002 - 3*256, 0},
		{long[:255], 1000 - 3*256, 1002, 2002 - 3*256, 0},
		{long[:256], 1000 - 3*256, 1002, 2002 - 3*256, 1255},
		{long[:257], 1000 - 3*256, 1002, 2002 - 3*256, 1255},
		{long, 1000 - 3*256, 1002, 2002 - 3*256, 1255},
	} {
		m.is(v, c.a, vec(8, c.v))
		m.is(x, c.a, vec(16, c.x))
		m.is(sum, c.a, vec(16, c.sum))
		m.is(last, c.a, vec(64, c.end))
	}
}

// randomly makes a store of nodes of all Ops, of 1 and of 8 bits.
func randomly(t *testing.T, r *rand.Rand, count int) maker {
	m := newMaker(t)
	bits, bytes := []int{m.variable(1, 9)}, []int{m.variable(8, 0)}
	pick := func(l []int) int { return l[r.Intn(len(l))] }
	for m.s.Len() < count {
		x, y, c := pick(bytes), pick(bytes), pick(bits)
		bytes = append(bytes, m.op(ofTwo[r.Intn(len(ofTwo))], 8, x, y), m.op(api.Ite, 8, c, x, y))
		bits = append(bits, m.op(oneBit[r.Intn(len(oneBit))], 1, x, y))
		switch r.Intn(8) {
		case 0:
			bytes = append(bytes, m.constant(8, uint64(r.Intn(256))))
		case 1:
			bytes = append(bytes, m.variable(8, 10+r.Intn(10)))
		case 2:
			bytes = append(bytes, m.op(ofOne[r.Intn(len(ofOne))], 8, x))
		case 3:
			bytes = append(bytes, m.part(r.Intn(9), 8, m.op(api.Concat, 16, x, y)))
		case 4:
			bytes = append(bytes, m.op(wider[r.Intn(len(wider))], 8, m.part(r.Intn(5), 4, x)))
		case 5:
			bytes = append(bytes, m.op(wider[r.Intn(len(wider))], 8, c))
		case 6:
			bits = append(bits, m.op(api.Xor, 1, c, pick(bits)), m.op(api.Not, 1, c))
		case 7:
			bits = append(bits, m.part(r.Intn(8), 1, x))
		}
	}
	return m
}

// someAssign is an assignment of whatever length and numbers.
func someAssign(r *rand.Rand) api.Assign {
	a := make(api.Assign, r.Intn(24))
	for i := range a {
		a[i] = r.Uint64() >> r.Intn(64)
	}
	return a
}

// TestMany: all nodes of stores of many, each as its kids make it.
func TestMany(t *testing.T) {
	r := rand.New(rand.NewSource(1))
	for range 10 {
		m := randomly(t, r, 200)
		for range 20 {
			a := someAssign(r)
			ids := r.Perm(m.s.Len())
			l, e := eval.All(m.s, ids, a)
			if len(l) != len(ids) || e != api.OK {
				t.Fatalf("All: %d of %d, %d", len(l), len(ids), e)
			}
			for i, id := range ids {
				m.as(id, a)
				m.is(id, a, l[i])
			}
		}
	}
}

// TestDeep: a chain as long as a store may be.
func TestDeep(t *testing.T) {
	m := newMaker(t)
	id := m.variable(64, 7)
	for m.s.Len() < api.MaxNodes-1 {
		// Both together are 1 more.
		id = m.op(api.Neg, 64, m.op(api.Not, 64, id))
	}
	more := uint64(m.s.Len()-1) / 2
	for _, n := range []uint64{0, 5, math.MaxUint64, 1 << 63} {
		m.is(id, api.Assign{7: n}, vec(64, n+more))
	}
	m.is(id, nil, vec(64, more))
	l, e := eval.All(m.s, []int{id, id - 1, 0, id}, api.Assign{7: 3})
	if !slices.Equal(l, []api.Bv{vec(64, 3+more), vec(64, ^(3 + more - 1)), vec(64, 3), vec(64, 3+more)}) || e != api.OK {
		t.Errorf("All = %v, %d", l, e)
	}
}

// TestShared: nodes whose kids are kids of others too, so that there are more
// ways down than could be gone.
func TestShared(t *testing.T) {
	m := newMaker(t)
	ids := []int{m.variable(64, 0), m.variable(64, 1)}
	x, y := uint64(3), uint64(5)
	want := []api.Bv{vec(64, x), vec(64, y)}
	for i := 1; m.s.Len() < 20000; i++ {
		ids = append(ids, m.op(api.Add, 64, ids[i], ids[i-1]))
		x, y = y, x+y
		want = append(want, vec(64, y))
	}
	m.is(ids[len(ids)-1], api.Assign{3, 5}, vec(64, y))
	l, e := eval.All(m.s, ids, api.Assign{3, 5})
	if !slices.Equal(l, want) || e != api.OK {
		t.Errorf("All: %d of %d, %d", len(l), len(want), e)
	}
	twice := ids[0]
	for range 200 {
		twice = m.op(api.Xor, 64, m.op(api.Mul, 64, twice, twice), twice)
	}
	n := uint64(11)
	for range 200 {
		n = n*n ^ n
	}
	m.is(twice, api.Assign{11}, vec(64, n))
}

func TestNotThere(t *testing.T) {
	empty, m := term.New(), newMaker(t)
	one := m.constant(1, 1)
	for _, s := range []*term.Store{empty, m.s} {
		for _, id := range notThere(s) {
			for _, a := range []api.Assign{nil, {1, 1}} {
				if b, e := eval.Eval(s, id, a); b != (api.Bv{}) || e != api.ErrArg {
					t.Errorf("Eval(%d) = %v, %d", id, b, e)
				}
				if eval.True(s, id, a) {
					t.Errorf("True(%d)", id)
				}
				for _, ids := range [][]int{{id}, {id, id}} {
					if l, e := eval.All(s, ids, a); len(l) != 0 || e != api.ErrArg {
						t.Errorf("All(%v) = %v, %d", ids, l, e)
					}
				}
			}
		}
	}
	if b, e := eval.Eval(empty, 0, nil); b != (api.Bv{}) || e != api.ErrArg {
		t.Errorf("Eval(0) = %v, %d, of a store without nodes", b, e)
	}
	m.is(one, nil, vec(1, 1))
	if empty.Len() != 0 || m.s.Len() != 1 {
		t.Errorf("Len = %d, %d", empty.Len(), m.s.Len())
	}
}

// TestNone: a store that is not there, and one that no call made.
func TestNone(t *testing.T) {
	for what, s := range map[string]*term.Store{"nil": nil, "zero": {}} {
		for _, a := range []api.Assign{nil, {1, 2}} {
			for _, id := range []int{math.MinInt, -1, 0, 1, math.MaxInt} {
				if b, e := eval.Eval(s, id, a); b != (api.Bv{}) || e != api.ErrNil {
					t.Errorf("%s: Eval(%d) = %v, %d", what, id, b, e)
				}
				if eval.True(s, id, a) {
					t.Errorf("%s: True(%d)", what, id)
				}
				if l, e := eval.All(s, []int{id, 0}, a); len(l) != 0 || e != api.ErrNil {
					t.Errorf("%s: All of %d = %v, %d", what, id, l, e)
				}
			}
			for _, ids := range [][]int{nil, {}} {
				if l, e := eval.All(s, ids, a); len(l) != 0 || e != api.ErrNil {
					t.Errorf("%s: All of none = %v, %d", what, l, e)
				}
			}
		}
	}
}

func TestTrue(t *testing.T) {
	m := newMaker(t)
	c, v := m.variable(1, 0), m.variable(8, 1)
	less := m.op(api.Ult, 1, v, m.constant(8, 5))
	for _, x := range []struct {
		id   int
		a    api.Assign
		want bool
	}{
		{c, api.Assign{1}, true}, {c, api.Assign{3}, true}, {c, api.Assign{math.MaxUint64}, true},
		{c, api.Assign{0}, false}, {c, api.Assign{2}, false}, {c, nil, false},
		{v, api.Assign{1, 1}, false}, {v, api.Assign{1, 255}, false}, {v, api.Assign{1, 0}, false},
		{less, api.Assign{0, 4}, true}, {less, api.Assign{0, 5}, false}, {less, nil, true}, {less, api.Assign{0, 260}, true},
		{m.op(api.Not, 1, c), nil, true}, {m.op(api.Not, 1, c), api.Assign{1}, false},
		{m.constant(1, 1), nil, true}, {m.constant(1, 0), nil, false},
		{m.part(0, 1, v), api.Assign{0, 1}, true}, {m.part(1, 1, v), api.Assign{0, 1}, false},
	} {
		if got := eval.True(m.s, x.id, x.a); got != x.want {
			t.Errorf("True(%d, %v) = %v", x.id, x.a, got)
		}
	}
	for w := 2; w <= 64; w++ {
		if eval.True(m.s, m.constant(w, 1), nil) || eval.True(m.s, m.constant(w, cut(w, math.MaxUint64)), nil) {
			t.Errorf("True of %d bits", w)
		}
	}
}

func TestAll(t *testing.T) {
	m := newMaker(t)
	v, w := m.variable(8, 0), m.variable(4, 1)
	not, big := m.op(api.Not, 8, v), m.op(api.Concat, 12, v, w)
	a := api.Assign{300, 17}
	for _, c := range []struct {
		ids  []int
		want []api.Bv
	}{
		{nil, nil}, {[]int{}, nil},
		{[]int{v}, []api.Bv{vec(8, 44)}},
		{[]int{v, w}, []api.Bv{vec(8, 44), vec(4, 1)}},
		{[]int{w, v}, []api.Bv{vec(4, 1), vec(8, 44)}},
		{[]int{v, v, v}, []api.Bv{vec(8, 44), vec(8, 44), vec(8, 44)}},
		{[]int{big, not, v, big, w, not}, []api.Bv{vec(12, 705), vec(8, 211), vec(8, 44), vec(12, 705), vec(4, 1), vec(8, 211)}},
	} {
		if l, e := eval.All(m.s, c.ids, a); !slices.Equal(l, c.want) || e != api.OK {
			t.Errorf("All(%v) = %v, %d: want %v, 0", c.ids, l, e, c.want)
		}
	}
	if l, e := eval.All(term.New(), nil, a); len(l) != 0 || e != api.OK {
		t.Errorf("All of none = %v, %d, of a store without nodes", l, e)
	}
	ids := make([]int, 100000)
	for i := range ids {
		ids[i] = []int{v, w, not, big}[i%4]
	}
	l, e := eval.All(m.s, ids, a)
	if len(l) != len(ids) || e != api.OK {
		t.Fatalf("All: %d of %d, %d", len(l), len(ids), e)
	}
	for i, b := range l {
		if want := []api.Bv{vec(8, 44), vec(4, 1), vec(8, 211), vec(12, 705)}[i%4]; b != want {
			t.Fatalf("All: %v at %d, want %v", b, i, want)
		}
	}
}

// TestAllRefuses: one number that no node has, wherever it stands, and no
// vector is answered.
func TestAllRefuses(t *testing.T) {
	m := newMaker(t)
	v := m.variable(8, 0)
	not := m.op(api.Not, 8, v)
	for _, bad := range notThere(m.s) {
		for _, ids := range [][]int{{bad, v}, {v, bad}, {v, not, bad}, {bad, v, bad, not}, {not, bad, v}, {v, v, v, v, bad}} {
			if l, e := eval.All(m.s, ids, nil); len(l) != 0 || e != api.ErrArg {
				t.Errorf("All(%v) = %v, %d", ids, l, e)
			}
			if l, e := eval.All(nil, ids, nil); len(l) != 0 || e != api.ErrNil {
				t.Errorf("All(%v) of no store = %v, %d", ids, l, e)
			}
		}
	}
	if l, e := eval.All(m.s, []int{v, not}, nil); !slices.Equal(l, []api.Bv{vec(8, 0), vec(8, 255)}) || e != api.OK {
		t.Errorf("All = %v, %d behind refusals", l, e)
	}
}

// TestOtherVariables: those that are not below a node change nothing.
func TestOtherVariables(t *testing.T) {
	r := rand.New(rand.NewSource(2))
	m := randomly(t, r, 150)
	for id := range m.s.Len() {
		vars, _ := m.s.Vars(id)
		a := someAssign(r)
		want, _ := eval.Eval(m.s, id, a)
		for range 10 {
			b := make(api.Assign, 300)
			for n := range b {
				if b[n] = r.Uint64(); slices.Contains(vars, n) {
					b[n] = 0
					if n < len(a) {
						b[n] = a[n]
					}
				}
			}
			m.is(id, b, want)
		}
	}
}

// TestNodesBehind: what is made behind, in the store and in another one,
// changes nothing.
func TestNodesBehind(t *testing.T) {
	r := rand.New(rand.NewSource(3))
	m := randomly(t, r, 60)
	a := api.Assign{200, 11, 12, 13, 14, 15, 16, 17, 18, 1}
	was := m.s.Len()
	ids := r.Perm(was)
	want, _ := eval.All(m.s, ids, a)
	for range 50 {
		other := randomly(t, r, 60)
		eval.All(other.s, ids, api.Assign{1, 2, 3})
		x, y := r.Intn(was), r.Intn(m.s.Len())
		m.s.Make(api.Node{Op: api.Mul, W: 8, Kids: [3]int{x, y}})
		m.s.Make(api.Node{Op: api.Eq, W: 1, Kids: [3]int{x, y}})
		m.variable(5, 30+r.Intn(100))
		m.constant(8, uint64(r.Intn(256)))
		if l, e := eval.All(m.s, ids, a); !slices.Equal(l, want) || e != api.OK {
			t.Fatalf("All = %v, %d, was %v, with %d nodes", l, e, want, m.s.Len())
		}
	}
	for i, id := range ids {
		m.is(id, a, want[i])
	}
}

// TestNothingKept: another assignment, and another store whose nodes have the
// same numbers, have answers of their own.
func TestNothingKept(t *testing.T) {
	m, other := newMaker(t), newMaker(t)
	id := m.op(api.Not, 8, m.variable(8, 0))
	if other.op(api.Neg, 8, other.variable(8, 1)) != id {
		t.Fatal("other numbers")
	}
	a := api.Assign{1, 2}
	for range 3 {
		a[0], a[1] = 1, 2
		m.is(id, a, vec(8, 254))
		other.is(id, a, vec(8, 254))
		a[0], a[1] = 2, 1
		m.is(id, a, vec(8, 253))
		other.is(id, a, vec(8, 255))
		m.is(id, nil, vec(8, 255))
		other.is(id, nil, vec(8, 0))
	}
}

// TestHandedIn: what is handed in stays as it is, the room behind its end too.
func TestHandedIn(t *testing.T) {
	m := newMaker(t)
	v, w, c := m.variable(8, 0), m.variable(8, 5), m.constant(8, 9)
	sum := m.op(api.Add, 8, m.op(api.Mul, 8, v, w), c)
	bit := m.op(api.Eq, 1, sum, c)
	was := nodes(t, m.s)
	ids := []int{bit, v, sum, v, w, c, 77, 78, 79, 80, 81, 82}
	a := api.Assign{1000, 2000, 3000, 4000, 5000, 6000, 7000, 8000, 9000}
	ids0, a0 := slices.Clone(ids), slices.Clone(a)
	for end := range 6 {
		eval.All(m.s, ids[:end+1], a[:end])
		eval.All(m.s, ids[:7], a[:end])
		for _, id := range ids {
			eval.Eval(m.s, id, a[:end])
			eval.True(m.s, id, a[:end])
		}
	}
	if !slices.Equal(ids, ids0) {
		t.Errorf("numbers %v, were %v", ids, ids0)
	}
	if !slices.Equal(a, a0) {
		t.Errorf("assignment %v, was %v", a, a0)
	}
	if now := nodes(t, m.s); !slices.Equal(now, was) {
		t.Errorf("nodes %v, were %v", now, was)
	}
	for n, w := range []int{8, 0, 0, 0, 0, 8} {
		if m.s.Width(n) != w {
			t.Errorf("Width(%d) = %d", n, m.s.Width(n))
		}
	}
}

// TestAnsweredIsNew: an answer is the caller's, the room behind its end too.
func TestAnsweredIsNew(t *testing.T) {
	m := newMaker(t)
	v := m.variable(8, 0)
	ids := []int{v, m.op(api.Not, 8, v), v}
	a := api.Assign{6}
	want := []api.Bv{vec(8, 6), vec(8, 249), vec(8, 6)}
	first, _ := eval.All(m.s, ids, a)
	other, _ := eval.All(m.s, ids, a)
	for _, l := range [][]api.Bv{first, other} {
		if !slices.Equal(l, want) {
			t.Errorf("All = %v behind a change of another answer", l)
		}
		l = l[:cap(l)]
		for i := range l {
			l[i] = vec(3, 3)
		}
	}
	if l, e := eval.All(m.s, ids, a); !slices.Equal(l, want) || e != api.OK {
		t.Errorf("All = %v, %d behind a change of its answer", l, e)
	}
	for i, id := range ids {
		m.is(id, a, want[i])
	}
}

// TestFull: a store that has room for no node more.
func TestFull(t *testing.T) {
	m := newMaker(t)
	v := m.variable(8, 0)
	for i := m.s.Len(); i < api.MaxNodes-1; i++ {
		m.constant(64, uint64(i))
	}
	last := m.op(api.Not, 8, v)
	m.is(last, api.Assign{7}, vec(8, 248))
	m.is(last-1, nil, vec(64, uint64(last-1)))
	if m.s.Len() != api.MaxNodes {
		t.Errorf("Len = %d", m.s.Len())
	}
	if b, e := eval.Eval(m.s, api.MaxNodes, nil); b != (api.Bv{}) || e != api.ErrArg {
		t.Errorf("Eval = %v, %d", b, e)
	}
}
