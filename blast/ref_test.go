package blast_test

// What the tests build blasters with, and what chapter 9 says of their clauses,
// asked by cnf and eval.

import (
	"math"
	"math/rand"
	"slices"
	"strconv"
	"testing"

	"augury/api"
	"augury/blast"
	"augury/cnf"
	"augury/eval"
	"augury/term"
	"augury/text"
)

// These are all Ops that have two kids of one width.
var (
	ofTwo  = []api.Op{api.And, api.Or, api.Xor, api.Add, api.Sub, api.Mul, api.Udiv, api.Urem, api.Sdiv, api.Srem, api.Shl, api.Lshr, api.Ashr}
	oneBit = []api.Op{api.Eq, api.Ult, api.Slt}
)

// full is w bits, all set.
func full(w int) uint64 { return math.MaxUint64 >> (64 - w) }

// maker is a store, and a Blaster over it.
type maker struct {
	*testing.T
	s *term.Store
	b *blast.Blaster
}

func newMaker(t *testing.T) maker {
	t.Helper()
	s := term.New()
	return maker{t, s, over(t, s)}
}

// over is a new Blaster over a store.
func over(t *testing.T, s *term.Store) *blast.Blaster {
	t.Helper()
	b, e := blast.New(s)
	if b == nil || e != api.OK {
		t.Fatalf("New: %v, %d", b, e)
	}
	return b
}

// get is the node of a text.
func (m maker) get(x string) int {
	m.Helper()
	id, e := text.Get(m.s, x)
	if e != api.OK {
		m.Fatalf("Get(%s): %d", x, e)
	}
	return id
}

func (m maker) made(n api.Node) int {
	m.Helper()
	id, e := m.s.Make(n)
	if e != api.OK {
		m.Fatalf("Make(%v): %d", n, e)
	}
	return id
}

// of is a node of as many bits as its last kid.
func (m maker) of(o api.Op, kids ...int) int {
	m.Helper()
	last, _ := m.s.Node(kids[len(kids)-1])
	n := api.Node{Op: o, W: last.W}
	copy(n.Kids[:], kids)
	return m.made(n)
}

// bits is a node's literals, which has to have some: one for each of its bits.
func (m maker) bits(id int) []int {
	m.Helper()
	n, _ := m.s.Node(id)
	l, e := m.b.Bits(id)
	if e != api.OK || len(l) != int(n.W) {
		m.Fatalf("Bits(%d) = %d, %d, of %d bits", id, l, e, n.W)
	}
	return l
}

// refuses reports a Bits that doesn't refuse.
func (m maker) refuses(id int, want api.Errno) {
	m.Helper()
	if l, e := m.b.Bits(id); len(l) != 0 || e != want {
		m.Errorf("Bits(%d) = %d, %d, want error %d", id, l, e, want)
	}
}

// given is the bits of some variables as an assignment says them.
func (m maker) given(a api.Assign, vars []int) []int {
	m.Helper()
	var l []int
	for _, v := range vars {
		bits := m.b.Var(v)
		if len(bits) == 0 || len(bits) != m.s.Width(v) {
			m.Fatalf("Var(%d) = %d, of %d bits", v, bits, m.s.Width(v))
		}
		for i, bit := range bits {
			if v >= len(a) || a[v]>>i&1 == 0 {
				bit = -bit
			}
			l = append(l, bit)
		}
	}
	return l
}

// all is all variables that have bits.
func (m maker) all() []int {
	var l []int
	for v := range api.MaxVars {
		if len(m.b.Var(v)) > 0 {
			l = append(l, v)
		}
	}
	return l
}

// worth is what a list of literals says where these ones are so; it has to be
// decided.
func (m maker) worth(bits []int, so map[int]bool) uint64 {
	m.Helper()
	var n uint64
	for i, l := range bits {
		if so[l] == so[-l] {
			m.Fatalf("literal %d: %t, its not: %t", l, so[l], so[-l])
		}
		if so[l] {
			n |= 1 << i
		}
	}
	return n
}

// units is what follows of some literals.
func (m maker) units(c api.Cnf, given []int) map[int]bool {
	m.Helper()
	l, ok := cnf.Units(c, given)
	if !ok {
		m.Fatalf("Units of %d: no", given)
	}
	so := map[int]bool{}
	for _, l := range l {
		so[l] = true
	}
	return so
}

// follows reports nodes whose bits don't follow of their variables as eval has
// them; and clauses' variables that don't follow, or are no model.
func (m maker) follows(a api.Assign, ids ...int) {
	m.Helper()
	var bits [][]int
	for _, id := range ids {
		bits = append(bits, m.bits(id))
	}
	c := m.b.Cnf()
	so := m.units(c, m.given(a, m.all()))
	model := make([]bool, c.Vars+1)
	for v := 1; v <= c.Vars; v++ {
		if so[v] == so[-v] {
			m.Fatalf("variable %d: %t, its not: %t", v, so[v], so[-v])
		}
		model[v] = so[v]
	}
	if !cnf.May(c) || !cnf.Holds(c, model) {
		m.Fatalf("under %d the clauses have no model", a)
	}
	want, _ := eval.All(m.s, ids, a)
	for i, id := range ids {
		if is := m.worth(bits[i], so); is != want[i].N {
			x, _ := text.Put(m.s, id)
			m.Fatalf("%s is %d, want %d, under %d", x, is, want[i].N, a)
		}
	}
	m.says(model, a)
}

// alone reports nodes whose bits don't follow, as eval has them, of the
// variables below them alone.
func (m maker) alone(a api.Assign, ids ...int) {
	m.Helper()
	for _, id := range ids {
		bits := m.bits(id)
		vars, _ := m.s.Vars(id)
		want, _ := eval.Eval(m.s, id, a)
		if is := m.worth(bits, m.units(m.b.Cnf(), m.given(a, vars))); is != want.N {
			x, _ := text.Put(m.s, id)
			m.Fatalf("%s is %d, by its variables alone, want %d, under %d", x, is, want.N, a)
		}
	}
}

// says reports a Model that isn't the assignment, as far as it was asked for.
func (m maker) says(model []bool, a api.Assign) {
	m.Helper()
	var want api.Assign
	for _, v := range m.all() {
		for len(want) <= v {
			want = append(want, 0)
		}
		if v < len(a) {
			want[v] = a[v] & full(m.s.Width(v))
		}
	}
	if is := m.b.Model(model); !slices.Equal(is, want) {
		m.Errorf("Model = %d, want %d", is, want)
	}
}

// same tells whether these are the same clauses.
func same(c, d api.Cnf) bool {
	return c.Vars == d.Vars && slices.EqualFunc(c.Clauses, d.Clauses, slices.Equal[[]int])
}

// isNothing tells whether c is the zero value.
func isNothing(c api.Cnf) bool { return c.Vars == 0 && len(c.Clauses) == 0 }

// say is a text of words.
func say(op string, words ...any) string {
	x := "(" + op
	for _, word := range words {
		switch word := word.(type) {
		case int:
			x += " " + strconv.Itoa(word)
		case string:
			x += " " + word
		}
	}
	return x + ")"
}

// drawer draws texts of terms; some of their parts stand in them again.
type drawer struct {
	*rand.Rand
	drawn map[int][]string
}

func newDrawer(seed int64) drawer {
	return drawer{rand.New(rand.NewSource(seed)), map[int][]string{}}
}

// leaf is a variable of w bits, one of three, or a constant.
func (d drawer) leaf(w int) string {
	bits := strconv.Itoa(w)
	n := []uint64{0, 1, full(w), d.Uint64() & full(w)}
	if i := d.Intn(8); i < len(n) {
		return "#" + bits + ":" + strconv.FormatUint(n[i], 10)
	}
	return "v" + strconv.Itoa(3*w+d.Intn(3)) + ":" + bits
}

// term is a text of w bits, with at most so many within each other.
func (d drawer) term(w, deep int) string {
	if old := d.drawn[w]; len(old) > 0 && d.Intn(4) == 0 {
		return old[d.Intn(len(old))]
	}
	if deep == 0 {
		return d.leaf(w)
	}
	x := d.made(w, deep-1)
	// Long ones again and again would soon be too long for a text.
	if len(x) < 200 {
		d.drawn[w] = append(d.drawn[w], x)
	}
	return x
}

// made is a text of w bits that has kids.
func (d drawer) made(w, deep int) string {
	switch d.Intn(8) {
	case 0:
		return say([]string{"not", "neg"}[d.Intn(2)], d.term(w, deep))
	case 1:
		return say("ite", d.term(1, deep), d.term(w, deep), d.term(w, deep))
	case 2:
		low := d.Intn(2) * d.Intn(20-w)
		above := d.Intn(2) * d.Intn(20-w-low)
		return say("extract", low, w, d.term(low+w+above, deep))
	case 3:
		kid := w - d.Intn(2)*d.Intn(w)
		return say([]string{"zext", "sext"}[d.Intn(2)], w, d.term(kid, deep))
	case 4, 5:
		if w == 1 {
			kid := 1 + d.Intn(9)
			return say(text.Name(oneBit[d.Intn(len(oneBit))]), d.term(kid, deep), d.term(kid, deep))
		}
		low := 1 + d.Intn(w-1)
		return say("concat", d.term(w-low, deep), d.term(low, deep))
	}
	return say(text.Name(ofTwo[d.Intn(len(ofTwo))]), d.term(w, deep), d.term(w, deep))
}

// assign is numbers of which some are small, some have all bits, and some have
// more bits than their variables.
func (d drawer) assign() api.Assign {
	a := make(api.Assign, d.Intn(64))
	for i := range a {
		a[i] = []uint64{d.Uint64(), d.Uint64() & d.Uint64(), 0, math.MaxUint64, uint64(d.Intn(70))}[d.Intn(5)]
	}
	return a
}
