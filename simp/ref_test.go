package simp_test

// What the tests build stores with, and the chapter's words said once more, as a
// call within a call.

import (
	"math"
	"math/rand"
	"slices"
	"strconv"
	"testing"

	"augury/api"
	"augury/eval"
	"augury/rule"
	"augury/simp"
	"augury/term"
	"augury/text"
)

// These are all Ops that have two kids of one width.
var (
	ofTwo  = []api.Op{api.And, api.Or, api.Xor, api.Add, api.Sub, api.Mul, api.Udiv, api.Urem, api.Sdiv, api.Srem, api.Shl, api.Lshr, api.Ashr}
	oneBit = []api.Op{api.Eq, api.Ult, api.Slt}
)

// full is w bits, all set.
func full(w int) uint64 { return math.MaxUint64 >> (64 - w) }

// kids is the kids that a node has.
func kids(n api.Node) []int {
	switch {
	case n.Op == api.Const || n.Op == api.Var:
		return nil
	case n.Op == api.Ite:
		return n.Kids[:]
	case slices.Contains(ofTwo, n.Op), slices.Contains(oneBit, n.Op), n.Op == api.Concat:
		return n.Kids[:2]
	}
	return n.Kids[:1]
}

// maker is a store, and a Simp over it.
type maker struct {
	*testing.T
	s *term.Store
	p *simp.Simp
}

func newMaker(t *testing.T) maker {
	t.Helper()
	s := term.New()
	return maker{t, s, over(t, s)}
}

// over is a new Simp over a store.
func over(t *testing.T, s *term.Store) *simp.Simp {
	t.Helper()
	p, e := simp.New(s)
	if p == nil || e != api.OK {
		t.Fatalf("New: %v, %d", p, e)
	}
	return p
}

func (m maker) made(n api.Node) int {
	m.Helper()
	id, e := m.s.Make(n)
	if e != api.OK {
		m.Fatalf("Make(%v): %d", n, e)
	}
	return id
}

// of is a node of as many bits as its last kid.
func (m maker) of(o api.Op, kids ...int) int {
	m.Helper()
	n := api.Node{Op: o, W: m.node(kids[len(kids)-1]).W}
	copy(n.Kids[:], kids)
	return m.made(n)
}

func (m maker) node(id int) api.Node {
	m.Helper()
	n, e := m.s.Node(id)
	if e != api.OK {
		m.Fatalf("Node(%d): %d", id, e)
	}
	return n
}

// get is the node of a text.
func (m maker) get(x string) int {
	m.Helper()
	id, e := text.Get(m.s, x)
	if e != api.OK {
		m.Fatalf("Get(%s): %d", x, e)
	}
	return id
}

// put is the text of a node.
func (m maker) put(id int) string {
	m.Helper()
	x, e := text.Put(m.s, id)
	if e != api.OK {
		m.Fatalf("Put(%d): %d", id, e)
	}
	return x
}

// fill makes nodes until a store has as many as it may, but for some.
func (m maker) fill(room int) {
	m.Helper()
	for n := uint64(1 << 40); m.s.Len() < api.MaxNodes-room; n++ {
		m.made(api.Node{Op: api.Const, W: 64, N: n})
	}
}

// nodes is all nodes of a store.
func (m maker) nodes() []api.Node {
	m.Helper()
	var l []api.Node
	for id := range m.s.Len() {
		l = append(l, m.node(id))
	}
	return l
}

// below is a node and all below it, each once.
func (m maker) below(id int) []int {
	m.Helper()
	l, seen := []int{id}, map[int]bool{id: true}
	for i := 0; i < len(l); i++ {
		for _, kid := range kids(m.node(l[i])) {
			if !seen[kid] {
				seen[kid] = true
				l = append(l, kid)
			}
		}
	}
	return l
}

// do is the simple one of a node, which has to be one.
func (m maker) do(id int) int {
	m.Helper()
	to, e := m.p.Do(id)
	if e != api.OK {
		m.Fatalf("Do(%d) = %d, %d", id, to, e)
	}
	return to
}

// is reports a text whose simple one has another text than it should have.
func (m maker) is(x, want string) {
	m.Helper()
	if is := m.put(m.do(m.get(x))); is != want {
		m.Errorf("Do(%s) = %s, want %s", x, is, want)
	}
}

// refuses reports a Do that doesn't refuse, or that changes what is remembered.
func (m maker) refuses(id int, want api.Errno) {
	m.Helper()
	was := m.p.Done()
	if to, e := m.p.Do(id); to != 0 || e != want {
		m.Errorf("Do(%d) = %d, %d, want error %d", id, to, e, want)
	}
	if is := m.p.Done(); is != was {
		m.Errorf("Done = %d behind error %d, was %d", is, want, was)
	}
}

// simple reports a node that a rule fits, or that is above such a one.
func (m maker) simple(id int) {
	m.Helper()
	for _, id := range m.below(id) {
		if to, n, e := rule.Step(m.s, id); to != id || n != 0 || e != api.OK {
			m.Errorf("rule %d fits %d: %d, %d", n, id, to, e)
		}
	}
}

// remembers reports a Do of a node, or of one below it, or of their simple ones,
// all of which are simplified already, that goes through anything again.
func (m maker) remembers(id int) {
	m.Helper()
	done, long := m.p.Done(), m.s.Len()
	for _, id := range m.below(id) {
		to := m.do(id)
		if again := m.do(to); again != to {
			m.Errorf("Do(%d) = %d, Do of that = %d", id, to, again)
		}
	}
	if m.p.Done() != done || m.s.Len() != long {
		m.Errorf("Done = %d, Len = %d, were %d, %d", m.p.Done(), m.s.Len(), done, long)
	}
}

// alike reports two nodes that aren't the same vector.
func (m maker) alike(id, to int, a api.Assign) {
	m.Helper()
	l, e := eval.All(m.s, []int{id, to}, a)
	if e != api.OK || l[0] != l[1] {
		m.Errorf("%d is, %d is: %v, %d, under %v", id, to, l, e, a)
	}
}

// words is the chapter's words: what became of nodes so far, and how often each
// rule was done.
type words struct {
	maker
	done map[int]int
	met  [10]int
}

// simplify is what the words say of a node.
func (w *words) simplify(id int) int {
	w.Helper()
	if to, ok := w.done[id]; ok {
		return to
	}
	n := w.node(id)
	for i, kid := range kids(n) {
		n.Kids[i] = w.simplify(kid)
	}
	to, number, e := rule.Step(w.s, w.made(n))
	if e != api.OK {
		w.Fatalf("Step(%v): %d", n, e)
	}
	w.met[number]++
	if number != 0 {
		to = w.simplify(to)
	}
	w.done[id] = to
	return to
}

// drawer draws texts of terms; some of their parts stand in them again.
type drawer struct {
	*rand.Rand
	drawn map[int][]string
}

func newDrawer(seed int64) drawer {
	return drawer{rand.New(rand.NewSource(seed)), map[int][]string{}}
}

// say is a text of words.
func say(op string, words ...any) string {
	x := "(" + op
	for _, word := range words {
		switch word := word.(type) {
		case int:
			x += " " + strconv.Itoa(word)
		case string:
			x += " " + word
		}
	}
	return x + ")"
}

// leaf is a variable of w bits, one of three, or a constant.
func (d drawer) leaf(w int) string {
	bits := strconv.Itoa(w)
	n := []uint64{0, 1, full(w), d.Uint64() & full(w)}
	if i := d.Intn(8); i < len(n) {
		return "#" + bits + ":" + strconv.FormatUint(n[i], 10)
	}
	return "v" + strconv.Itoa(3*w+d.Intn(3)) + ":" + bits
}

// term is a text of w bits, with at most so many within each other.
func (d drawer) term(w, deep int) string {
	if old := d.drawn[w]; len(old) > 0 && d.Intn(4) == 0 {
		return old[d.Intn(len(old))]
	}
	if deep == 0 {
		return d.leaf(w)
	}
	x := d.made(w, deep-1)
	// Long ones again and again would soon be too long for a text.
	if len(x) < 200 {
		d.drawn[w] = append(d.drawn[w], x)
	}
	return x
}

// made is a text of w bits that has kids.
func (d drawer) made(w, deep int) string {
	switch d.Intn(8) {
	case 0:
		return say([]string{"not", "neg"}[d.Intn(2)], d.term(w, deep))
	case 1:
		return say("ite", d.term(1, deep), d.term(w, deep), d.term(w, deep))
	case 2:
		low := d.Intn(2) * d.Intn(65-w)
		above := d.Intn(2) * d.Intn(65-w-low)
		return say("extract", low, w, d.term(low+w+above, deep))
	case 3:
		kid := w - d.Intn(2)*d.Intn(w)
		return say([]string{"zext", "sext"}[d.Intn(2)], w, d.term(kid, deep))
	case 4, 5:
		if w == 1 {
			kid := 1 + d.Intn(9)
			return say(text.Name(oneBit[d.Intn(len(oneBit))]), d.term(kid, deep), d.term(kid, deep))
		}
		low := 1 + d.Intn(w-1)
		return say("concat", d.term(w-low, deep), d.term(low, deep))
	}
	return say(text.Name(ofTwo[d.Intn(len(ofTwo))]), d.term(w, deep), d.term(w, deep))
}

// assign is numbers of which some are small, some have all bits.
func (d drawer) assign() api.Assign {
	a := make(api.Assign, d.Intn(200))
	for i := range a {
		a[i] = []uint64{d.Uint64(), d.Uint64() & d.Uint64(), 0, math.MaxUint64, uint64(d.Intn(70))}[d.Intn(5)]
	}
	return a
}
