package solve_test

// What the tests build solvers with; and a solver together with all that it was
// given, each answer of which is held against the promises: all assignments are
// gone through one by one.

import (
	"math"
	"math/rand"
	"slices"
	"strconv"
	"testing"

	"augury/api"
	"augury/eval"
	"augury/simp"
	"augury/solve"
	"augury/term"
	"augury/text"
)

const (
	leastInt    = math.MinInt
	greatestInt = math.MaxInt
	// few is so many bits of variables that all assignments are gone through.
	few = 9
)

// get is the node of a text.
func get(t *testing.T, s *term.Store, x string) int {
	t.Helper()
	id, e := text.Get(s, x)
	if e != api.OK {
		t.Fatalf("Get(%s): %d", x, e)
	}
	return id
}

// over is a new solver over a store.
func over(t *testing.T, s *term.Store) *solve.Solver {
	t.Helper()
	p, e := solve.New(s)
	if p == nil || e != api.OK {
		t.Fatalf("New: %v, %d", p, e)
	}
	return p
}

// fill makes nodes until a store has as many as it may, but for some.
func fill(t *testing.T, s *term.Store, room int) {
	t.Helper()
	for n := uint64(1 << 40); s.Len() < api.MaxNodes-room; n++ {
		if _, e := s.Const(64, n); e != api.OK {
			t.Fatalf("Const: %d", e)
		}
	}
}

// kept is a solver, its store, what is asserted in each of its levels, how often
// it was asked, and which questions it answered.
type kept struct {
	*testing.T
	s        *term.Store
	p        *solve.Solver
	m        *simp.Simp // another one than the solver's
	levels   [][]int
	checks   int
	solved   int
	answered map[string]api.Sat
}

func newKept(t *testing.T) *kept {
	t.Helper()
	s := term.New()
	m, _ := simp.New(s)
	return &kept{T: t, s: s, p: over(t, s), m: m, levels: [][]int{nil}, answered: map[string]api.Sat{}}
}

func (k *kept) get(x string) int {
	k.Helper()
	return get(k.T, k.s, x)
}

func (k *kept) push() {
	k.Helper()
	if e := k.p.Push(); e != api.OK {
		k.Fatalf("Push: %d", e)
	}
	k.levels = append(k.levels, nil)
}

func (k *kept) pop() {
	k.Helper()
	if e := k.p.Pop(); e != api.OK {
		k.Fatalf("Pop: %d", e)
	}
	k.levels = k.levels[:len(k.levels)-1]
}

// assert asserts terms in the newest level.
func (k *kept) assert(texts ...string) {
	k.Helper()
	for _, x := range texts {
		k.assertNode(k.get(x))
	}
}

func (k *kept) assertNode(id int) {
	k.Helper()
	if e := k.p.Assert(id); e != api.OK {
		k.Fatalf("Assert(%d): %d", id, e)
	}
	last := len(k.levels) - 1
	k.levels[last] = append(k.levels[last], id)
}

// question is all that is to be true, if a term is checked.
func (k *kept) question(id int) []int { return append(slices.Concat(k.levels...), id) }

// key is a question's terms, in order, each once.
func key(question []int) string {
	q := slices.Clone(question)
	slices.Sort(q)
	x := ""
	for _, id := range slices.Compact(q) {
		x += strconv.Itoa(id) + " "
	}
	return x
}

// ask is the answer of a Check, held against all that is promised of it.
func (k *kept) ask(id, budget int) (api.Sat, api.Assign) {
	k.Helper()
	is, a, e := k.p.Check(id, budget)
	if e != api.OK || is < api.SatYes || is > api.SatUnknown {
		k.Fatalf("Check(%d, %d) = %d, %d, %d", id, budget, is, a, e)
	}
	q := k.question(id)
	k.holds(q, is, a)
	k.count(q, is)
	return is, a
}

// holds reports an answer that isn't so.
func (k *kept) holds(q []int, is api.Sat, a api.Assign) {
	k.Helper()
	if is != api.SatYes && len(a) != 0 {
		k.Fatalf("%d: answer %d with %d", q, is, a)
	}
	if is == api.SatYes && !k.allTrue(q, a) {
		k.Fatalf("%d: not all true under %d", q, a)
	}
	if vars := k.vars(q); is == api.SatNo && k.bits(vars) <= few && k.canBe(q, vars) {
		k.Fatalf("%d: answer no", q)
	}
}

// count reports that it counted otherwise than it should: each question that it
// had answered already, has no variables, or is Consts, was solved again.
func (k *kept) count(q []int, is api.Sat) {
	k.Helper()
	checks, solved := k.p.Asked()
	k.checks++
	_, old := k.answered[key(q)]
	least, most := k.solved, k.solved+1
	if old || len(k.vars(q)) == 0 || k.isConsts(q) {
		most = k.solved
	}
	if is == api.SatUnknown {
		least = k.solved + 1
	}
	if checks != k.checks || solved < least || solved > most {
		k.Fatalf("Asked = %d, %d, want %d, %d to %d, behind answer %d of %d", checks, solved, k.checks, least, most, is, q)
	}
	k.solved = solved
	if is != api.SatUnknown {
		k.answered[key(q)] = is
	}
}

// isConsts tells whether simp makes Consts of all these terms, or 0 of one.
func (k *kept) isConsts(q []int) bool {
	all := true
	for _, id := range q {
		to, e := k.m.Do(id)
		n, _ := k.s.Node(to)
		if e == api.OK && n.Op == api.Const && n.N == 0 {
			return true
		}
		all = all && e == api.OK && n.Op == api.Const
	}
	return all
}

func (k *kept) allTrue(q []int, a api.Assign) bool {
	return !slices.ContainsFunc(q, func(id int) bool { return !eval.True(k.s, id, a) })
}

// vars is the variables below a question's terms, rising, each once.
func (k *kept) vars(q []int) []int {
	var all []int
	for _, id := range q {
		vars, _ := k.s.Vars(id)
		all = append(all, vars...)
	}
	slices.Sort(all)
	return slices.Compact(all)
}

// bits is how many bits variables have.
func (k *kept) bits(vars []int) int {
	n := 0
	for _, v := range vars {
		n += k.s.Width(v)
	}
	return n
}

// canBe tells whether the terms are all true under one of all assignments of
// these variables.
func (k *kept) canBe(q, vars []int) bool {
	a := make(api.Assign, api.MaxVars)
	for n := range 1 << k.bits(vars) {
		for _, v := range vars {
			w := k.s.Width(v)
			a[v] = uint64(n) & (1<<w - 1)
			n >>= w
		}
		if l, _ := eval.All(k.s, q, a); !slices.ContainsFunc(l, func(b api.Bv) bool { return b != api.Bv{W: 1, N: 1} }) {
			return true
		}
	}
	return false
}

// want reports a text whose Check has another answer.
func (k *kept) want(want api.Sat, x string) api.Assign {
	k.Helper()
	is, a := k.ask(k.get(x), greatestInt)
	if is != want {
		k.Errorf("Check(%s) = %d, %d, want %d", x, is, a, want)
	}
	return a
}

// solves reports that clauses were solved another number of times in f.
func (k *kept) solves(want int, f func()) {
	k.Helper()
	_, was := k.p.Asked()
	f()
	if _, is := k.p.Asked(); is-was != want {
		k.Errorf("solved %d times, want %d", is-was, want)
	}
}

// refuses reports a Check that doesn't refuse.
func (k *kept) refuses(id, budget int, want api.Errno) {
	k.Helper()
	if is, a, e := k.p.Check(id, budget); is != api.NoAnswer || len(a) != 0 || e != want {
		k.Errorf("Check(%d, %d) = %d, %d, %d, want error %d", id, budget, is, a, e, want)
	}
}

// These are all Ops that have two kids of one width.
var (
	ofTwo  = []api.Op{api.And, api.Or, api.Xor, api.Add, api.Sub, api.Mul, api.Udiv, api.Urem, api.Sdiv, api.Srem, api.Shl, api.Lshr, api.Ashr}
	oneBit = []api.Op{api.Eq, api.Ult, api.Slt}
)

// say is a text of words.
func say(op string, words ...any) string {
	x := "(" + op
	for _, word := range words {
		switch word := word.(type) {
		case int:
			x += " " + strconv.Itoa(word)
		case string:
			x += " " + word
		}
	}
	return x + ")"
}

// number is the text of a constant of w bits.
func number(w int, n uint64) string {
	return "#" + strconv.Itoa(w) + ":" + strconv.FormatUint(n&(math.MaxUint64>>(64-w)), 10)
}

// drawer draws texts of terms over four variables of few bits in all; some of
// their parts stand in them again.
type drawer struct {
	*rand.Rand
	drawn map[int][]string
}

func newDrawer(seed int64) drawer {
	return drawer{rand.New(rand.NewSource(seed)), map[int][]string{}}
}

// leaf is a variable, made as wide as it has to be, or a constant.
func (d drawer) leaf(w int) string {
	n := []uint64{0, 1, math.MaxUint64, d.Uint64(), uint64(w), uint64(d.Intn(8))}
	if i := d.Intn(12); i < len(n) {
		return number(w, n[i])
	}
	v := d.Intn(4)
	width := []int{3, 1, 3, 2}[v]
	x := "v" + strconv.Itoa(v) + ":" + strconv.Itoa(width)
	switch {
	case w < width:
		return say("extract", d.Intn(width-w+1), w, x)
	case w > width:
		return say([]string{"zext", "sext"}[d.Intn(2)], w, x)
	}
	return x
}

// term is a text of w bits, with at most so many within each other.
func (d drawer) term(w, deep int) string {
	if old := d.drawn[w]; len(old) > 0 && d.Intn(4) == 0 {
		return old[d.Intn(len(old))]
	}
	if deep == 0 {
		return d.leaf(w)
	}
	x := d.made(w, deep-1)
	// Long ones again and again would soon be too long for a text.
	if len(x) < 150 {
		d.drawn[w] = append(d.drawn[w], x)
	}
	return x
}

// made is a text of w bits that has kids.
func (d drawer) made(w, deep int) string {
	switch d.Intn(8) {
	case 0:
		return say([]string{"not", "neg"}[d.Intn(2)], d.term(w, deep))
	case 1:
		return say("ite", d.term(1, deep), d.term(w, deep), d.term(w, deep))
	case 2:
		low := d.Intn(2) * d.Intn(65-w)
		return say("extract", low, w, d.term(low+w+d.Intn(2)*d.Intn(65-w-low), deep))
	case 3:
		return say([]string{"zext", "sext"}[d.Intn(2)], w, d.term(w-d.Intn(2)*d.Intn(w), deep))
	case 4:
		if w > 1 {
			low := 1 + d.Intn(w-1)
			return say("concat", d.term(w-low, deep), d.term(low, deep))
		}
	}
	if w == 1 && d.Intn(3) > 0 {
		kid := []int{1, 2, 3, 3, 5, 8, 16, 64}[d.Intn(8)]
		return say(text.Name(oneBit[d.Intn(len(oneBit))]), d.term(kid, deep), d.term(kid, deep))
	}
	return say(text.Name(ofTwo[d.Intn(len(ofTwo))]), d.term(w, deep), d.term(w, deep))
}
