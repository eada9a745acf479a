package rule_test

// What the tests build stores with, and chapter 6's list said once more: as
// patterns of texts, in which x, y and z are whatever kids. Nothing here goes by
// what an Op's rules have in common.

import (
	"math"
	"slices"
	"strings"
	"testing"

	"augury/api"
	"augury/eval"
	"augury/known"
	"augury/rule"
	"augury/term"
	"augury/text"
)

// These are all Ops that have two kids of one width.
var (
	ofTwo  = []api.Op{api.And, api.Or, api.Xor, api.Add, api.Sub, api.Mul, api.Udiv, api.Urem, api.Sdiv, api.Srem, api.Shl, api.Lshr, api.Ashr}
	oneBit = []api.Op{api.Eq, api.Ult, api.Slt}
)

// turning is the Ops of which a Const stands behind.
var turning = []string{"and", "or", "xor", "add", "mul", "eq"}

// listed is the rules 4, 5, 6, 7 and 9, a case a row, as they stand in the
// chapter. 0, 1 and ~ (all ones) are Consts of the width that is there; no and
// yes are those of 1 bit.
var listed = []struct {
	rule     int
	from, to string
}{
	{4, "(and x 0)", "0"},
	{4, "(and x ~)", "x"},
	{4, "(or x 0)", "x"},
	{4, "(or x ~)", "~"},
	{4, "(xor x 0)", "x"},
	{4, "(xor x ~)", "(not x)"},
	{4, "(add x 0)", "x"},
	{4, "(sub x 0)", "x"},
	{4, "(shl x 0)", "x"},
	{4, "(lshr x 0)", "x"},
	{4, "(ashr x 0)", "x"},
	{4, "(mul x 0)", "0"},
	{4, "(mul x 1)", "x"},
	{4, "(udiv x 1)", "x"},
	{4, "(urem x 1)", "0"},
	{5, "(and x x)", "x"},
	{5, "(or x x)", "x"},
	{5, "(xor x x)", "0"},
	{5, "(sub x x)", "0"},
	{5, "(eq x x)", "yes"},
	{5, "(ult x x)", "no"},
	{5, "(slt x x)", "no"},
	{5, "(ite x y y)", "y"},
	{6, "(not (not x))", "x"},
	{6, "(neg (neg x))", "x"},
	{7, "(ite (not x) y z)", "(ite x z y)"},
	{7, "(ite x yes no)", "x"},
	{7, "(ite x no yes)", "(not x)"},
	{9, "(eq x yes)", "x"},
	{9, "(eq x no)", "(not x)"},
	{9, "(ult x 0)", "no"},
	{9, "(ult x 1)", "(eq x 0)"},
}

// full is w bits, all set.
func full(w int) uint64 { return math.MaxUint64 >> (64 - w) }

// maker makes nodes that may be.
type maker struct {
	*testing.T
	s *term.Store
}

func newMaker(t *testing.T) maker { return maker{t, term.New()} }

func (m maker) made(n api.Node) int {
	m.Helper()
	id, e := m.s.Make(n)
	if e != api.OK {
		m.Fatalf("Make(%v): %d", n, e)
	}
	return id
}

func (m maker) node(id int) api.Node {
	m.Helper()
	n, e := m.s.Node(id)
	if e != api.OK {
		m.Fatalf("Node(%d): %d", id, e)
	}
	return n
}

func (m maker) variable(w, n int) int {
	m.Helper()
	return m.made(api.Node{Op: api.Var, W: uint8(w), N: uint64(n)})
}

func (m maker) constant(w int, n uint64) int {
	m.Helper()
	return m.made(api.Node{Op: api.Const, W: uint8(w), N: n})
}

func (m maker) op(o api.Op, w int, kids ...int) int {
	m.Helper()
	n := api.Node{Op: o, W: uint8(w)}
	copy(n.Kids[:], kids)
	return m.made(n)
}

func (m maker) part(low, w, kid int) int {
	m.Helper()
	return m.made(api.Node{Op: api.Extract, W: uint8(w), Low: uint8(low), Kids: [3]int{kid}})
}

// get is the node of a text.
func (m maker) get(x string) int {
	m.Helper()
	id, e := text.Get(m.s, x)
	if e != api.OK {
		m.Fatalf("Get(%s): %d", x, e)
	}
	return id
}

// put is the text of a node.
func (m maker) put(id int) string {
	m.Helper()
	x, e := text.Put(m.s, id)
	if e != api.OK {
		m.Fatalf("Put(%d): %d", id, e)
	}
	return x
}

// kidsOf is how many kids a node has.
func kidsOf(o api.Op) int {
	switch {
	case o == api.Const || o == api.Var:
		return 0
	case o == api.Ite:
		return 3
	case slices.Contains(ofTwo, o), slices.Contains(oneBit, o), o == api.Concat:
		return 2
	}
	return 1
}

// first is what the list says of a node, which is made here.
func (m maker) first(id int) (to, rule int) {
	m.Helper()
	n := m.node(id)
	if kidsOf(n.Op) == 0 {
		return id, 0
	}
	for rule = 1; rule <= 9; rule++ {
		to, ok := 0, false
		switch rule {
		case 1:
			to, ok = m.sayConsts(n, id)
		case 2:
			to, ok = m.sayKnown(id)
		case 3:
			to, ok = m.sayTurned(n)
		case 8:
			to, ok = m.sayBits(n)
		default:
			to, ok = m.sayListed(rule, id)
		}
		if ok {
			return to, rule
		}
	}
	return id, 0
}

func (m maker) sayConsts(n api.Node, id int) (int, bool) {
	m.Helper()
	if n.Op == api.Ite {
		c := m.node(n.Kids[0])
		return n.Kids[2-int(c.N)%2], c.Op == api.Const
	}
	for i := range kidsOf(n.Op) {
		if m.node(n.Kids[i]).Op != api.Const {
			return 0, false
		}
	}
	b, e := eval.Eval(m.s, id, nil)
	if e != api.OK {
		m.Fatalf("Eval(%d): %d", id, e)
	}
	return m.constant(int(b.W), b.N), true
}

func (m maker) sayKnown(id int) (int, bool) {
	m.Helper()
	w := int(m.node(id).W)
	k, e := known.Of(m.s, id)
	if e != api.OK {
		m.Fatalf("Of(%d): %d", id, e)
	}
	for i := range w {
		if (k.Zeros|k.Ones)>>i&1 == 0 {
			return 0, false
		}
	}
	return m.constant(w, k.Ones), true
}

func (m maker) sayTurned(n api.Node) (int, bool) {
	m.Helper()
	if !slices.Contains(turning, text.Name(n.Op)) {
		return 0, false
	}
	// Behind all that is no Const stand those that are.
	rank := func(id int) int {
		if m.node(id).Op == api.Const {
			return api.MaxNodes
		}
		return id
	}
	if rank(n.Kids[0]) <= rank(n.Kids[1]) {
		return 0, false
	}
	return m.op(n.Op, int(n.W), n.Kids[1], n.Kids[0]), true
}

// piece is bits of a node that stand side by side.
type piece struct{ id, low, w int }

// sayBits goes by the pieces, from the lowest bits on, that x has its bits from.
func (m maker) sayBits(n api.Node) (int, bool) {
	m.Helper()
	x := m.node(n.Kids[0])
	low, w := int(n.Low), int(n.W)
	switch {
	case n.Op != api.Extract && n.Op != api.Zext && n.Op != api.Sext:
		return 0, false
	case n.W == x.W:
		return n.Kids[0], true
	case n.Op != api.Extract && x.Op == n.Op:
		return m.op(n.Op, w, x.Kids[0]), true
	case n.Op != api.Extract:
		return 0, false
	}
	var pieces []piece
	whole := func(id int) { pieces = append(pieces, piece{id, 0, int(m.node(id).W)}) }
	switch x.Op {
	case api.Extract:
		pieces = append(pieces, piece{x.Kids[0], int(x.Low), int(x.W)})
	case api.Concat:
		whole(x.Kids[1])
		whole(x.Kids[0])
	case api.Zext, api.Sext:
		whole(x.Kids[0])
	}
	for _, p := range pieces {
		if low >= 0 && low+w <= p.w {
			return m.part(p.low+low, w, p.id), true
		}
		low -= p.w
	}
	return 0, false
}

func (m maker) sayListed(rule, id int) (int, bool) {
	m.Helper()
	head := "(" + text.Name(m.node(id).Op) + " "
	for _, c := range listed {
		if c.rule != rule || !strings.HasPrefix(c.from, head) {
			continue
		}
		p := pattern{maker: m, bound: map[string]int{}, rest: words(c.from)}
		if p.fits(id) {
			p.rest = words(c.to)
			return p.build(int(m.node(id).W)), true
		}
	}
	return 0, false
}

// words is a pattern's parts.
func words(x string) []string {
	return strings.Fields(strings.NewReplacer("(", " ( ", ")", " ) ").Replace(x))
}

// pattern is what is left of one, and which nodes its kids are.
type pattern struct {
	maker
	bound map[string]int
	rest  []string
}

// next takes the next word.
func (p *pattern) next() string {
	word := p.rest[0]
	p.rest = p.rest[1:]
	return word
}

// fits tells whether what comes next is like the node.
func (p *pattern) fits(id int) bool {
	n := p.node(id)
	switch word := p.next(); word {
	case "(":
		if p.next() != text.Name(n.Op) {
			return false
		}
		for i := range kidsOf(n.Op) {
			if !p.fits(n.Kids[i]) {
				return false
			}
		}
		return p.next() == ")"
	case "x", "y", "z":
		was, ok := p.bound[word]
		p.bound[word] = id
		return !ok || was == id
	case "yes", "no":
		return n == api.Node{Op: api.Const, W: 1, N: number(word, 1)}
	default:
		return n == api.Node{Op: api.Const, W: n.W, N: number(word, int(n.W))}
	}
}

// number is the one of w bits that a word says.
func number(word string, w int) uint64 {
	return map[string]uint64{"0": 0, "1": 1, "~": full(w), "no": 0, "yes": 1}[word]
}

// build makes what comes next, of w bits.
func (p *pattern) build(w int) int {
	switch word := p.next(); word {
	case "(":
		var n api.Node
		switch p.next() {
		case "not":
			n = api.Node{Op: api.Not, W: uint8(w), Kids: [3]int{p.build(w)}}
		case "eq":
			w = int(p.node(p.bound["x"]).W)
			n = api.Node{Op: api.Eq, W: 1, Kids: [3]int{p.build(w), p.build(w)}}
		case "ite":
			n = api.Node{Op: api.Ite, W: uint8(w), Kids: [3]int{p.build(1), p.build(w), p.build(w)}}
		}
		p.next()
		return p.made(n)
	case "x", "y", "z":
		return p.bound[word]
	default:
		return p.constant(w, number(word, w))
	}
}

// as reports a Step that is not as the list says, or that makes more than it
// has to; it answers the Step's number and rule.
func (m maker) as(id int) (int, int) {
	m.Helper()
	before := m.s.Len()
	to, n, e := rule.Step(m.s, id)
	after := m.s.Len()
	want, number := m.first(id)
	if to != want || n != number || e != api.OK {
		m.Fatalf("Step(%d) = %d, %d, %d, want %d, %d (%v)", id, to, n, e, want, number, m.node(id))
	}
	if m.node(to).W != m.node(id).W {
		m.Fatalf("Step(%d) = %d: %v of %v", id, to, m.node(to), m.node(id))
	}
	if after > before && to != after-1 || after > before+2 || after == before+2 && n != 9 {
		m.Fatalf("Step(%d) = %d: %d nodes, were %d", id, to, after, before)
	}
	return to, n
}

// alike reports a node that is another vector than what it steps to.
func (m maker) alike(ids, tos []int, a api.Assign) {
	m.Helper()
	l, e := eval.All(m.s, append(slices.Clone(ids), tos...), a)
	if e != api.OK {
		m.Fatalf("All: %d", e)
	}
	for i, id := range ids {
		if l[i] != l[len(ids)+i] {
			m.Fatalf("%d is %v, %d is %v, under %v", id, l[i], tos[i], l[len(ids)+i], a)
		}
	}
}

// notThere is numbers of nodes that a store doesn't have.
func notThere(s *term.Store) []int {
	return []int{math.MinInt, math.MinInt32, -256, -1, s.Len(), s.Len() + 1, api.MaxNodes, 1 << 31, 1 << 32, 1<<32 + 1, math.MaxInt}
}

// nodes is all nodes of a store.
func nodes(m maker) []api.Node {
	m.Helper()
	var l []api.Node
	for id := range m.s.Len() {
		l = append(l, m.node(id))
	}
	return l
}
