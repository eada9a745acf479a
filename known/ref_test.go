package known_test

// What the tests build stores with, and chapter 5's table said once more: of
// strings, the highest bit first, in which each bit is 0, 1, or ? where it is
// not sure. Nothing here goes by masks, or from a node to those below its kids.

import (
	"math"
	"slices"
	"strings"
	"testing"

	"augury/api"
	"augury/known"
	"augury/term"
)

// These are all Ops that have kids, by what kids they have.
var (
	ofOne  = []api.Op{api.Not, api.Neg}
	ofTwo  = []api.Op{api.And, api.Or, api.Xor, api.Add, api.Sub, api.Mul, api.Udiv, api.Urem, api.Sdiv, api.Srem, api.Shl, api.Lshr, api.Ashr}
	oneBit = []api.Op{api.Eq, api.Ult, api.Slt}
	wider  = []api.Op{api.Zext, api.Sext}
	shifts = []api.Op{api.Shl, api.Lshr, api.Ashr}
)

// full is w bits, all set.
func full(w int) uint64 { return math.MaxUint64 >> (64 - w) }

// maker makes nodes that may be.
type maker struct {
	*testing.T
	s *term.Store
}

func newMaker(t *testing.T) maker { return maker{t, term.New()} }

func (m maker) made(n api.Node) int {
	m.Helper()
	id, e := m.s.Make(n)
	if e != api.OK {
		m.Fatalf("Make(%v): %d", n, e)
	}
	return id
}

func (m maker) node(id int) api.Node {
	m.Helper()
	n, e := m.s.Node(id)
	if e != api.OK {
		m.Fatalf("Node(%d): %d", id, e)
	}
	return n
}

func (m maker) variable(w, n int) int {
	m.Helper()
	return m.made(api.Node{Op: api.Var, W: uint8(w), N: uint64(n)})
}

func (m maker) constant(w int, n uint64) int {
	m.Helper()
	return m.made(api.Node{Op: api.Const, W: uint8(w), N: n})
}

func (m maker) op(o api.Op, w int, kids ...int) int {
	m.Helper()
	n := api.Node{Op: o, W: uint8(w)}
	copy(n.Kids[:], kids)
	return m.made(n)
}

func (m maker) part(low, w, kid int) int {
	m.Helper()
	return m.made(api.Node{Op: api.Extract, W: uint8(w), Low: uint8(low), Kids: [3]int{kid}})
}

// like is a node on the variable v of which the bits that the string says are
// sure, and no others.
func (m maker) like(bits string, v int) int {
	m.Helper()
	w := len(bits)
	var zeros, ones uint64
	for i := range w {
		switch bits[w-1-i] {
		case '0':
			zeros |= 1 << i
		case '1':
			ones |= 1 << i
		}
	}
	id := m.op(api.And, w, m.variable(w, v), m.constant(w, full(w)-zeros))
	id = m.op(api.Or, w, id, m.constant(w, ones))
	m.is(id, bits)
	return id
}

// told is Of as a string; it reports one whose masks are none.
func (m maker) told(id int) string {
	m.Helper()
	w := int(m.node(id).W)
	k, e := known.Of(m.s, id)
	if e != api.OK {
		m.Errorf("Of(%d): %d", id, e)
	}
	if (k.Zeros|k.Ones)&^full(w) != 0 || k.Zeros&k.Ones != 0 {
		m.Errorf("Of(%d) = %x, %x: masks of no %d bits", id, k.Zeros, k.Ones, w)
	}
	return spelt(k, w)
}

// spelt is masks of w bits as a string.
func spelt(k api.Known, w int) string {
	l := make([]byte, w)
	for i := range l {
		switch low := w - 1 - i; {
		case k.Zeros>>low&1 == 1:
			l[i] = '0'
		case k.Ones>>low&1 == 1:
			l[i] = '1'
		default:
			l[i] = '?'
		}
	}
	return string(l)
}

// is reports an Of that is not want.
func (m maker) is(id int, want string) {
	m.Helper()
	if got := m.told(id); got != want {
		m.Errorf("Of(%d) = %s, want %s (%v)", id, got, want, m.node(id))
	}
}

// as reports an Of that is not what the table makes of its kids'.
func (m maker) as(id int) {
	m.Helper()
	n := m.node(id)
	var kids [3]string
	for i := range kidsOf(n.Op) {
		kids[i] = m.told(n.Kids[i])
	}
	m.is(id, m.row(n, kids))
}

// kidsOf is how many kids an Op has.
func kidsOf(o api.Op) int {
	switch {
	case o == api.Const || o == api.Var:
		return 0
	case o == api.Ite:
		return 3
	case slices.Contains(ofTwo, o), slices.Contains(oneBit, o), o == api.Concat:
		return 2
	}
	return 1
}

// row is what the table says of n, whose kids' bits are k.
func (m maker) row(n api.Node, k [3]string) string {
	m.Helper()
	w := int(n.W)
	none := strings.Repeat("?", w)
	switch n.Op {
	case api.Const:
		return digits(n.N, w)
	case api.Not:
		return strings.NewReplacer("0", "1", "1", "0").Replace(k[0])
	case api.And, api.Or, api.Xor:
		return bitByBit(n.Op, k[0], k[1])
	case api.Concat:
		return k[0] + k[1]
	case api.Extract:
		end := len(k[0]) - int(n.Low)
		return k[0][end-w : end]
	case api.Zext:
		return strings.Repeat("0", w-len(k[0])) + k[0]
	case api.Sext:
		return strings.Repeat(k[0][:1], w-len(k[0])) + k[0]
	case api.Shl, api.Lshr, api.Ashr:
		by := m.node(n.Kids[1])
		if by.Op != api.Const {
			return none
		}
		return moved(n.Op, k[0], int(min(by.N, uint64(w))))
	case api.Add, api.Sub:
		return none[:w-min(noughts(k[0]), noughts(k[1]))] + strings.Repeat("0", min(noughts(k[0]), noughts(k[1])))
	case api.Mul:
		return none[:w-max(noughts(k[0]), noughts(k[1]))] + strings.Repeat("0", max(noughts(k[0]), noughts(k[1])))
	case api.Ite:
		return oneOf(k[0], k[1], k[2])
	case api.Eq:
		return alike(k[0], k[1])
	}
	return none
}

// digits is the w bits of n.
func digits(n uint64, w int) string {
	l := make([]byte, w)
	for i := w - 1; i >= 0; i-- {
		l[i] = byte('0' + n%2)
		n /= 2
	}
	return string(l)
}

// bitByBit is And, Or, Xor of two strings.
func bitByBit(o api.Op, x, y string) string {
	l := make([]byte, len(x))
	for i := range l {
		pair := x[i : i+1]
		pair += y[i : i+1]
		l[i] = '?'
		switch {
		case o == api.And && strings.Contains(pair, "0"):
			l[i] = '0'
		case o == api.And && pair == "11":
			l[i] = '1'
		case o == api.Or && strings.Contains(pair, "1"):
			l[i] = '1'
		case o == api.Or && pair == "00":
			l[i] = '0'
		case o == api.Xor && (pair == "00" || pair == "11"):
			l[i] = '0'
		case o == api.Xor && (pair == "01" || pair == "10"):
			l[i] = '1'
		}
	}
	return string(l)
}

// moved is a string shifted by n places, of n up to its length.
func moved(o api.Op, x string, n int) string {
	switch o {
	case api.Shl:
		return x[n:] + strings.Repeat("0", n)
	case api.Lshr:
		return strings.Repeat("0", n) + x[:len(x)-n]
	}
	return strings.Repeat(x[:1], n) + x[:len(x)-n]
}

// noughts is how many lowest bits of x are 0.
func noughts(x string) int { return len(x) - len(strings.TrimRight(x, "0")) }

// oneOf is x or y, as c says; else what both have.
func oneOf(c, x, y string) string {
	switch c {
	case "1":
		return x
	case "0":
		return y
	}
	l := []byte(x)
	for i := range l {
		if x[i] != y[i] {
			l[i] = '?'
		}
	}
	return string(l)
}

// alike is Eq of two strings.
func alike(x, y string) string {
	for i := range len(x) {
		if x[i] == '0' && y[i] == '1' || x[i] == '1' && y[i] == '0' {
			return "0"
		}
	}
	if strings.Contains(x+y, "?") {
		return "?"
	}
	return "1"
}

// patterns is each string of w bits that are 0, 1 or not sure.
func patterns(w int) []string {
	if w == 0 {
		return []string{""}
	}
	var l []string
	for _, rest := range patterns(w - 1) {
		l = append(l, rest+"0", rest+"1", rest+"?")
	}
	return l
}

// notThere is numbers of nodes that a store doesn't have.
func notThere(s *term.Store) []int {
	return []int{math.MinInt, math.MinInt32, -256, -1, s.Len(), s.Len() + 1, api.MaxNodes, 1 << 31, 1 << 32, 1<<32 + 1, math.MaxInt}
}

// nodes is all nodes of a store.
func nodes(m maker) []api.Node {
	m.Helper()
	var l []api.Node
	for id := range m.s.Len() {
		l = append(l, m.node(id))
	}
	return l
}
