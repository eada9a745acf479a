package text_test

// What chapter 4 says, in other ways than the package goes: a term as the
// tests draw it up, its text, its nodes made one by one, and whether bytes are
// a text, by patterns that shrink it from within.

import (
	"math"
	"math/big"
	"math/rand"
	"regexp"
	"slices"
	"strconv"
	"strings"
	"testing"

	"augury/api"
	"augury/term"
)

// shape is an Op's name, and how many numbers and kids stand in its text.
type shape struct {
	o             api.Op
	name          string
	numbers, kids int
}

// shapes is all Ops that have a name.
var shapes = []shape{
	{api.Not, "not", 0, 1}, {api.Neg, "neg", 0, 1},
	{api.And, "and", 0, 2}, {api.Or, "or", 0, 2}, {api.Xor, "xor", 0, 2},
	{api.Add, "add", 0, 2}, {api.Sub, "sub", 0, 2}, {api.Mul, "mul", 0, 2},
	{api.Udiv, "udiv", 0, 2}, {api.Urem, "urem", 0, 2}, {api.Sdiv, "sdiv", 0, 2}, {api.Srem, "srem", 0, 2},
	{api.Shl, "shl", 0, 2}, {api.Lshr, "lshr", 0, 2}, {api.Ashr, "ashr", 0, 2},
	{api.Eq, "eq", 0, 2}, {api.Ult, "ult", 0, 2}, {api.Slt, "slt", 0, 2},
	{api.Concat, "concat", 0, 2}, {api.Extract, "extract", 2, 1},
	{api.Zext, "zext", 1, 1}, {api.Sext, "sext", 1, 1},
	{api.Ite, "ite", 0, 3},
}

// shapeOf is the shape of an Op that has a name.
func shapeOf(o api.Op) shape {
	return shapes[slices.IndexFunc(shapes, func(h shape) bool { return h.o == o })]
}

// expr is a term, one that may not be too: its Op, the numbers in their
// order in its text, its kids.
type expr struct {
	o       api.Op
	numbers []uint64
	kids    []expr
}

func (x expr) text() string {
	var n []string
	for _, number := range x.numbers {
		n = append(n, strconv.FormatUint(number, 10))
	}
	switch x.o {
	case api.Const:
		return "#" + n[0] + ":" + n[1]
	case api.Var:
		return "v" + n[0] + ":" + n[1]
	}
	parts := append([]string{shapeOf(x.o).name}, n...)
	for _, kid := range x.kids {
		parts = append(parts, kid.text())
	}
	return "(" + strings.Join(parts, " ") + ")"
}

// made makes the nodes of x, its kids' from the left and then its own, till
// one is refused.
func (x expr) made(s *term.Store) (int, api.Errno) {
	n := api.Node{Op: x.o}
	var w [3]int
	for i, kid := range x.kids {
		id, e := kid.made(s)
		if e != api.OK {
			return 0, e
		}
		k, _ := s.Node(id)
		n.Kids[i], w[i] = id, int(k.W)
	}
	// A width that a node can't even hold is none of bv's.
	for _, number := range x.numbers {
		if number > math.MaxUint8 && x.o != api.Const && x.o != api.Var {
			return 0, api.ErrArg
		}
	}
	switch x.o {
	case api.Const:
		return s.Const(small(x.numbers[0]), x.numbers[1])
	case api.Var:
		return s.Var(small(x.numbers[1]), small(x.numbers[0]))
	case api.Extract:
		n.Low, n.W = uint8(x.numbers[0]), uint8(x.numbers[1])
	case api.Zext, api.Sext:
		n.W = uint8(x.numbers[0])
	case api.Eq, api.Ult, api.Slt:
		n.W = 1
	case api.Concat:
		n.W = uint8(w[0] + w[1])
	case api.Ite:
		n.W = uint8(w[1])
	default:
		n.W = uint8(w[0])
	}
	return s.Make(n)
}

// small is n as an int; -1, which is no width and no variable, of what is none.
func small(n uint64) int {
	if n > math.MaxInt32 {
		return -1
	}
	return int(n)
}

// drawn is a term of so many levels at most; each number, width or kid in it
// is wrong about once in odds.
func drawn(r *rand.Rand, w, levels, odds int) expr {
	if r.Intn(odds) == 0 {
		w = []int{0, 1, 2, 5, 8, 16, 32, 63, 64, 65}[r.Intn(10)]
	}
	kid := func(w int) expr { return drawn(r, w, levels-1, odds) }
	two := func(o api.Op) expr { return expr{o: o, kids: []expr{kid(w), kid(w)}} }
	switch r.Intn(10) * min(levels, 1) {
	case 1:
		return expr{o: []api.Op{api.Not, api.Neg}[r.Intn(2)], kids: []expr{kid(w)}}
	case 2, 3:
		return two(api.And + api.Op(r.Intn(int(api.Ashr-api.And)+1)))
	case 4:
		return expr{o: api.Ite, kids: []expr{kid(1), kid(w), kid(w)}}
	case 5:
		low := r.Intn(max(65-w, 1))
		return expr{o: api.Extract, numbers: []uint64{slip(r, low, odds), slip(r, w, odds)}, kids: []expr{kid(w + low)}}
	case 6:
		return expr{o: []api.Op{api.Zext, api.Sext}[r.Intn(2)], numbers: []uint64{slip(r, w, odds)}, kids: []expr{kid(1 + r.Intn(max(w, 1)))}}
	case 7:
		if w > 1 {
			at := 1 + r.Intn(w-1)
			return expr{o: api.Concat, kids: []expr{kid(at), kid(w - at)}}
		}
		return two(api.Eq + api.Op(r.Intn(3)))
	case 8:
		return expr{o: api.Var, numbers: []uint64{slip(r, w, odds), slip(r, w, odds)}}
	}
	n := r.Uint64() >> (64 - min(max(w, 1), 64))
	return expr{o: api.Const, numbers: []uint64{slip(r, w, odds), slip(r, n, odds)}}
}

// slip is n; about once in odds it is another number.
func slip[T int | uint64](r *rand.Rand, n T, odds int) uint64 {
	if r.Intn(odds) > 0 {
		return uint64(n)
	}
	return []uint64{0, 1, 7, 8, 64, 65, 255, 256, 257, 264, 511, 1 << 31, 1<<32 + 8, 1 << 63, math.MaxUint64 - 247, math.MaxUint64}[r.Intn(16)]
}

// These are patterns of what a text is made of; T stands for a whole text.
var (
	digits = regexp.MustCompile(`[0-9]+`)
	leaf   = regexp.MustCompile(`[#v](0|[1-9][0-9]*):(0|[1-9][0-9]*)`)
	inner  = regexp.MustCompile(innerPattern())
)

// innerPattern is a pattern of brackets with whole texts as kids.
func innerPattern() string {
	var l []string
	for _, h := range shapes {
		l = append(l, `\(`+h.name+strings.Repeat(` (0|[1-9][0-9]*)`, h.numbers)+strings.Repeat(" T", h.kids)+`\)`)
	}
	return strings.Join(l, "|")
}

// isText tells whether the bytes of x are a text.
func isText(x string) bool {
	if len(x) > 10000 || strings.Contains(x, "T") {
		return false
	}
	most := new(big.Int).SetUint64(math.MaxUint64)
	for _, d := range digits.FindAllString(x, -1) {
		if n, ok := new(big.Int).SetString(d, 10); !ok || n.Cmp(most) > 0 {
			return false
		}
	}
	x = leaf.ReplaceAllString(x, "T")
	for {
		shorter := inner.ReplaceAllString(x, "T")
		if shorter == x {
			return x == "T"
		}
		x = shorter
	}
}

// nodes is all nodes of a store.
func nodes(t *testing.T, s *term.Store) []api.Node {
	t.Helper()
	var l []api.Node
	for id := range s.Len() {
		n, e := s.Node(id)
		if e != api.OK {
			t.Fatalf("Node(%d): %d, of %d nodes", id, e, s.Len())
		}
		l = append(l, n)
	}
	return l
}

// made is the number of a node that may be.
func made(t *testing.T, s *term.Store, n api.Node) int {
	t.Helper()
	id, e := s.Make(n)
	if e != api.OK {
		t.Fatalf("Make(%v): %d", n, e)
	}
	return id
}

// op is a node of the Op on kids, of w bits.
func op(o api.Op, w int, kids ...int) api.Node {
	n := api.Node{Op: o, W: uint8(w)}
	copy(n.Kids[:], kids)
	return n
}
