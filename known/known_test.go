package known_test

import (
	"math"
	"math/rand"
	"slices"
	"strings"
	"testing"

	"augury/api"
	"augury/eval"
	"augury/known"
	"augury/term"
	"augury/text"
)

// widths is few bits, and the edges.
var widths = []int{1, 2, 8, 31, 32, 33, 63, 64}

func TestExamples(t *testing.T) {
	m := newMaker(t)
	v := m.variable(8, 0)
	for _, c := range []struct {
		id   int
		want api.Known
	}{
		{v, api.Known{}},
		{m.op(api.And, 8, v, m.constant(8, 15)), api.Known{Zeros: 240}},
		{m.op(api.Shl, 8, v, m.constant(8, 2)), api.Known{Zeros: 3}},
		{m.op(api.Zext, 16, v), api.Known{Zeros: 65280}},
	} {
		if k, e := known.Of(m.s, c.id); k != c.want || e != api.OK {
			t.Errorf("Of(%d) = %v, %d, want %v", c.id, k, e, c.want)
		}
	}
}

// TestRows: each row of the table, by hand. Of the variables nothing is sure.
func TestRows(t *testing.T) {
	for _, c := range []struct{ text, want string }{
		{"#8:5", "00000101"},
		{"#1:0", "0"},
		{"#1:1", "1"},
		{"v0:8", "????????"},
		{"v0:1", "?"},
		{"(not #8:5)", "11111010"},
		{"(not (or v0:8 #8:15))", "????0000"},
		{"(not (and v0:8 #8:15))", "1111????"},
		{"(not v0:1)", "?"},
		{"(and v0:8 #8:12)", "0000??00"},
		{"(and #8:12 v0:8)", "0000??00"},
		{"(and v0:8 v1:8)", "????????"},
		{"(and #4:12 #4:10)", "1000"},
		{"(or v0:8 #8:12)", "????11??"},
		{"(or #8:12 v0:8)", "????11??"},
		{"(or #4:12 #4:10)", "1110"},
		{"(xor #4:12 #4:10)", "0110"},
		{"(xor (and v0:8 #8:15) #8:255)", "1111????"},
		{"(xor (or v0:8 #8:15) (or v1:8 #8:60))", "????00??"},
		{"(xor v0:8 v0:8)", "????????"},
		{"(concat #4:5 v0:4)", "0101????"},
		{"(concat v0:4 #4:5)", "????0101"},
		{"(concat #1:1 (concat v0:1 #1:0))", "1?0"},
		{"(extract 4 4 (and v0:8 #8:31))", "000?"},
		{"(extract 0 4 (and v0:8 #8:3))", "00??"},
		{"(extract 7 1 (or v0:8 #8:128))", "1"},
		{"(extract 2 3 #8:20)", "101"},
		{"(zext 12 (or v0:8 #8:129))", "00001??????1"},
		{"(zext 8 v0:8)", "????????"},
		{"(sext 12 (or v0:8 #8:128))", "11111???????"},
		{"(sext 12 (and v0:8 #8:127))", "00000???????"},
		{"(sext 12 (or v0:8 #8:64))", "?????1??????"},
		{"(sext 8 (or v0:8 #8:1))", "???????1"},
		{"(shl (or v0:8 #8:1) #8:2)", "?????100"},
		{"(lshr (or v0:8 #8:128) #8:2)", "001?????"},
		{"(ashr (or v0:8 #8:128) #8:2)", "111?????"},
		{"(ashr (and v0:8 #8:127) #8:2)", "000?????"},
		{"(ashr (or v0:8 #8:64) #8:2)", "???1????"},
		{"(mul v0:8 #8:12)", "??????00"},
		{"(mul #8:12 v0:8)", "??????00"},
		{"(mul (shl v0:8 #8:2) (shl v1:8 #8:3))", "?????000"},
		{"(mul v0:8 #8:0)", "00000000"},
		{"(mul #8:3 #8:5)", "????????"},
		{"(mul v0:8 v1:8)", "????????"},
		{"(mul #8:3 #8:6)", "???????0"},
		{"(add (shl v0:8 #8:3) #8:4)", "??????00"},
		{"(add #8:4 (shl v0:8 #8:3))", "??????00"},
		{"(add v0:8 #8:4)", "????????"},
		{"(add #8:1 #8:1)", "????????"},
		{"(add #8:0 #8:0)", "00000000"},
		{"(add #8:2 #8:2)", "???????0"},
		{"(sub (shl v0:8 #8:2) #8:8)", "??????00"},
		{"(sub #8:8 (shl v0:8 #8:2))", "??????00"},
		{"(sub #8:8 v0:8)", "????????"},
		{"(sub v0:8 #8:8)", "????????"},
		{"(sub v0:8 v0:8)", "????????"},
		{"(ite #1:1 #8:5 v0:8)", "00000101"},
		{"(ite #1:0 #8:5 v0:8)", "????????"},
		{"(ite #1:0 v0:8 #8:5)", "00000101"},
		{"(ite #1:1 v0:8 #8:5)", "????????"},
		{"(ite (not #1:1) #8:5 #8:9)", "00001001"},
		{"(ite (eq #8:1 #8:1) #8:5 #8:9)", "00000101"},
		{"(ite (extract 0 1 (or v0:8 #8:1)) #8:5 #8:9)", "00000101"},
		{"(ite v2:1 #8:5 #8:9)", "0000??01"},
		{"(ite v2:1 v0:8 #8:9)", "????????"},
		{"(ite v2:1 (or v0:8 #8:1) #8:9)", "???????1"},
		{"(ite (not v2:1) #8:5 #8:5)", "00000101"},
		{"(eq #8:2 #8:2)", "1"},
		{"(eq #8:2 #8:3)", "0"},
		{"(eq (or v0:8 #8:1) #8:2)", "0"},
		{"(eq #8:2 (or v0:8 #8:1))", "0"},
		{"(eq (and v0:8 #8:1) #8:2)", "0"},
		{"(eq (or v0:8 #8:1) (and v1:8 #8:254))", "0"},
		{"(eq (or v0:8 #8:1) #8:3)", "?"},
		{"(eq (or v0:8 #8:1) (or v1:8 #8:2))", "?"},
		{"(eq v0:8 #8:2)", "?"},
		{"(eq v0:8 v1:8)", "?"},
		{"(eq v0:8 v0:8)", "?"},
		{"(eq (and v0:8 #8:0) #8:0)", "1"},
		{"(neg #8:1)", "????????"},
		{"(neg #8:0)", "????????"},
		{"(udiv #8:8 #8:2)", "????????"},
		{"(urem #8:8 #8:2)", "????????"},
		{"(sdiv #8:8 #8:2)", "????????"},
		{"(srem #8:8 #8:2)", "????????"},
		{"(ult #8:1 #8:2)", "?"},
		{"(slt #8:1 #8:2)", "?"},
		{"(not (neg #8:1))", "????????"},
	} {
		m := newMaker(t)
		id, e := text.Get(m.s, c.text)
		if e != api.OK {
			t.Fatalf("Get(%s): %d", c.text, e)
		}
		if got := m.told(id); got != c.want {
			t.Errorf("%s: %s, want %s", c.text, got, c.want)
		}
	}
}

// TestRowsOfEdgeWidths: each row by hand, of 1, 63 and 64 bits, of which the
// masks of the last ones have no room to spare.
func TestRowsOfEdgeWidths(t *testing.T) {
	of := func(first string, w int) string { return first + strings.Repeat("?", w-len(first)) }
	for _, c := range []struct{ text, want string }{
		{"(and v0:1 #1:0)", "0"},
		{"(and v0:1 #1:1)", "?"},
		{"(or v0:1 #1:1)", "1"},
		{"(xor #1:1 #1:0)", "1"},
		{"(xor v0:1 #1:0)", "?"},
		{"(not #1:1)", "0"},
		{"(add #1:0 #1:0)", "0"},
		{"(sub #1:0 v0:1)", "?"},
		{"(mul #1:0 v0:1)", "0"},
		{"(shl v0:1 #1:0)", "?"},
		{"(shl #1:1 #1:1)", "0"},
		{"(lshr #1:1 #1:1)", "0"},
		{"(ashr #1:1 #1:1)", "1"},
		{"(ashr v0:1 #1:1)", "?"},
		{"(eq #1:1 #1:1)", "1"},
		{"(ite #1:0 #1:0 #1:1)", "1"},
		{"(concat #1:1 v0:1)", "1?"},
		{"(extract 0 1 #1:1)", "1"},
		{"(zext 1 v0:1)", "?"},
		{"(sext 1 #1:1)", "1"},
		{"(sext 64 #1:1)", strings.Repeat("1", 64)},
		{"(sext 64 v0:1)", of("", 64)},
		{"(zext 64 v0:1)", strings.Repeat("0", 63) + "?"},
		{"(not #63:0)", strings.Repeat("1", 63)},
		{"(not #64:0)", strings.Repeat("1", 64)},
		{"(not v0:63)", of("", 63)},
		{"#63:4611686018427387904", "1" + strings.Repeat("0", 62)},
		{"#64:9223372036854775808", "1" + strings.Repeat("0", 63)},
		{"(or v0:63 #63:4611686018427387904)", of("1", 63)},
		{"(and v0:64 #64:9223372036854775807)", of("0", 64)},
		{"(xor (and v0:64 #64:9223372036854775807) #64:9223372036854775808)", of("1", 64)},
		{"(lshr v0:63 #63:62)", strings.Repeat("0", 62) + "?"},
		{"(lshr v0:64 #64:63)", strings.Repeat("0", 63) + "?"},
		{"(ashr (or v0:63 #63:4611686018427387904) #63:61)", strings.Repeat("1", 62) + "?"},
		{"(ashr (and v0:64 #64:9223372036854775807) #64:62)", strings.Repeat("0", 63) + "?"},
		{"(shl v0:63 #63:62)", "?" + strings.Repeat("0", 62)},
		{"(shl v0:64 #64:63)", "?" + strings.Repeat("0", 63)},
		{"(mul v0:63 #63:0)", strings.Repeat("0", 63)},
		{"(mul v0:64 #64:0)", strings.Repeat("0", 64)},
		{"(mul v0:64 #64:9223372036854775808)", "?" + strings.Repeat("0", 63)},
		{"(add #63:0 #63:0)", strings.Repeat("0", 63)},
		{"(sub #64:0 #64:0)", strings.Repeat("0", 64)},
		{"(concat #1:1 v0:62)", of("1", 63)},
		{"(concat #1:0 v0:63)", of("0", 64)},
		{"(concat v0:63 #1:1)", of("", 63) + "1"},
		{"(extract 63 1 #64:9223372036854775808)", "1"},
		{"(extract 0 64 (or v0:64 #64:9223372036854775808))", of("1", 64)},
		{"(extract 1 63 (and v0:64 #64:9223372036854775807))", of("0", 63)},
		{"(zext 64 v0:63)", of("0", 64)},
		{"(sext 64 (or v0:63 #63:4611686018427387904))", of("11", 64)},
		{"(sext 64 (and v0:63 #63:4611686018427387903))", of("00", 64)},
		{"(ite v2:1 #64:9223372036854775808 (or v0:64 #64:9223372036854775808))", of("1", 64)},
		{"(ite v2:1 (and v0:63 #63:1) #63:2)", strings.Repeat("0", 61) + "??"},
		{"(eq #64:18446744073709551615 #64:18446744073709551615)", "1"},
		{"(eq #63:9223372036854775807 #63:9223372036854775807)", "1"},
		{"(eq (or v0:64 #64:9223372036854775808) #64:0)", "0"},
		{"(eq (or v0:63 #63:4611686018427387904) #63:4611686018427387904)", "?"},
		{"(eq (and v0:64 #64:1) #64:0)", "?"},
	} {
		m := newMaker(t)
		id, e := text.Get(m.s, c.text)
		if e != api.OK {
			t.Fatalf("Get(%s): %d", c.text, e)
		}
		if got := m.told(id); got != c.want {
			t.Errorf("%s: %s, want %s", c.text, got, c.want)
		}
	}
}

// on is a node of each Op on kids of w bits and a condition.
func on(m maker, w, c, x, y int) []int {
	ids := []int{m.op(api.Ite, w, c, x, y)}
	for _, o := range ofOne {
		ids = append(ids, m.op(o, w, x))
	}
	for _, o := range ofTwo {
		ids = append(ids, m.op(o, w, x, y))
	}
	for _, o := range oneBit {
		ids = append(ids, m.op(o, 1, x, y))
	}
	if w <= 32 {
		ids = append(ids, m.op(api.Concat, 2*w, x, y))
	}
	if w < 64 {
		ids = append(ids, m.op(api.Concat, w+1, x, c), m.op(api.Concat, w+1, c, x))
	}
	for _, o := range wider {
		for _, to := range []int{w, min(w+1, 64), (w + 64) / 2, 63, 64} {
			if to >= w {
				ids = append(ids, m.op(o, to, x))
			}
		}
	}
	return append(ids, m.part(0, 1, x), m.part(w-1, 1, x), m.part(w/2, w-w/2, x), m.part(0, w, x))
}

// sound reports bits that are sure and otherwise under the assignment.
func sound(m maker, ids []int, a api.Assign) {
	m.Helper()
	l, e := eval.All(m.s, ids, a)
	if e != api.OK {
		m.Fatalf("All: %d", e)
	}
	for i, id := range ids {
		k, e := known.Of(m.s, id)
		if e != api.OK || k.Zeros&l[i].N != 0 || k.Ones&^l[i].N != 0 || k.Zeros&k.Ones != 0 || (k.Zeros|k.Ones)&^full(int(l[i].W)) != 0 {
			m.Fatalf("Of(%d) = %v, %d, but it is %v under %v (%v)", id, k, e, l[i], a, m.node(id))
		}
	}
}

// TestAllOfFewBits: each Op on kids of which all, some or no bits are sure, in
// all ways that 1 and 2 bits can be so, under all assignments.
func TestAllOfFewBits(t *testing.T) {
	for w := 1; w <= 2; w++ {
		m := newMaker(t)
		var ids []int
		for _, x := range patterns(w) {
			for _, y := range patterns(w) {
				for _, c := range patterns(1) {
					ids = append(ids, on(m, w, m.like(c, 2), m.like(x, 0), m.like(y, 1))...)
				}
			}
		}
		slices.Sort(ids)
		ids = slices.Compact(ids)
		for _, id := range ids {
			m.as(id)
		}
		for n := range uint64(1) << (2*w + 1) {
			sound(m, ids, api.Assign{n, n >> w, n >> (2 * w)})
		}
	}
}

// TestThreeBits: each Op on kids of 3 bits, where sure ones can stand on both
// sides of one that is not.
func TestThreeBits(t *testing.T) {
	m := newMaker(t)
	for _, x := range patterns(3) {
		for _, y := range patterns(3) {
			for _, id := range on(m, 3, m.like("?", 2), m.like(x, 0), m.like(y, 1)) {
				m.as(id)
			}
		}
	}
}

// drawn is a string of w bits of which about one of so many is not sure; its
// lowest ones are often 0.
func drawn(r *rand.Rand, w int) string {
	l := make([]byte, w)
	set := []string{"01", "01?", "0???", "1???", "?"}[r.Intn(5)]
	for i := range l {
		l[i] = set[r.Intn(len(set))]
	}
	if r.Intn(2) == 0 {
		n := r.Intn(w + 1)
		copy(l[w-n:], strings.Repeat("0", n))
	}
	return string(l)
}

// drawnAssign is numbers of which some are small, some have all bits.
func drawnAssign(r *rand.Rand) api.Assign {
	a := make(api.Assign, r.Intn(14))
	for i := range a {
		a[i] = []uint64{r.Uint64(), r.Uint64() & r.Uint64(), 0, math.MaxUint64, uint64(r.Intn(70))}[r.Intn(5)]
	}
	return a
}

// TestAllOfManyBits: each Op on drawn kids of all widths.
func TestAllOfManyBits(t *testing.T) {
	r := rand.New(rand.NewSource(5))
	for w := 1; w <= 64; w++ {
		for range 12 {
			m := newMaker(t)
			x, y := drawn(r, w), drawn(r, w)
			if r.Intn(3) == 0 {
				y = x
			}
			ids := on(m, w, m.like(drawn(r, 1), 2), m.like(x, 0), m.like(y, 1))
			for _, id := range ids {
				m.as(id)
			}
			for range 5 {
				sound(m, ids, drawnAssign(r))
			}
		}
	}
}

// TestShiftByConst: below, at and above the width.
func TestShiftByConst(t *testing.T) {
	for _, w := range widths {
		for _, far := range []uint64{0, 1, 2, uint64(w) / 2, uint64(w) - 1, uint64(w), uint64(w) + 1, 62, 63, 64, 65, 127, 128, 255, 256, 1 << 32, 1 << 63, math.MaxUint64} {
			if far > full(w) {
				continue
			}
			m := newMaker(t)
			by := m.constant(w, far)
			for _, first := range []string{"0", "1", "?"} {
				x := first + strings.Repeat("1?0", 22)[:w-1]
				n := int(min(far, uint64(w)))
				id := m.like(x, 0)
				m.is(m.op(api.Shl, w, id, by), x[n:]+strings.Repeat("0", n))
				m.is(m.op(api.Lshr, w, id, by), strings.Repeat("0", n)+x[:w-n])
				m.is(m.op(api.Ashr, w, id, by), strings.Repeat(first, n)+x[:w-n])
			}
		}
	}
}

// TestShiftByOthers: by what is no Const nothing is sure, though all bits of
// what is shifted are, or all of how far.
func TestShiftByOthers(t *testing.T) {
	for _, w := range widths {
		m := newMaker(t)
		zero, one := m.constant(w, 0), m.constant(w, 1)
		far := []int{
			m.variable(w, 0),
			m.op(api.Not, w, m.constant(w, full(w))),
			m.op(api.Or, w, zero, one),
			m.op(api.And, w, m.variable(w, 0), zero),
			m.op(api.Zext, w, one),
			m.op(api.Ite, w, m.constant(1, 1), one, one),
		}
		for _, by := range far {
			for _, x := range []int{zero, m.constant(w, full(w)), m.variable(w, 1), by} {
				for _, o := range shifts {
					m.is(m.op(o, w, x, by), strings.Repeat("?", w))
				}
			}
		}
	}
}

// TestEven: of Add, Sub and Mul, by how many lowest bits of each kid are 0.
func TestEven(t *testing.T) {
	for _, w := range widths {
		m := newMaker(t)
		for i := 0; i <= w; i += max(1, w/9) {
			for j := 0; j <= w; j += max(1, w/7) {
				// Above its noughts a kid has a bit that is not sure, or one
				// that is 1; further noughts above those don't count.
				for _, above := range []string{"0?", "?", "01", "1"} {
					x := last(strings.Repeat("0", w)+above+strings.Repeat("0", i), w)
					y := last(strings.Repeat("0", w)+"?"+strings.Repeat("0", j), w)
					both, one := min(i, j), max(i, j)
					kx, ky := m.like(x, 0), m.like(y, 1)
					for _, k := range [][2]int{{kx, ky}, {ky, kx}} {
						m.is(m.op(api.Add, w, k[0], k[1]), strings.Repeat("?", w-both)+strings.Repeat("0", both))
						m.is(m.op(api.Sub, w, k[0], k[1]), strings.Repeat("?", w-both)+strings.Repeat("0", both))
						m.is(m.op(api.Mul, w, k[0], k[1]), strings.Repeat("?", w-one)+strings.Repeat("0", one))
					}
				}
			}
		}
	}
}

// last is the last n bytes of x.
func last(x string, n int) string { return x[len(x)-n:] }

// below is a chain of nodes of an Op, each of which has the one below it twice.
func below(m maker, o api.Op, w, id, long int) int {
	c := m.variable(1, 250)
	for range long {
		switch o {
		case api.Ite:
			id = m.op(o, w, c, id, m.op(api.Not, w, m.op(api.Not, w, id)))
		case api.Concat:
			id = m.part(w/2, w, m.op(o, 2*w, id, id))
		case api.Not:
			id = m.op(o, w, id)
		case api.Eq:
			id = m.op(api.Zext, w, m.op(o, 1, id, m.op(api.Not, w, id)))
		default:
			id = m.op(o, w, id, id)
		}
	}
	return id
}

// TestShared: as a tree these have no end.
func TestShared(t *testing.T) {
	for _, c := range []struct {
		o    api.Op
		x    string
		want string
	}{
		{api.And, "01??", "01??"},
		{api.Or, "01??", "01??"},
		{api.Xor, "01??", "00??"},
		{api.Add, "0100", "??00"},
		{api.Sub, "??10", "???0"},
		{api.Mul, "?100", "??00"},
		{api.Ite, "01??", "01??"},
		{api.Concat, "01??", "01??"},
		{api.Eq, "01??", "0000"},
		{api.Udiv, "0100", "????"},
		{api.Ult, "0", "?"},
	} {
		m := newMaker(t)
		m.is(below(m, c.o, len(c.x), m.like(c.x, 0), 2000), c.want)
	}
}

// TestLong: a chain as long as a store has nodes.
func TestLong(t *testing.T) {
	for _, o := range []api.Op{api.Not, api.And, api.Add} {
		m := newMaker(t)
		m.variable(1, 250)
		id := m.like("??00", 0)
		long := api.MaxNodes - m.s.Len()
		id = below(m, o, 4, id, long)
		if m.s.Len() != api.MaxNodes || id != api.MaxNodes-1 {
			t.Fatalf("Len = %d, node %d", m.s.Len(), id)
		}
		want := "??00"
		if o == api.Not && long%2 == 1 {
			want = "??11"
		}
		m.is(id, want)
		m.as(id)
	}
}

// TestOneByOne: of all nodes of a long chain, one by one: where nothing comes of
// the kid that has little below it, the other one isn't gone through.
func TestOneByOne(t *testing.T) {
	for _, o := range []api.Op{api.Add, api.Sub, api.Xor} {
		for _, isFirst := range []bool{true, false} {
			m := newMaker(t)
			v := m.variable(8, 0)
			id := m.op(api.Shl, 8, v, m.constant(8, 2))
			for range 100000 {
				kids := []int{id, v}
				if isFirst {
					slices.Reverse(kids)
				}
				id = m.op(o, 8, kids...)
				m.is(id, "????????")
			}
		}
	}
}

// randomly is a store of nodes that are drawn, with a rich choice of sure bits.
func randomly(t *testing.T, r *rand.Rand, count int) maker {
	m := newMaker(t)
	for i, w := range []int{1, 3, 8, 63, 64} {
		m.variable(w, 2*i)
		m.variable(w, 2*i+1)
		m.constant(w, r.Uint64()&full(w))
		m.constant(w, uint64(r.Intn(w+2))&full(w))
	}
	for m.s.Len() < count {
		x, y, c := r.Intn(m.s.Len()), r.Intn(m.s.Len()), r.Intn(m.s.Len())
		n := api.Node{Op: api.Not + api.Op(r.Intn(int(api.Ite))), W: m.node(x).W, Kids: [3]int{x, y, c}}
		copy(n.Kids[kidsOf(n.Op):], []int{0, 0, 0})
		switch n.Op {
		case api.Eq, api.Ult, api.Slt:
			n.W = 1
		case api.Concat:
			n.W += m.node(y).W
		case api.Extract:
			n.Low = uint8(r.Intn(int(n.W)))
			n.W = uint8(1 + r.Intn(int(n.W-n.Low)))
		case api.Zext, api.Sext:
			n.W += uint8(r.Intn(int(65 - n.W)))
		case api.Ite:
			n.W = m.node(y).W
		}
		// What may not be is drawn anew.
		m.s.Make(n)
	}
	return m
}

// TestDrawn: of drawn nodes each is as the table says, and sound under drawn
// assignments.
func TestDrawn(t *testing.T) {
	r := rand.New(rand.NewSource(1))
	ops := map[api.Op]int{}
	for range 60 {
		m := randomly(t, r, 150)
		ids := r.Perm(m.s.Len())
		for _, id := range ids {
			ops[m.node(id).Op]++
			m.as(id)
		}
		for range 20 {
			sound(m, ids, drawnAssign(r))
		}
	}
	for o := api.Const; o <= api.Ite; o++ {
		if ops[o] < 20 {
			t.Errorf("Op %d: %d nodes", o, ops[o])
		}
	}
}

// TestNotThere: numbers that no node has.
func TestNotThere(t *testing.T) {
	m := newMaker(t)
	for _, s := range []*term.Store{m.s, term.New()} {
		for _, id := range notThere(s) {
			if k, e := known.Of(s, id); k != (api.Known{}) || e != api.ErrArg {
				t.Errorf("Of(%d) = %v, %d", id, k, e)
			}
		}
	}
	m.op(api.Not, 8, m.constant(8, 7))
	for _, id := range notThere(m.s) {
		if k, e := known.Of(m.s, id); k != (api.Known{}) || e != api.ErrArg {
			t.Errorf("Of(%d) = %v, %d", id, k, e)
		}
	}
	m.is(0, "00000111")
	m.is(1, "11111000")
}

// TestNone: a store that is not there, and one that no call made.
func TestNone(t *testing.T) {
	for what, s := range map[string]*term.Store{"nil": nil, "zero": {}} {
		for _, id := range []int{math.MinInt, -1, 0, 1, api.MaxNodes, math.MaxInt} {
			if k, e := known.Of(s, id); k != (api.Known{}) || e != api.ErrNil {
				t.Errorf("%s: Of(%d) = %v, %d", what, id, k, e)
			}
		}
	}
}

// TestStays: a store has the same nodes behind a call, and a call answers the
// same behind others, behind nodes made since, and beside another store.
func TestStays(t *testing.T) {
	r := rand.New(rand.NewSource(7))
	m, other := randomly(t, r, 120), randomly(t, r, 120)
	was := nodes(m)
	want := make([]string, len(was))
	for id := range was {
		want[id] = m.told(id)
	}
	if now := nodes(m); !slices.Equal(was, now) {
		t.Errorf("nodes %v, were %v", now, was)
	}
	for range 3 {
		for _, id := range r.Perm(len(was)) {
			other.as(id)
			m.is(id, want[id])
			m.variable(5, 20+r.Intn(200))
			m.op(api.Not, int(was[id].W), id)
		}
	}
	if now := nodes(m)[:len(was)]; !slices.Equal(was, now) {
		t.Errorf("nodes %v, were %v", now, was)
	}
}
