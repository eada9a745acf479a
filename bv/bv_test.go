package bv_test

import (
	"math"
	"testing"

	"augury/api"
	"augury/bv"
)

func v(w uint8, n uint64) api.Bv { return api.Bv{W: w, N: n} }

// all is each vector of w bits.
func all(w int) []api.Bv {
	var l []api.Bv
	for n := range uint64(1) << w {
		l = append(l, v(uint8(w), n))
	}
	return l
}

// some is vectors of w bits: the edges, small ones, and a mixed few.
func some(w int) []api.Bv {
	top := uint64(math.MaxUint64) >> (64 - w)
	half := uint64(1) << (w - 1)
	seen := map[uint64]bool{}
	var l []api.Bv
	for _, n := range []uint64{
		0, 1, 2, 3, 7, half - 2, half - 1, half, half + 1, top - 2, top - 1, top,
		uint64(w) - 1, uint64(w), uint64(w) + 1, 63, 64, 65, 128, 255, 256,
		1 << 31, 1<<32 + 1, 1 << 33, 0x5555555555555555, 0x123456789abcdef1, 0xfedcba9876543210,
	} {
		n &= top
		if !seen[n] {
			seen[n] = true
			l = append(l, v(uint8(w), n))
		}
	}
	return l
}

// wrong is vectors that may not be.
func wrong() []api.Bv {
	l := []api.Bv{{}, v(0, 1), v(0, math.MaxUint64), v(65, 0), v(65, 1), v(128, 3), v(255, 0), v(255, math.MaxUint64)}
	for w := uint8(1); w < 64; w++ {
		l = append(l, v(w, 1<<w), v(w, math.MaxUint64))
	}
	return l
}

// refused reports an answer that is not ErrArg with a zero vector beside it.
func refused(t *testing.T, what string, args []any, x api.Bv, e api.Errno) {
	t.Helper()
	if e != api.ErrArg || x != (api.Bv{}) {
		t.Errorf("%s%v = %v, %d: want a zero vector, ErrArg", what, args, x, e)
	}
}

// answered reports an answer that is not want, without an error.
func answered(t *testing.T, what string, args []any, x api.Bv, e api.Errno, want api.Bv) {
	t.Helper()
	if e != api.OK || x != want {
		t.Errorf("%s%v = %v, %d: want %v, OK", what, args, x, e, want)
	}
}

// ops is each Op that a number can be, those without a name too.
func ops() []api.Op {
	var l []api.Op
	for o := range 256 {
		l = append(l, api.Op(o))
	}
	return l
}

func isIn(o api.Op, l ...api.Op) bool {
	for _, x := range l {
		if x == o {
			return true
		}
	}
	return false
}

func TestExamples(t *testing.T) {
	for i, c := range []struct {
		o          api.Op
		a, b, want api.Bv
	}{
		{api.Sdiv, v(4, 8), v(4, 15), v(4, 8)},
		{api.Udiv, v(8, 7), v(8, 0), v(8, 255)},
		{api.Ashr, v(4, 8), v(4, 9), v(4, 15)},
		{api.Concat, v(4, 1), v(4, 2), v(8, 18)},
	} {
		x, e := bv.Binary(c.o, c.a, c.b)
		answered(t, "Binary", []any{i}, x, e, c.want)
	}
	x, e := bv.Extract(v(8, 18), 4, 4)
	answered(t, "Extract", nil, x, e, v(4, 1))
	x, e = bv.Extend(api.Sext, v(4, 9), 8)
	answered(t, "Extend", nil, x, e, v(8, 249))
	if n := bv.Worth(v(4, 9)); n != -7 {
		t.Errorf("Worth = %d", n)
	}
	x, e = bv.Binary(api.Add, v(4, 1), v(5, 1))
	refused(t, "Binary", []any{api.Add}, x, e)
}

func TestMay(t *testing.T) {
	for w := 1; w <= 64; w++ {
		for _, a := range some(w) {
			if !bv.May(a) {
				t.Errorf("May(%v): no", a)
			}
		}
	}
	for _, a := range wrong() {
		if bv.May(a) {
			t.Errorf("May(%v): yes", a)
		}
	}
}

func TestWorth(t *testing.T) {
	for w := 1; w <= 64; w++ {
		for _, a := range some(w) {
			if n := bv.Worth(a); n != worthOf(a).Int64() {
				t.Errorf("Worth(%v) = %d, want %v", a, n, worthOf(a))
			}
		}
	}
	for _, c := range []struct {
		a    api.Bv
		want int64
	}{
		{v(1, 0), 0}, {v(1, 1), -1}, {v(8, 127), 127}, {v(8, 128), -128}, {v(63, 1<<62), -1 << 62},
		{v(64, 1<<63-1), math.MaxInt64}, {v(64, 1<<63), math.MinInt64}, {v(64, math.MaxUint64), -1},
	} {
		if n := bv.Worth(c.a); n != c.want {
			t.Errorf("Worth(%v) = %d, want %d", c.a, n, c.want)
		}
	}
	for _, a := range wrong() {
		if n := bv.Worth(a); n != 0 {
			t.Errorf("Worth(%v) = %d, want 0 of one that may not be", a, n)
		}
	}
}

func TestUnary(t *testing.T) {
	for w := 1; w <= 64; w++ {
		for _, a := range some(w) {
			for _, o := range []api.Op{api.Not, api.Neg} {
				x, e := bv.Unary(o, a)
				answered(t, "Unary", []any{o, a}, x, e, wantUnary(o, a))
			}
		}
	}
}

func TestUnaryRefuses(t *testing.T) {
	for _, o := range ops() {
		if !isIn(o, api.Not, api.Neg) {
			x, e := bv.Unary(o, v(8, 5))
			refused(t, "Unary", []any{o}, x, e)
		}
		for _, a := range wrong() {
			x, e := bv.Unary(o, a)
			refused(t, "Unary", []any{o, a}, x, e)
		}
	}
}

// pairs holds Binary against the chapter for each two of l.
func pairs(t *testing.T, l []api.Bv) {
	t.Helper()
	for _, o := range sameWidth {
		for _, a := range l {
			for _, b := range l {
				x, e := bv.Binary(o, a, b)
				answered(t, "Binary", []any{o, a, b}, x, e, wantBinary(o, a, b))
			}
		}
	}
}

func TestBinaryOfFewBits(t *testing.T) {
	for w := 1; w <= 5; w++ {
		pairs(t, all(w))
	}
}

func TestBinaryOfManyBits(t *testing.T) {
	for _, w := range []int{6, 7, 8, 15, 16, 17, 31, 32, 33, 62, 63, 64} {
		pairs(t, some(w))
	}
}

func TestBinaryEdges(t *testing.T) {
	const least = uint64(1) << 63
	const full = math.MaxUint64
	for _, c := range []struct {
		o          api.Op
		a, b, want api.Bv
	}{
		{api.Udiv, v(1, 0), v(1, 0), v(1, 1)},
		{api.Udiv, v(64, 7), v(64, 0), v(64, full)},
		{api.Urem, v(64, full), v(64, 0), v(64, full)},
		{api.Urem, v(8, 0), v(8, 0), v(8, 0)},
		{api.Sdiv, v(8, 128), v(8, 0), v(8, 255)},
		{api.Sdiv, v(8, 1), v(8, 0), v(8, 255)},
		{api.Srem, v(8, 128), v(8, 0), v(8, 128)},
		{api.Sdiv, v(64, least), v(64, full), v(64, least)},
		{api.Srem, v(64, least), v(64, full), v(64, 0)},
		{api.Sdiv, v(1, 1), v(1, 1), v(1, 1)},
		{api.Srem, v(1, 1), v(1, 1), v(1, 0)},
		{api.Sdiv, v(8, 249), v(8, 2), v(8, 253)},
		{api.Srem, v(8, 249), v(8, 2), v(8, 255)},
		{api.Sdiv, v(8, 7), v(8, 254), v(8, 253)},
		{api.Srem, v(8, 7), v(8, 254), v(8, 1)},
		{api.Shl, v(8, 255), v(8, 8), v(8, 0)},
		{api.Shl, v(64, full), v(64, 64), v(64, 0)},
		{api.Shl, v(64, full), v(64, 1<<32), v(64, 0)},
		{api.Lshr, v(64, full), v(64, 64), v(64, 0)},
		{api.Lshr, v(64, full), v(64, full), v(64, 0)},
		{api.Lshr, v(8, 255), v(8, 8), v(8, 0)},
		{api.Ashr, v(64, least), v(64, 64), v(64, full)},
		{api.Ashr, v(64, least), v(64, full), v(64, full)},
		{api.Ashr, v(64, least-1), v(64, full), v(64, 0)},
		{api.Ashr, v(1, 1), v(1, 1), v(1, 1)},
		{api.Slt, v(1, 1), v(1, 0), v(1, 1)},
		{api.Ult, v(1, 1), v(1, 0), v(1, 0)},
		{api.Slt, v(64, least), v(64, least-1), v(1, 1)},
		{api.Ult, v(64, least), v(64, least-1), v(1, 0)},
		{api.Mul, v(64, least+3), v(64, 2), v(64, 6)},
	} {
		x, e := bv.Binary(c.o, c.a, c.b)
		answered(t, "Binary", []any{c.o, c.a, c.b}, x, e, c.want)
	}
}

func TestConcat(t *testing.T) {
	for w := 1; w <= 64; w++ {
		for u := 1; u <= 64; u++ {
			for _, a := range some(w) {
				b := v(uint8(u), some(u)[len(some(u))/2].N)
				x, e := bv.Binary(api.Concat, a, b)
				if w+u > 64 {
					refused(t, "Concat", []any{a, b}, x, e)
					continue
				}
				answered(t, "Concat", []any{a, b}, x, e, wantBinary(api.Concat, a, b))
			}
		}
	}
	x, e := bv.Binary(api.Concat, v(1, 1), v(63, 5))
	answered(t, "Concat", nil, x, e, v(64, 1<<63|5))
	x, e = bv.Binary(api.Concat, v(63, 5), v(1, 1))
	answered(t, "Concat", nil, x, e, v(64, 11))
}

func TestBinaryRefusesOps(t *testing.T) {
	for _, o := range ops() {
		if !isIn(o, append([]api.Op{api.Concat}, sameWidth...)...) {
			x, e := bv.Binary(o, v(8, 5), v(8, 3))
			refused(t, "Binary", []any{o}, x, e)
		}
		for _, a := range wrong() {
			x, e := bv.Binary(o, a, v(8, 3))
			refused(t, "Binary", []any{o, a, "first"}, x, e)
			x, e = bv.Binary(o, v(8, 3), a)
			refused(t, "Binary", []any{o, a, "second"}, x, e)
			x, e = bv.Binary(o, a, a)
			refused(t, "Binary", []any{o, a, "both"}, x, e)
		}
	}
}

func TestBinaryRefusesWidths(t *testing.T) {
	for _, o := range sameWidth {
		for w := uint8(1); w <= 64; w++ {
			for u := uint8(1); u <= 64; u++ {
				if w != u {
					x, e := bv.Binary(o, v(w, 1), v(u, 1))
					refused(t, "Binary", []any{o, w, u}, x, e)
				}
			}
		}
	}
}

func TestExtract(t *testing.T) {
	for _, w := range []int{1, 2, 3, 8, 31, 32, 33, 63, 64} {
		for _, a := range some(w) {
			for low := 0; low < w; low++ {
				for n := 1; n <= w-low; n++ {
					x, e := bv.Extract(a, low, n)
					answered(t, "Extract", []any{a, low, n}, x, e, wantExtract(a, low, n))
				}
				x, e := bv.Extract(a, low, w-low+1)
				refused(t, "Extract", []any{a, low, w - low + 1}, x, e)
			}
		}
	}
}

func TestExtractRefuses(t *testing.T) {
	numbers := []int{math.MinInt, math.MinInt32, -256, -1, 0, 1, 8, 9, 64, 255, 256, 257, math.MaxInt32, math.MaxInt - 1, math.MaxInt}
	for _, low := range numbers {
		for _, w := range numbers {
			x, e := bv.Extract(v(8, 255), low, w)
			switch {
			case low == 0 && w == 1, low == 0 && w == 8, low == 1 && w == 1:
				answered(t, "Extract", []any{low, w}, x, e, wantExtract(v(8, 255), low, w))
			default:
				refused(t, "Extract", []any{low, w}, x, e)
			}
		}
	}
	for _, a := range wrong() {
		x, e := bv.Extract(a, 0, 1)
		refused(t, "Extract", []any{a, 0, 1}, x, e)
	}
}

func TestExtend(t *testing.T) {
	for w := 1; w <= 64; w++ {
		for _, a := range some(w) {
			for to := w; to <= 64; to++ {
				for _, o := range []api.Op{api.Zext, api.Sext} {
					x, e := bv.Extend(o, a, to)
					answered(t, "Extend", []any{o, a, to}, x, e, wantExtend(o, a, to))
				}
			}
		}
	}
}

func TestExtendRefuses(t *testing.T) {
	for _, o := range []api.Op{api.Zext, api.Sext} {
		for _, w := range []int{math.MinInt, -248, -1, 0, 1, 7, 65, 66, 128, 256, 264, 1<<32 + 8, math.MaxInt} {
			x, e := bv.Extend(o, v(8, 200), w)
			refused(t, "Extend", []any{o, w}, x, e)
		}
		for _, a := range wrong() {
			x, e := bv.Extend(o, a, 64)
			refused(t, "Extend", []any{o, a}, x, e)
			x, e = bv.Extend(o, a, int(a.W))
			refused(t, "Extend", []any{o, a, a.W}, x, e)
		}
	}
	for _, o := range ops() {
		if !isIn(o, api.Zext, api.Sext) {
			x, e := bv.Extend(o, v(8, 200), 16)
			refused(t, "Extend", []any{o}, x, e)
		}
	}
}

func TestIte(t *testing.T) {
	for w := 1; w <= 64; w++ {
		l := some(w)
		for i, a := range l {
			b := l[len(l)-1-i]
			x, e := bv.Ite(v(1, 1), a, b)
			answered(t, "Ite", []any{1, a, b}, x, e, a)
			x, e = bv.Ite(v(1, 0), a, b)
			answered(t, "Ite", []any{0, a, b}, x, e, b)
		}
	}
}

func TestIteRefuses(t *testing.T) {
	for w := uint8(2); w <= 64; w++ {
		for n := range uint64(2) {
			x, e := bv.Ite(v(w, n), v(8, 2), v(8, 3))
			refused(t, "Ite", []any{v(w, n)}, x, e)
		}
		x, e := bv.Ite(v(1, 1), v(w, 1), v(w-1, 1))
		refused(t, "Ite", []any{w, w - 1}, x, e)
		x, e = bv.Ite(v(1, 0), v(w-1, 1), v(w, 1))
		refused(t, "Ite", []any{w - 1, w}, x, e)
	}
	// The side that is not chosen has to be a vector as well.
	for _, a := range wrong() {
		for n := range uint64(2) {
			x, e := bv.Ite(v(1, n), a, v(8, 3))
			refused(t, "Ite", []any{n, a, "second"}, x, e)
			x, e = bv.Ite(v(1, n), v(8, 3), a)
			refused(t, "Ite", []any{n, a, "third"}, x, e)
			x, e = bv.Ite(v(1, n), a, a)
			refused(t, "Ite", []any{n, a, "both"}, x, e)
		}
		x, e := bv.Ite(a, v(8, 2), v(8, 3))
		refused(t, "Ite", []any{a, "condition"}, x, e)
	}
}

// must is an answer without an error.
func must(t *testing.T) func(api.Bv, api.Errno) api.Bv {
	return func(x api.Bv, e api.Errno) api.Bv {
		t.Helper()
		if e != api.OK {
			t.Fatalf("refused: %d", e)
		}
		return x
	}
}

// laws holds P1.2 for the vectors of l.
func laws(t *testing.T, l []api.Bv) {
	t.Helper()
	is := must(t)
	for _, a := range l {
		if x, y := is(bv.Unary(api.Neg, a)), is(bv.Binary(api.Add, is(bv.Unary(api.Not, a)), v(a.W, 1))); x != y {
			t.Errorf("Neg %v = %v; Not and 1 = %v", a, x, y)
		}
		for _, b := range l {
			if b.N == 0 {
				continue
			}
			q, r := is(bv.Binary(api.Udiv, a, b)), is(bv.Binary(api.Urem, a, b))
			if x := is(bv.Binary(api.Add, is(bv.Binary(api.Mul, q, b)), r)); x != a {
				t.Errorf("%v by %v: %v and the rest %v make %v", a, b, q, r, x)
			}
			if is(bv.Binary(api.Ult, r, b)).N != 1 {
				t.Errorf("%v by %v: the rest %v is not less", a, b, r)
			}
		}
	}
}

func TestLaws(t *testing.T) {
	for w := 1; w <= 5; w++ {
		laws(t, all(w))
	}
	for w := 6; w <= 64; w++ {
		laws(t, some(w))
	}
}

func TestExtractOfConcat(t *testing.T) {
	is := must(t)
	for w := 1; w < 64; w++ {
		for u := 1; u <= 64-w; u++ {
			for i, a := range some(w) {
				b := some(u)[i%len(some(u))]
				c := is(bv.Binary(api.Concat, a, b))
				if x := is(bv.Extract(c, 0, u)); x != b {
					t.Errorf("Concat(%v, %v): the low bits are %v", a, b, x)
				}
				if x := is(bv.Extract(c, u, w)); x != a {
					t.Errorf("Concat(%v, %v): the high bits are %v", a, b, x)
				}
			}
		}
	}
}

// TestAnswersMayBe: whatever is asked, an answer without an error is a vector.
func TestAnswersMayBe(t *testing.T) {
	l := append(append(wrong(), some(1)...), append(some(8), some(64)...)...)
	for _, o := range ops() {
		for _, a := range l {
			for _, b := range []api.Bv{a, v(8, 3), v(64, math.MaxUint64), v(1, 1), {}} {
				if x, e := bv.Binary(o, a, b); e == api.OK != bv.May(x) {
					t.Errorf("Binary(%d, %v, %v) = %v, %d", o, a, b, x, e)
				}
			}
			if x, e := bv.Unary(o, a); e == api.OK != bv.May(x) {
				t.Errorf("Unary(%d, %v) = %v, %d", o, a, x, e)
			}
			for _, w := range []int{math.MinInt, -1, 0, 1, 8, 64, 65, math.MaxInt} {
				if x, e := bv.Extend(o, a, w); e == api.OK != bv.May(x) {
					t.Errorf("Extend(%d, %v, %d) = %v, %d", o, a, w, x, e)
				}
			}
		}
	}
}
