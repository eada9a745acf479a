// Package bv is layer 1, numbers of so many bits: see shared/doc/01-bv.md.
package bv

import (
	"augury/api"
)

// maxWidth is the greatest width of a vector.
const maxWidth = 64

// May tells whether a is a vector.
func May(a api.Bv) bool {
	return a.W >= 1 && a.W <= maxWidth && a.N <= mask(a.W)
}

// Worth is what a says as a number with a sign; 0 of one that may not be.
func Worth(a api.Bv) int64 {
	if !May(a) {
		return 0
	}
	return worth(a)
}

// Unary does an operator of one vector: Not, Neg.
func Unary(o api.Op, a api.Bv) (api.Bv, api.Errno) {
	if !May(a) {
		return api.Bv{}, api.ErrArg
	}
	n := a.N
	switch o {
	case api.Neg:
		// Not of n is the same as -n less 1, so that one of n-1 is -n.
		n--
		fallthrough
	case api.Not:
		return cut(a.W, ^n), api.OK
	}
	return api.Bv{}, api.ErrArg
}

// Binary does an operator of two vectors: And to Slt, Concat.
func Binary(o api.Op, a, b api.Bv) (api.Bv, api.Errno) {
	if !May(a) || !May(b) {
		return api.Bv{}, api.ErrArg
	}
	w := binaryWidth(o, a.W, b.W)
	if w == 0 {
		return api.Bv{}, api.ErrArg
	}
	return cut(w, binaryNumber(o, a, b)), api.OK
}

// Extract is the w bits of a from bit low on.
func Extract(a api.Bv, low, w int) (api.Bv, api.Errno) {
	if !May(a) || low < 0 || w < 1 || low > int(a.W)-w {
		return api.Bv{}, api.ErrArg
	}
	return cut(uint8(w), a.N>>low), api.OK
}

// Extend brings a to the width w: Zext with 0, Sext with its highest bit.
func Extend(o api.Op, a api.Bv, w int) (api.Bv, api.Errno) {
	if !May(a) || w < int(a.W) || w > maxWidth {
		return api.Bv{}, api.ErrArg
	}
	n := a.N
	switch o {
	case api.Sext:
		n = uint64(worth(a))
		fallthrough
	case api.Zext:
		return cut(uint8(w), n), api.OK
	}
	return api.Bv{}, api.ErrArg
}

// Ite is a, if the bit c is 1, else b.
func Ite(c, a, b api.Bv) (api.Bv, api.Errno) {
	if !May(c) || !May(a) || !May(b) || c.W != 1 || a.W != b.W {
		return api.Bv{}, api.ErrArg
	}
	if c.N == 1 {
		return a, api.OK
	}
	return b, api.OK
}

// mask has the w lowest bits set, of a w from 1 to 64.
func mask(w uint8) uint64 { return ^uint64(0) >> (maxWidth - w) }

// cut is the vector of the w lowest bits of n.
func cut(w uint8, n uint64) api.Bv { return api.Bv{W: w, N: n & mask(w)} }

// worth is Worth of one that may be.
func worth(a api.Bv) int64 {
	// The vector's highest bit has to stand where int64 has its sign.
	up := maxWidth - a.W
	return int64(a.N<<up) >> up
}

// binaryWidth is the width of what o makes of vectors of the widths v and w;
// 0, if it takes none such.
func binaryWidth(o api.Op, v, w uint8) uint8 {
	switch o {
	case api.And, api.Or, api.Xor, api.Add, api.Sub, api.Mul,
		api.Udiv, api.Urem, api.Sdiv, api.Srem,
		api.Shl, api.Lshr, api.Ashr:
		if v == w {
			return v
		}
	case api.Eq, api.Ult, api.Slt:
		if v == w {
			return 1
		}
	case api.Concat:
		if v <= maxWidth-w {
			return v + w
		}
	}
	return 0
}

// binaryNumber is what o makes of a and b, whose widths fit it; bits above
// the answer's width are any.
func binaryNumber(o api.Op, a, b api.Bv) uint64 {
	x, y := a.N, b.N
	switch o {
	case api.And:
		return x & y
	case api.Or:
		return x | y
	case api.Xor:
		return x ^ y
	case api.Sub:
		y = -y
		fallthrough
	case api.Add:
		return x + y
	case api.Mul:
		return x * y
	case api.Udiv, api.Urem, api.Sdiv, api.Srem:
		return divide(o, a, b)
	case api.Shl:
		return x << y
	case api.Lshr:
		return x >> y
	case api.Ashr:
		return uint64(worth(a) >> y)
	case api.Eq:
		return bit(x == y)
	case api.Slt:
		// With the highest bits changed, numbers lie as the worths do.
		top := uint64(1) << (a.W - 1)
		x, y = x^top, y^top
		fallthrough
	case api.Ult:
		return bit(x < y)
	case api.Concat:
		return x<<b.W | y
	}
	return 0
}

// divide is binaryNumber of the quotients and rests. By 0 those of worths are
// the same as those of numbers.
func divide(o api.Op, a, b api.Bv) uint64 {
	switch o {
	case api.Sdiv:
		if b.N != 0 {
			return uint64(worth(a) / worth(b))
		}
		fallthrough
	case api.Udiv:
		if b.N == 0 {
			return ^uint64(0)
		}
		return a.N / b.N
	case api.Srem:
		if b.N != 0 {
			return uint64(worth(a) % worth(b))
		}
		fallthrough
	case api.Urem:
		if b.N == 0 {
			return a.N
		}
		return a.N % b.N
	}
	return 0
}

// bit is 1 of yes, 0 of no.
func bit(yes bool) uint64 {
	if yes {
		return 1
	}
	return 0
}
