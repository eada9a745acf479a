package bv_test

// What chapter 1 says, done with numbers without a bound: nothing here goes
// by the shifts and conversions of package bv.

import (
	"math/big"

	"augury/api"
)

var one = big.NewInt(1)

// power is 2^k.
func power(k int) *big.Int { return new(big.Int).Exp(big.NewInt(2), big.NewInt(int64(k)), nil) }

// number is N as a number without a bound.
func number(a api.Bv) *big.Int { return new(big.Int).SetUint64(a.N) }

// worthOf is N, less 2^W, if the highest bit is set.
func worthOf(a api.Bv) *big.Int {
	n := number(a)
	if n.Cmp(power(int(a.W)-1)) >= 0 {
		n.Sub(n, power(int(a.W)))
	}
	return n
}

// vector is n modulo 2^w.
func vector(w int, n *big.Int) api.Bv {
	return api.Bv{W: uint8(w), N: new(big.Int).Mod(n, power(w)).Uint64()}
}

// truth is the vector of 1 bit that says yes or no.
func truth(yes bool) api.Bv {
	if yes {
		return api.Bv{W: 1, N: 1}
	}
	return api.Bv{W: 1}
}

// bitOf is bit i of n.
func bitOf(n uint64, i int) uint {
	return new(big.Int).SetUint64(n).Bit(i)
}

// sameWidth lists the operators of two vectors of one width.
var sameWidth = []api.Op{
	api.And, api.Or, api.Xor, api.Add, api.Sub, api.Mul,
	api.Udiv, api.Urem, api.Sdiv, api.Srem, api.Shl, api.Lshr, api.Ashr,
	api.Eq, api.Ult, api.Slt,
}

// wantUnary is what the chapter says of Not, Neg.
func wantUnary(o api.Op, a api.Bv) api.Bv {
	w := int(a.W)
	if o == api.Neg {
		return vector(w, new(big.Int).Neg(number(a)))
	}
	return vector(w, new(big.Int).Sub(new(big.Int).Sub(power(w), one), number(a)))
}

// wantBinary is what the chapter says of two vectors whose widths fit o.
func wantBinary(o api.Op, a, b api.Bv) api.Bv {
	w, x, y := int(a.W), number(a), number(b)
	z := new(big.Int)
	switch o {
	case api.And:
		return vector(w, z.And(x, y))
	case api.Or:
		return vector(w, z.Or(x, y))
	case api.Xor:
		return vector(w, z.Xor(x, y))
	case api.Add:
		return vector(w, z.Add(x, y))
	case api.Sub:
		return vector(w, z.Sub(x, y))
	case api.Mul:
		return vector(w, z.Mul(x, y))
	case api.Udiv, api.Urem:
		return wantDivide(o == api.Udiv, w, x, y)
	case api.Sdiv, api.Srem:
		return wantDivide(o == api.Sdiv, w, worthOf(a), worthOf(b))
	case api.Shl, api.Lshr, api.Ashr:
		return wantShift(o, a, y)
	case api.Eq:
		return truth(x.Cmp(y) == 0)
	case api.Ult:
		return truth(x.Cmp(y) < 0)
	case api.Slt:
		return truth(worthOf(a).Cmp(worthOf(b)) < 0)
	}
	return vector(w+int(b.W), z.Add(z.Mul(x, power(int(b.W))), y))
}

// wantDivide is the quotient or the rest, rounded to 0; by 0 all bits, or x.
func wantDivide(quotient bool, w int, x, y *big.Int) api.Bv {
	if y.Sign() == 0 {
		if quotient {
			return vector(w, big.NewInt(-1))
		}
		return vector(w, x)
	}
	q, r := new(big.Int).QuoRem(x, y, new(big.Int))
	if quotient {
		return vector(w, q)
	}
	return vector(w, r)
}

// wantShift goes bit by bit: each bit comes from the place that by says.
func wantShift(o api.Op, a api.Bv, by *big.Int) api.Bv {
	w := int(a.W)
	n := new(big.Int)
	for i := range w {
		from := new(big.Int).Add(big.NewInt(int64(i)), by)
		if o == api.Shl {
			from.Sub(big.NewInt(int64(i)), by)
		}
		if b := comesIn(o, a, from); b == 1 {
			n.SetBit(n, i, 1)
		}
	}
	return vector(w, n)
}

// comesIn is the bit of a at a place that may be beside it.
func comesIn(o api.Op, a api.Bv, from *big.Int) uint {
	w := int(a.W)
	if from.Sign() >= 0 && from.Cmp(big.NewInt(int64(w))) < 0 {
		return bitOf(a.N, int(from.Int64()))
	}
	if o == api.Ashr {
		return bitOf(a.N, w-1)
	}
	return 0
}

// wantExtract goes bit by bit.
func wantExtract(a api.Bv, low, w int) api.Bv {
	n := new(big.Int)
	for i := range w {
		n.SetBit(n, i, bitOf(a.N, low+i))
	}
	return vector(w, n)
}

// wantExtend is the same number, or the same worth, of more bits.
func wantExtend(o api.Op, a api.Bv, w int) api.Bv {
	if o == api.Sext {
		return vector(w, worthOf(a))
	}
	return vector(w, number(a))
}
