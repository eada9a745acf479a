package blast

import (
	"slices"

	"augury/api"
)

// node is the literals of n, whose kids have theirs.
func (b *Blaster) node(n api.Node) []int {
	x, y, z := b.bits[n.Kids[0]], b.bits[n.Kids[1]], b.bits[n.Kids[2]]
	switch n.Op {
	case api.Const:
		return constant(int(n.W), n.N)
	case api.Var:
		return b.newVar(n)
	case api.Not:
		return nots(x)
	case api.Neg:
		return b.negated(yes, x)
	case api.And:
		return each(b.and, x, y)
	case api.Or:
		return each(b.or, x, y)
	case api.Xor:
		return each(b.xor, x, y)
	case api.Add:
		return b.added(x, y, no)
	case api.Sub:
		return b.added(x, nots(y), yes)
	case api.Mul:
		return b.multiplied(x, y)
	case api.Udiv, api.Urem, api.Sdiv, api.Srem:
		return b.divided(n.Op, x, y)
	case api.Shl, api.Lshr, api.Ashr:
		return b.shifted(n.Op, x, y)
	case api.Eq:
		return []int{-b.any(each(b.xor, x, y))}
	case api.Ult:
		return []int{b.isBelow(x, y)}
	case api.Slt:
		// With the highest bits changed, numbers lie as the worths do.
		return []int{b.isBelow(topChanged(x), topChanged(y))}
	case api.Concat:
		return slices.Concat(y, x)
	case api.Extract:
		return x[n.Low : n.Low+n.W]
	case api.Zext:
		return extended(x, int(n.W), no)
	case api.Sext:
		return extended(x, int(n.W), top(x))
	}
	return b.chosen(x[0], y, z)
}

// newVar is the literals of a Var: new variables of the clauses. A store has
// each variable once, so that they aren't there already.
func (b *Blaster) newVar(n api.Node) []int {
	l := make([]int, n.W)
	for i := range l {
		l[i] = b.fresh()
	}
	b.vars[n.N] = l
	b.asked = max(b.asked, int(n.N)+1)
	return l
}

// each is what a gate makes of each two bits at the same place.
func each(gate func(x, y int) int, x, y []int) []int {
	l := make([]int, len(x))
	for i := range l {
		l[i] = gate(x[i], y[i])
	}
	return l
}

// chosen is the bits x, if c is so, else y.
func (b *Blaster) chosen(c int, x, y []int) []int {
	return each(func(x, y int) int { return b.ite(c, x, y) }, x, y)
}

// any is so, if one of the bits is.
func (b *Blaster) any(x []int) int {
	out := no
	for _, l := range x {
		out = b.or(out, l)
	}
	return out
}

// added is x and y and a bit more, without what is carried beyond.
func (b *Blaster) added(x, y []int, more int) []int {
	l := make([]int, len(x))
	for i := range l {
		if i > 0 {
			more = b.carry(x[i-1], y[i-1], more)
		}
		l[i] = b.sum(x[i], y[i], more)
	}
	return l
}

// negated is x less than 0, if c is so, else x.
func (b *Blaster) negated(c int, x []int) []int {
	changed := make([]int, len(x))
	for i, l := range x {
		changed[i] = b.xor(c, l)
	}
	return b.added(changed, constant(len(x), 0), c)
}

// isBelow is so, if the number x is less than y.
func (b *Blaster) isBelow(x, y []int) int {
	out := no
	for i := range x {
		out = b.carry(-x[i], y[i], out)
	}
	return out
}

// multiplied is x times y: the sum of x at all places that y has.
func (b *Blaster) multiplied(x, y []int) []int {
	l := constant(len(x), 0)
	for i, at := range y {
		row := make([]int, len(x)-i)
		for j := range row {
			row[j] = b.and(x[j], at)
		}
		copy(l[i:], b.added(l[i:], row, no))
	}
	return l
}

// divided is the quotient of x by y, or the rest.
func (b *Blaster) divided(o api.Op, x, y []int) []int {
	switch o {
	case api.Udiv:
		q, _ := b.quotient(x, y)
		return q
	case api.Urem:
		_, r := b.quotient(x, y)
		return r
	}
	// Of worths those of what they are without their signs are taken.
	q, r := b.quotient(b.negated(top(x), x), b.negated(top(y), y))
	if o == api.Srem {
		return b.negated(top(x), r)
	}
	// By 0 all bits are set already.
	unlike := b.and(b.xor(top(x), top(y)), b.any(y))
	return b.negated(unlike, q)
}

// quotient is how often y goes into x, and the rest. It is done as by hand: the
// rest so far, with the next bit of x behind it, is lessened by y, if that goes
// into it. Then by 0 the quotient comes to be all bits, and the rest x.
func (b *Blaster) quotient(x, y []int) (q, r []int) {
	w := len(x)
	q = make([]int, w)
	// high says of each place whether y has bits from there on.
	high := make([]int, w+1)
	high[w] = no
	for i := w - 1; i >= 0; i-- {
		high[i] = b.or(high[i+1], y[i])
	}
	for i := w - 1; i >= 0; i-- {
		// The rest has no more bits than were taken from x, so that only as
		// many of y are to be looked at.
		r = slices.Concat(x[i:i+1], r)
		low := y[:len(r)]
		q[i] = b.and(-high[len(r)], -b.isBelow(r, low))
		r = b.chosen(q[i], b.added(r, nots(low), yes), r)
	}
	return q, r
}

// shifted is x with its bits y places higher or lower.
func (b *Blaster) shifted(o api.Op, x, y []int) []int {
	switch o {
	case api.Shl:
		l := slices.Clone(x)
		slices.Reverse(l)
		l = b.lower(l, y, no)
		slices.Reverse(l)
		return l
	case api.Lshr:
		return b.lower(x, y, no)
	}
	return b.lower(x, y, top(x))
}

// lower is the bits of x, y places lower, with fill above them.
func (b *Blaster) lower(x, y []int, fill int) []int {
	places := 0
	for ; 1<<places < len(x); places++ {
		by := 1 << places
		far := extended(x[by:], len(x), fill)
		x = b.chosen(y[places], far, x)
	}
	// A bit of y that is worth more than all the places leaves fill alone.
	return b.chosen(b.any(y[places:]), extended(nil, len(x), fill), x)
}

// constant is the w lowest bits of n.
func constant(w int, n uint64) []int {
	l := make([]int, w)
	for i := range l {
		l[i] = no
		if n>>i&1 == 1 {
			l[i] = yes
		}
	}
	return l
}

// nots is the not of each bit.
func nots(x []int) []int {
	l := make([]int, len(x))
	for i := range l {
		l[i] = -x[i]
	}
	return l
}

// extended is the bits of x, and above them fill, w bits in all.
func extended(x []int, w, fill int) []int {
	l := make([]int, w)
	for i := range l {
		l[i] = fill
	}
	copy(l, x)
	return l
}

// topChanged is x with the not of its highest bit.
func topChanged(x []int) []int {
	l := slices.Clone(x)
	l[len(l)-1] = -l[len(l)-1]
	return l
}

// top is the highest bit of x.
func top(x []int) int { return x[len(x)-1] }
