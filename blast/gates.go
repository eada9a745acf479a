package blast

import "slices"

// The literals that are so, and not so, in each model.
const (
	yes = 1
	no  = -yes
)

// The kinds of gates, by which they are told apart in the map of them.
const (
	andGate = iota
	xorGate
	iteGate
	sumGate
	carryGate
)

// gate is the literal of a gate with these inputs, and whether it is a new one,
// whose clauses have still to come.
func (b *Blaster) gate(kind, x, y, z int) (out int, isNew bool) {
	key := [4]int{kind, x, y, z}
	out, ok := b.gates[key]
	if !ok {
		out = b.fresh()
		b.gates[key] = out
	}
	return out, !ok
}

// and is so, if both are.
func (b *Blaster) and(x, y int) int {
	x, y = min(x, y), max(x, y)
	switch {
	case x == no || y == no || x == -y:
		return no
	case x == yes:
		return y
	case y == yes || x == y:
		return x
	}
	out, isNew := b.gate(andGate, x, y, 0)
	if isNew {
		b.clause(-out, x)
		b.clause(-out, y)
		b.clause(out, -x, -y)
	}
	return out
}

// or is so, if one of them is.
func (b *Blaster) or(x, y int) int { return -b.and(-x, -y) }

// xor is so, if just one of them is.
func (b *Blaster) xor(x, y int) int {
	sign := signOf(x) * signOf(y)
	x, y = min(variable(x), variable(y)), max(variable(x), variable(y))
	switch {
	case x == y:
		return sign * no
	case x == yes:
		return -sign * y
	}
	out, isNew := b.gate(xorGate, x, y, 0)
	if isNew {
		b.clause(-out, x, y)
		b.clause(-out, -x, -y)
		b.clause(out, -x, y)
		b.clause(out, x, -y)
	}
	return sign * out
}

// ite is x, if c is so, else y.
func (b *Blaster) ite(c, x, y int) int {
	if c < 0 {
		c, x, y = -c, y, x
	}
	switch {
	case c == yes || x == y:
		return x
	case x == -y:
		return -b.xor(c, x)
	case x == yes || x == c:
		return b.or(c, y)
	case x == no || x == -c:
		return b.and(-c, y)
	case y == yes || y == -c:
		return b.or(-c, x)
	case y == no || y == c:
		return b.and(c, x)
	}
	sign := signOf(x)
	x, y = sign*x, sign*y
	out, isNew := b.gate(iteGate, c, x, y)
	if isNew {
		b.clause(-c, -x, out)
		b.clause(-c, x, -out)
		b.clause(c, -y, out)
		b.clause(c, y, -out)
		// These follow of those, but Units sees it by them alone, as long as c
		// is not decided.
		b.clause(-x, -y, out)
		b.clause(x, y, -out)
	}
	return sign * out
}

// sum is so, if one of them or all three are: the lower bit of their sum.
func (b *Blaster) sum(x, y, z int) int {
	sign := signOf(x) * signOf(y) * signOf(z)
	x, y, z = ordered(variable(x), variable(y), variable(z))
	switch {
	case x == y:
		return sign * z
	case y == z:
		return sign * x
	case x == yes:
		return -sign * b.xor(y, z)
	}
	out, isNew := b.gate(sumGate, x, y, z)
	if isNew {
		b.clause(out, -x, -y, -z)
		b.clause(out, -x, y, z)
		b.clause(out, x, -y, z)
		b.clause(out, x, y, -z)
		b.clause(-out, x, y, z)
		b.clause(-out, x, -y, -z)
		b.clause(-out, -x, y, -z)
		b.clause(-out, -x, -y, z)
	}
	return sign * out
}

// carry is so, if two of them are, or all three: the higher bit of their sum.
func (b *Blaster) carry(x, y, z int) int {
	x, y, z = ordered(x, y, z)
	switch {
	case x == y || y == -z:
		return x
	case x == -y:
		return z
	case y == z:
		return y
	case x == yes:
		return b.or(y, z)
	case x == no:
		return b.and(y, z)
	}
	// Of the nots of all inputs it is the not.
	sign := signOf(x)
	x, y, z = sign*x, sign*y, sign*z
	out, isNew := b.gate(carryGate, x, y, z)
	if isNew {
		b.clause(out, -x, -y)
		b.clause(out, -x, -z)
		b.clause(out, -y, -z)
		b.clause(-out, x, y)
		b.clause(-out, x, z)
		b.clause(-out, y, z)
	}
	return sign * out
}

// ordered is three literals by their variables, so that the order of a gate's
// inputs doesn't make it another one.
func ordered(x, y, z int) (int, int, int) {
	l := [3]int{x, y, z}
	slices.SortFunc(l[:], func(x, y int) int { return variable(x) - variable(y) })
	return l[0], l[1], l[2]
}

// variable is the one that the literal l is about.
func variable(l int) int { return max(l, -l) }

// signOf is 1 of a variable, -1 of the not of one.
func signOf(l int) int {
	if l < 0 {
		return -1
	}
	return 1
}
