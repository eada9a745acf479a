package sat

// literal is a literal as a place in a list: twice its variable, and 1 more, if
// it is its not.
type literal int32

// literalOf is the literal whose number is l.
func literalOf(l int) literal {
	if l < 0 {
		return literal(-2*l + 1)
	}
	return literal(2 * l)
}

// literals are those whose numbers these are.
func literals(numbers []int) []literal {
	l := make([]literal, len(numbers))
	for i, n := range numbers {
		l[i] = literalOf(n)
	}
	return l
}

// not is the literal that holds where l doesn't.
func (l literal) not() literal { return l ^ 1 }

// variable is the one that l is about.
func (l literal) variable() int { return int(l >> 1) }

// number is l's.
func (l literal) number() int32 {
	if l&1 == 1 {
		return -int32(l >> 1)
	}
	return int32(l >> 1)
}
