package rup

import (
	"slices"

	"augury/api"
)

// checker answers what Units answers, of clauses that come to be more. Of
// clause after clause of a proof it is asked anew, so that it holds on to what
// the clauses alone decide, and clears away no more than what was given and
// followed from that.
type checker struct {
	vars     int
	watching [][]*clause // by literals, from the least on: the clauses that watch it
	sure     literals    // what the clauses alone decide
	decided  literals    // what came besides
	came     []int       // the same, in order
	broken   bool        // the clauses alone can't hold
}

// clause is one with two literals or more, each once. The first two of them are
// watched: while neither's not comes, nothing follows from the clause.
type clause struct {
	literals []int
	at       int // the place where a literal to watch was last looked for
}

// literals is a set of them: a bit for each, from the least one on.
type literals []uint64

func (s literals) has(place int) bool { return s[place>>6]>>(place&63)&1 == 1 }

func (s literals) put(place int) { s[place>>6] |= 1 << (place & 63) }

// newChecker is one of clauses that may be.
func newChecker(c api.Cnf) *checker {
	places := 2*c.Vars + 1
	k := &checker{
		vars:     c.Vars,
		watching: make([][]*clause, places),
		sure:     make(literals, places>>6+1),
		decided:  make(literals, places>>6+1),
	}
	for _, l := range c.Clauses {
		k.add(l)
	}
	return k
}

// place is where the literal l stands among all.
func (k *checker) place(l int) int { return k.vars + l }

// holds tells whether the literal l is sure or came.
func (k *checker) holds(l int) bool {
	at := k.place(l)
	return k.sure.has(at) || k.decided.has(at)
}

// come lets the literal l come, whose not didn't.
func (k *checker) come(l int) {
	if !k.holds(l) {
		k.decided.put(k.place(l))
		k.came = append(k.came, l)
	}
}

// forget leaves nothing decided but what is sure.
func (k *checker) forget() {
	clear(k.decided)
	k.came = k.came[:0]
}

// add takes in a clause, while nothing is decided but what is sure.
func (k *checker) add(of []int) {
	left := slices.Compact(slices.Sorted(slices.Values(of)))
	left = slices.DeleteFunc(left, func(l int) bool { return k.holds(-l) })
	switch len(left) {
	case 0:
		k.broken = true
	case 1:
		k.decide(left[0])
	default:
		c := &clause{left, 1}
		k.watch(left[0], c)
		k.watch(left[1], c)
	}
}

// decide makes the literal l sure, and what follows from it.
func (k *checker) decide(l int) {
	k.come(l)
	k.broken = !k.follow()
	for _, came := range k.came {
		k.sure.put(k.place(came))
	}
	k.forget()
}

// watch has the clause c watch the literal l.
func (k *checker) watch(l int, c *clause) {
	at := k.place(l)
	k.watching[at] = append(k.watching[at], c)
}

// follow lets all come that follows, unless a clause has nothing left.
func (k *checker) follow() bool {
	for at := 0; at < len(k.came) && !k.broken; at++ {
		if !k.leave(-k.came[at]) {
			return false
		}
	}
	return !k.broken
}

// leave has the clauses that watch the literal l, whose not came, watch another
// one; where there is none, what else they watch comes, unless its not did: then
// there is nothing left. One whose other literal holds may stay as it is.
func (k *checker) leave(l int) bool {
	at := k.place(l)
	watching := k.watching[at]
	stay := watching[:0]
	for i, c := range watching {
		other := c.otherThan(l)
		if !k.holds(other) && k.moves(c) {
			continue
		}
		stay = append(stay, c)
		if k.holds(-other) {
			k.watching[at] = append(stay, watching[i+1:]...)
			return false
		}
		k.come(other)
	}
	k.watching[at] = stay
	return true
}

// otherThan puts the literal l, a watched one, into the second place, and is
// the one in the first.
func (c *clause) otherThan(l int) int {
	if c.literals[0] == l {
		c.literals[0], c.literals[1] = c.literals[1], l
	}
	return c.literals[0]
}

// moves has the clause c watch another literal than its second, if there is one
// whose not didn't come. It goes round from where it stood: from the first one
// on, a long clause would be gone through for each of its literals.
func (k *checker) moves(c *clause) bool {
	for range c.literals[2:] {
		c.at++
		if c.at == len(c.literals) {
			c.at = 2
		}
		l := c.literals[c.at]
		if !k.holds(-l) {
			c.literals[1], c.literals[c.at] = l, c.literals[1]
			k.watch(l, c)
			return true
		}
	}
	return false
}
