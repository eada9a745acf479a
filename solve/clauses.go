package solve

import (
	"augury/api"
	"augury/blast"
	"augury/sat"
	"augury/term"
)

// clauses are those of some terms, and a solver that has them.
type clauses struct {
	store   *term.Store
	blaster *blast.Blaster
	sat     *sat.Solver
	terms   []int            // in the order in which they came
	has     map[int]struct{} // them, too
	given   int              // how many clauses the solver has
}

// newClauses are those of no terms.
func newClauses(s *term.Store) *clauses {
	b, _ := blast.New(s)
	return &clauses{store: s, blaster: b, sat: sat.New(), has: map[int]struct{}{}}
}

// isWithin tells whether all the terms are among these nodes.
func (c *clauses) isWithin(nodes []bool) bool {
	for _, id := range c.terms {
		if id >= len(nodes) || !nodes[id] {
			return false
		}
	}
	return true
}

// take has the clauses of a question's terms come, too, and is a literal for
// each term, which holds where that is true. If there would be too many clauses,
// none come.
func (c *clauses) take(question []int) ([]int, api.Errno) {
	var l, fresh []int
	for _, id := range question {
		id, sign := c.withoutNot(id)
		bits, e := c.blaster.Bits(id)
		if e != api.OK {
			c.mend()
			return nil, e
		}
		l = append(l, sign*bits[0])
		if _, ok := c.has[id]; !ok {
			fresh = append(fresh, id)
		}
	}
	for _, id := range fresh {
		c.has[id] = struct{}{}
	}
	c.terms = append(c.terms, fresh...)
	c.give()
	return l, api.OK
}

// withoutNot is the kid of a Not, and -1; another term itself, and 1. So the
// clauses of a term are its Not's too: often one is asked behind the other.
func (c *clauses) withoutNot(id int) (inner, sign int) {
	n, _ := c.store.Node(id)
	if n.Op == api.Not {
		return n.Kids[0], -1
	}
	return id, 1
}

// mend makes the blaster anew, which is of no use behind an error. Of the same
// terms, in the same order, it has the same clauses.
func (c *clauses) mend() {
	c.blaster, _ = blast.New(c.store)
	for _, id := range c.terms {
		c.blaster.Bits(id)
	}
}

// give gives the solver the clauses that it doesn't have yet.
func (c *clauses) give() {
	all := c.blaster.Cnf()
	c.sat.Vars(all.Vars)
	for _, clause := range all.Clauses[c.given:] {
		c.sat.Add(clause)
	}
	c.given = len(all.Clauses)
}

// solve answers whether all these literals can hold.
func (c *clauses) solve(assume []int, budget int) answer {
	is, _ := c.sat.Solve(assume, budget)
	if is != api.SatYes {
		return answer{sat: is}
	}
	return answer{is, c.blaster.Model(c.sat.Model())}
}
