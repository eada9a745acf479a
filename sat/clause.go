package sat

import (
	"cmp"
	"slices"
)

// none is where no clause is.
const none = -1

// How many learnt clauses there may be till some are dropped: at first, and how
// many more each time. Those of at most fewLevels levels stay.
const (
	firstAtMost = 3000
	moreAtMost  = 600
	fewLevels   = 2
)

// clause is one with two literals or more, each once and none with its not. The
// first two of them are watched: while neither's not comes, nothing follows
// from the clause. One that was dropped has no literals.
type clause struct {
	literals []literal
	at       int32 // the place where a literal to watch was last looked for
	spread   int32 // of one that was learnt: from how many levels it came
	used     bool  // it led to a conflict since some were last dropped
}

// watch is where a clause is that watches a literal, and one of its others:
// while that holds, the clause need not be looked at.
type watch struct {
	at    int32
	other literal
}

// take takes in a clause, while nothing is decided but what the clauses alone
// decide.
func (s *Solver) take(l []literal) {
	slices.Sort(l)
	l = slices.Compact(l)
	for i, one := range l {
		// Of those in order, a literal stands next to its not.
		if s.values[one] == yes || i > 0 && l[i-1] == one.not() {
			return
		}
	}
	l = slices.DeleteFunc(l, func(one literal) bool { return s.values[one] == no })
	switch len(l) {
	case 0:
		s.refuted = true
	case 1:
		s.come(l[0], none)
	default:
		s.store(clause{literals: l, at: 1})
	}
}

// store keeps a clause and has it watch its first two literals; it answers
// where the clause is.
func (s *Solver) store(c clause) int32 {
	at := int32(len(s.clauses))
	if last := len(s.unused) - 1; last >= 0 {
		at = s.unused[last]
		s.unused = s.unused[:last]
		s.clauses[at] = c
	} else {
		s.clauses = append(s.clauses, c)
	}
	first, second := c.literals[0], c.literals[1]
	s.watching[first] = append(s.watching[first], watch{at, second})
	s.watching[second] = append(s.watching[second], watch{at, first})
	return at
}

// thin drops half of the learnt clauses that are not of use: those from the
// most levels, and the longest of these.
func (s *Solver) thin() {
	var idle []int32
	for _, at := range s.learnt {
		c := &s.clauses[at]
		if c.spread > fewLevels && !c.used && !s.isReason(at) {
			idle = append(idle, at)
		}
		c.used = false
	}
	slices.SortStableFunc(idle, func(a, b int32) int {
		c, d := &s.clauses[a], &s.clauses[b]
		return cmp.Or(cmp.Compare(d.spread, c.spread), cmp.Compare(len(d.literals), len(c.literals)))
	})
	for _, at := range idle[:len(idle)/2] {
		s.clauses[at] = clause{}
		s.unused = append(s.unused, at)
	}
	s.learnt = slices.DeleteFunc(s.learnt, s.isDropped)
	for l, list := range s.watching {
		s.watching[l] = slices.DeleteFunc(list, func(w watch) bool { return s.isDropped(w.at) })
	}
}

// isDropped tells whether there is no clause any more.
func (s *Solver) isDropped(at int32) bool { return s.clauses[at].literals == nil }

// isReason tells whether what is decided followed of this clause: it stands
// first in it then.
func (s *Solver) isReason(at int32) bool {
	first := s.clauses[at].literals[0]
	return s.values[first] == yes && s.reasons[first.variable()] == at
}
