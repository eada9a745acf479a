package sat

import (
	"slices"

	"augury/luby"
)

// deepest is how many reasons behind each other are gone into to find out
// whether a literal is needed.
const deepest = 500

// mark is what is known of a variable while a clause is learnt.
type mark uint8

const (
	unknown  mark = iota
	met           // it led to the conflict
	needless      // what it is follows from the clause's other literals
	needed        // that is not found
)

// learn learns a clause from the broken one, which can't hold with what was
// chosen, and undoes so much that one literal of it follows.
func (s *Solver) learn(broken int32) {
	l := s.shorter(s.analyse(broken))
	s.unmark()
	for _, one := range l {
		s.proof = append(s.proof, one.number())
	}
	s.proof = append(s.proof, 0)
	s.raise()
	if len(l) == 1 {
		s.undo(ground)
		s.come(l[0], none)
		return
	}
	spread := s.spread(l)
	s.undo(s.newestSecond(l))
	at := s.store(clause{literals: slices.Clone(l), at: 1, spread: spread, used: true})
	s.learnt = append(s.learnt, at)
	s.come(l[0], at)
}

// raise has scores raised by more from now on, so that newer conflicts tell
// more; when that is too great it makes them all smaller.
func (s *Solver) raise() {
	const more, great = 1 / 0.95, 1e100
	s.by *= more
	if s.by > great {
		s.order.Scale(1 / great)
		s.by /= great
	}
}

// analyse is a clause that can't hold either, with just one literal of the
// newest level, which stands first, and none of level 0. From the broken clause
// on, it goes back through the reasons of what came on the newest level, till
// one literal is left on which all others of that level hang.
func (s *Solver) analyse(broken int32) []literal {
	l := []literal{0}
	left, at, reason := 0, len(s.came), broken
	for {
		for _, one := range s.literalsOf(reason) {
			v := one.variable()
			if s.marks[v] != unknown || s.levels[v] == ground {
				continue
			}
			s.mark(v, met)
			s.order.Bump(v, s.by*(1+s.lean*float64(v)))
			if int(s.levels[v]) == s.level() {
				left++
			} else {
				l = append(l, one)
			}
		}
		at--
		for s.marks[s.came[at].variable()] == unknown {
			at--
		}
		left--
		if left == 0 {
			l[0] = s.came[at].not()
			return l
		}
		reason = s.reasons[s.came[at].variable()]
	}
}

// literalsOf is those of a clause that leads to a conflict.
func (s *Solver) literalsOf(at int32) []literal {
	c := &s.clauses[at]
	c.used = true
	return c.literals
}

// mark marks a variable that has no mark.
func (s *Solver) mark(v int, m mark) {
	s.marks[v] = m
	s.marked = append(s.marked, v)
}

// unmark takes all marks away.
func (s *Solver) unmark() {
	for _, v := range s.marked {
		s.marks[v] = unknown
	}
	s.marked = s.marked[:0]
}

// shorter is the clause l without the literals that need not stand in it: where
// all others can't hold, these can't either.
func (s *Solver) shorter(l []literal) []literal {
	for len(s.touches) <= s.level() {
		s.touches = append(s.touches, false)
	}
	for _, one := range l[1:] {
		s.touches[s.levels[one.variable()]] = true
	}
	all := l[1:]
	stay := l[:1:1]
	for _, one := range all {
		if !s.hangsOnOthers(one.variable(), 0) {
			stay = append(stay, one)
		}
	}
	for _, one := range all {
		s.touches[s.levels[one.variable()]] = false
	}
	return stay
}

// hangsOnOthers tells whether the variable followed of others that hang on the
// clause's alone.
func (s *Solver) hangsOnOthers(v, depth int) bool {
	reason := s.reasons[v]
	if reason == none || depth > deepest {
		return false
	}
	for _, one := range s.clauses[reason].literals[1:] {
		if !s.isCovered(one.variable(), depth) {
			return false
		}
	}
	return true
}

// isCovered tells whether what the variable is follows from the clause's
// literals.
func (s *Solver) isCovered(v, depth int) bool {
	level := s.levels[v]
	if level == ground || s.marks[v] != unknown {
		return level == ground || s.marks[v] != needed
	}
	if s.touches[level] && s.hangsOnOthers(v, depth+1) {
		s.mark(v, needless)
		return true
	}
	s.mark(v, needed)
	return false
}

// spread is of how many levels the literals of l are.
func (s *Solver) spread(l []literal) int32 {
	levels := make([]int, len(l))
	for i, one := range l {
		levels[i] = int(s.levels[one.variable()])
	}
	return int32(luby.Levels(levels))
}

// newestSecond puts the literal of the newest level behind the first one, and
// is that level.
func (s *Solver) newestSecond(l []literal) int {
	newest := 1
	for at := range l[1:] {
		if s.levels[l[at+1].variable()] > s.levels[l[newest].variable()] {
			newest = at + 1
		}
	}
	l[1], l[newest] = l[newest], l[1]
	return int(s.levels[l[1].variable()])
}
