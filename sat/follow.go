package sat

// What a literal is.
const (
	no   = -1
	open = 0
	yes  = 1
)

// level is the newest one: on level 0 stands what the clauses alone decide, on
// level 1 what does with the assumptions, on each above it what does with one
// choice more.
func (s *Solver) level() int { return len(s.begun) }

// begin opens a level.
func (s *Solver) begin() { s.begun = append(s.begun, len(s.came)) }

// come lets a literal hold that is open; the reason is the clause of which it
// follows, or none.
func (s *Solver) come(l literal, reason int32) {
	s.values[l], s.values[l.not()] = yes, no
	v := l.variable()
	s.levels[v] = int32(s.level())
	s.reasons[v] = reason
	s.came = append(s.came, l)
}

// undo takes back what came on the levels above this one.
func (s *Solver) undo(level int) {
	if level >= s.level() {
		return
	}
	stay := s.begun[level]
	for at := len(s.came) - 1; at >= stay; at-- {
		l := s.came[at]
		s.values[l], s.values[l.not()] = open, open
		s.latest[l.variable()] = l
		s.order.Put(l.variable())
	}
	s.came = s.came[:stay]
	s.begun = s.begun[:level]
	s.next = stay
}

// decided is which variables are yes.
func (s *Solver) decided() []bool {
	m := make([]bool, s.vars+1)
	for _, l := range s.came {
		m[l.variable()] = l.number() > 0
	}
	return m
}

// follow lets all come that follows. It answers where a clause is that can't
// hold, if one is met.
func (s *Solver) follow() int32 {
	for s.next < len(s.came) {
		l := s.came[s.next].not()
		s.next++
		if broken := s.leave(l); broken != none {
			return broken
		}
	}
	return none
}

// leave has the clauses that watch the literal l, whose not came, watch another
// one; where there is none, what else they watch comes, unless its not did.
func (s *Solver) leave(l literal) int32 {
	list := s.watching[l]
	stay := list[:0]
	for i, w := range list {
		if s.values[w.other] == yes {
			stay = append(stay, w)
			continue
		}
		c := &s.clauses[w.at]
		w.other = c.otherThan(l)
		value := s.values[w.other]
		if value != yes {
			if to := s.another(c); to != 0 {
				s.watching[to] = append(s.watching[to], w)
				continue
			}
		}
		stay = append(stay, w)
		switch value {
		case no:
			s.watching[l] = append(stay, list[i+1:]...)
			return w.at
		case open:
			s.come(w.other, w.at)
		}
	}
	s.watching[l] = stay
	return none
}

// otherThan puts the literal l, a watched one, into the second place, and is
// the one in the first.
func (c *clause) otherThan(l literal) literal {
	if c.literals[0] == l {
		c.literals[0], c.literals[1] = c.literals[1], l
	}
	return c.literals[0]
}

// another puts a literal whose not didn't come into the second place, if there
// is one (0, if not). It goes round from where it stood: from the first one on,
// a long clause would be gone through for each of its literals.
func (s *Solver) another(c *clause) literal {
	at := int(c.at)
	for range c.literals[2:] {
		at++
		if at == len(c.literals) {
			at = 2
		}
		if l := c.literals[at]; s.values[l] != no {
			c.literals[1], c.literals[at] = l, c.literals[1]
			c.at = int32(at)
			return l
		}
	}
	return 0
}
