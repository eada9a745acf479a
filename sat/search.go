package sat

import (
	"augury/api"
	"augury/luby"
)

// The levels that no choice is on.
const (
	ground = 0 // what the clauses alone decide
	given  = 1 // what the assumptions do, all of them on one level
)

// run is how many conflicts there are till it begins anew, where luby says 1.
const run = 64

// lean says which of the variables come first that were raised alike: in one run
// the first of them, in the next one the last. Where clauses say what follows,
// step by step, of a few variables, these stand ahead of all others. To choose
// these alone, again and again, is the shortest way if they are few, and none if
// they are many: then something has to be learnt of the steps.
const lean = 1e-10

// search looks for a model in which the assumptions hold. Where a clause can't
// hold though nothing was chosen there is none; all else are conflicts.
func (s *Solver) search(assume []literal, budget int) api.Sat {
	if s.refuted {
		return api.SatNo
	}
	met, runs, left := 0, 0, 0
	for {
		broken := s.follow()
		switch {
		case broken != none && s.level() <= given:
			s.refuted = s.level() == ground
			return api.SatNo
		case broken != none:
			s.conflicts++
			s.learn(broken)
			met++
			left--
			if met > budget {
				return api.SatUnknown
			}
		case s.level() == ground:
			if !s.give(assume) {
				return api.SatNo
			}
		case left <= 0:
			runs++
			times, _ := luby.Luby(runs)
			left = run * times
			s.beginAnew()
		case !s.choose():
			return api.SatYes
		}
	}
}

// give lets the assumptions hold, unless one's not does.
func (s *Solver) give(assume []literal) bool {
	s.begin()
	for _, l := range assume {
		switch s.values[l] {
		case no:
			return false
		case open:
			s.come(l, none)
		}
	}
	return true
}

// beginAnew undoes all choices, and drops clauses if there are too many.
func (s *Solver) beginAnew() {
	s.undo(given)
	s.lean = -s.lean
	if len(s.learnt) > s.atMost {
		s.thin()
		s.atMost += moreAtMost
	}
}

// choose lets the open variable of the greatest score be what it was last,
// unless there is none.
func (s *Solver) choose() bool {
	for {
		v, e := s.order.Pop()
		if e != api.OK {
			return false
		}
		// Variables that there are not yet are in the heap too.
		if v <= s.vars && s.values[s.latest[v]] == open {
			s.begin()
			s.come(s.latest[v], none)
			return true
		}
	}
}
