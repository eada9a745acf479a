package sat

// Clauses are dropped when thousands were learnt. These tests have that happen
// all the time, so that it happens in all states that there may be.

import (
	"math"
	"math/rand"
	"slices"
	"testing"

	"augury/api"
	"augury/cnf"
	"augury/rup"
)

// distinct is so many literals of different variables.
func distinct(r *rand.Rand, vars, count int) []int {
	var l []int
	for _, v := range r.Perm(vars)[:count] {
		l = append(l, (v+1)*(1-2*r.Intn(2)))
	}
	return l
}

// drawnSolver is one of so many drawn clauses of three variables each.
func drawnSolver(r *rand.Rand, vars, count int) (*Solver, api.Cnf) {
	s, c := New(), api.Cnf{Vars: vars}
	s.Vars(vars)
	for range count {
		l := distinct(r, vars, 3)
		s.Add(l)
		c.Clauses = append(c.Clauses, l)
	}
	return s, c
}

// units is a clause of each literal alone.
func units(l []int) [][]int {
	var clauses [][]int
	for _, one := range l {
		clauses = append(clauses, []int{one})
	}
	return clauses
}

// TestDropped: whichever of the learnt clauses are dropped, and whenever, what
// is answered is right, and all that is learnt follows.
func TestDropped(t *testing.T) {
	r := rand.New(rand.NewSource(138))
	seen := map[api.Sat]int{}
	for range 30 {
		vars := 60 + r.Intn(60)
		s, c := drawnSolver(r, vars, vars*41/10)
		dropped := 0
		for range 60 {
			s.atMost = 0
			assume := distinct(r, vars, r.Intn(vars/5))
			before := len(s.learnt)
			answer, e := s.Solve(assume, 10+r.Intn(200))
			with := api.Cnf{Vars: vars, Clauses: slices.Concat(c.Clauses, units(assume))}
			if e != api.OK || answer == api.SatYes && !cnf.Holds(with, s.Model()) {
				t.Fatalf("Solve(%d) of %v = %d, %d, in %t", assume, c, answer, e, s.Model())
			}
			if answer == api.SatNo && rup.Check(c, assume, s.Proof()) != api.OK {
				t.Fatalf("Solve(%d) of %v: %d does not refute", assume, c, s.Proof())
			}
			seen[answer]++
			dropped += max(0, before-len(s.learnt))
		}
		if rup.Check(c, []int{1, -1}, s.Proof()) != api.OK {
			t.Fatalf("of %v, %d does not follow", c, s.Proof())
		}
		if dropped == 0 {
			t.Error("nothing was dropped")
		}
		checkWatches(t, s)
	}
	if seen[api.SatYes] < 50 || seen[api.SatNo] < 50 || seen[api.SatUnknown] < 50 {
		t.Errorf("answers %v", seen)
	}
}

// checkWatches reports a clause that is not watched just by its first two
// literals, or a place without a clause that is not free for another one.
func checkWatches(t *testing.T, s *Solver) {
	t.Helper()
	seen := map[int32][]literal{}
	for l, list := range s.watching {
		for _, w := range list {
			seen[w.at] = append(seen[w.at], literal(l))
		}
	}
	for at, c := range s.clauses {
		at := int32(at)
		if len(c.literals) == 0 {
			if len(seen[at]) > 0 || !slices.Contains(s.unused, at) || slices.Contains(s.learnt, at) {
				t.Errorf("dropped, but watched: %d", seen[at])
			}
			continue
		}
		if want := slices.Sorted(slices.Values(c.literals[:2])); !slices.Equal(slices.Sorted(slices.Values(seen[at])), want) {
			t.Errorf("%d is watched by %d", c.literals, seen[at])
		}
		if (c.spread > 0) != slices.Contains(s.learnt, at) {
			t.Errorf("learnt from %d levels: %t", c.spread, slices.Contains(s.learnt, at))
		}
	}
}

// TestThin: those in use, those from few levels and those of which something
// follows stay; of the others half go, those from the most levels first, and
// the longest of these.
func TestThin(t *testing.T) {
	s := New()
	s.Vars(9)
	learn := func(used bool, spread int32, l ...int) int32 {
		at := s.store(clause{literals: literals(l), at: 1, spread: spread, used: used})
		s.learnt = append(s.learnt, at)
		return at
	}
	given := s.store(clause{literals: literals([]int{1, 2, 3}), at: 1})
	used := learn(true, 9, 1, 2, 4, 5)
	few := learn(false, fewLevels, 1, 2, 5)
	reason := learn(false, 9, 9, 8, 7)
	first := learn(false, 4, 1, 2, 6)
	second := learn(false, 3, 1, 2, 7, 8)
	third := learn(false, 3, 1, 2, 7)
	fourth := learn(false, 3, 2, 3, 7)
	s.begin()
	s.come(literalOf(-8), none)
	s.come(literalOf(-7), none)
	s.come(literalOf(9), reason)
	s.thin()
	if !slices.Equal(s.learnt, []int32{used, few, reason, third, fourth}) || !slices.Equal(s.unused, []int32{first, second}) {
		t.Errorf("stayed %d, dropped %d", s.learnt, s.unused)
	}
	if s.isDropped(given) || s.clauses[used].used {
		t.Error("a clause that was given is dropped, or what was used stays so")
	}
	checkWatches(t, s)
	// Where one was, the next one comes.
	if at := learn(true, 5, 4, 5, 6); at != second {
		t.Errorf("stored at %d, not %d", at, second)
	}
	checkWatches(t, s)
	s.undo(ground)
	s.thin()
	if slices.Contains(s.learnt, used) || !slices.Contains(s.learnt, few) {
		t.Errorf("stayed %d", s.learnt)
	}
}

// TestScores: they are made smaller long before one is an infinity.
func TestScores(t *testing.T) {
	r := rand.New(rand.NewSource(139))
	s, _ := drawnSolver(r, 150, 645)
	s.by = 1e99
	for range 200 {
		if answer, _ := s.Solve(distinct(r, 150, 3), 100); answer == api.NoAnswer {
			t.Fatal("no answer")
		}
		for v := 1; v <= 150; v++ {
			if score := s.order.Score(v); math.IsInf(score, 0) || math.IsNaN(score) || score > 1e110 {
				t.Fatalf("a score of %g", score)
			}
		}
	}
	if s.by > 1e100 || s.conflicts < 1000 {
		t.Errorf("raised by %g, behind %d conflicts", s.by, s.conflicts)
	}
}
