package sat_test

import (
	"slices"
	"testing"

	"augury/api"
	"augury/sat"
)

func TestExamples(t *testing.T) {
	k := made(t, of(2, []int{1, 2}, []int{-1}))
	if answer := k.ask(nil, 100); answer != api.SatYes || !k.s.Model()[2] || k.s.Model()[1] {
		t.Errorf("Solve = %d, in %t", answer, k.s.Model())
	}
	if answer := k.ask([]int{-2}, 100); answer != api.SatNo {
		t.Errorf("Solve(-2) = %d", answer)
	}
	if answer := k.ask(nil, 100); answer != api.SatYes {
		t.Errorf("Solve = %d", answer)
	}
	k.add([]int{-2})
	if answer := k.ask(nil, 100); answer != api.SatNo {
		t.Errorf("Solve with -2 = %d", answer)
	}
}

// TestNone: of none, and of a zero Solver, ErrNil goes ahead of all else.
func TestNone(t *testing.T) {
	for _, s := range []*sat.Solver{nil, {}} {
		for _, n := range []int{0, -1, 5, mostVars + 1, leastInt, greatestInt} {
			if e := s.Vars(n); e != api.ErrNil {
				t.Errorf("Vars(%d) = %d", n, e)
			}
			for _, l := range [][]int{nil, {1}, {0}, {n}} {
				if e := s.Add(l); e != api.ErrNil {
					t.Errorf("Add(%d) = %d", l, e)
				}
				if answer, e := s.Solve(l, n); answer != api.NoAnswer || e != api.ErrNil {
					t.Errorf("Solve(%d, %d) = %d, %d", l, n, answer, e)
				}
			}
		}
		if m, p, met := s.Model(), s.Proof(), s.Conflicts(); len(m) > 0 || len(p) > 0 || met != 0 {
			t.Errorf("Model, Proof, Conflicts = %t, %d, %d", m, p, met)
		}
	}
}

// TestNew: ahead of any call there is nothing, and all holds.
func TestNew(t *testing.T) {
	s := sat.New()
	if m, p, met := s.Model(), s.Proof(), s.Conflicts(); len(m) > 0 || len(p) > 0 || met != 0 {
		t.Errorf("Model, Proof, Conflicts = %t, %d, %d", m, p, met)
	}
	k := made(t, of(0))
	if answer := k.ask(nil, 0); answer != api.SatYes || len(k.s.Model()) != 1 || k.met != 0 {
		t.Errorf("Solve without variables = %d, %t", answer, k.s.Model())
	}
	for _, l := range []int{0, 1, -1, leastInt, greatestInt} {
		if e := k.s.Add([]int{l}); e != api.ErrArg {
			t.Errorf("Add(%d) = %d", l, e)
		}
		if answer, e := k.s.Solve([]int{l}, 0); answer != api.NoAnswer || e != api.ErrArg {
			t.Errorf("Solve(%d) = %d, %d", l, answer, e)
		}
	}
	k.add([]int{})
	k.want(api.SatNo)
}

func TestVars(t *testing.T) {
	k := made(t, of(3))
	for _, n := range []int{2, 0, -1, -3, mostVars + 1, greatestInt, leastInt, leastInt + 3, 1<<32 + 3} {
		if e := k.s.Vars(n); e != api.ErrArg {
			t.Errorf("Vars(%d) = %d, where there are 3", n, e)
		}
	}
	// None of these has changed how many there are.
	k.add([]int{3, -3})
	if e := k.s.Add([]int{4}); e != api.ErrArg {
		t.Errorf("Add(4) = %d", e)
	}
	for _, n := range []int{3, 3, 4, 4, 9, 10, 1000} {
		k.vars(n)
		k.add([]int{-n, 1, n - 1})
		k.want(api.SatYes, n, -1)
		if e := k.s.Add([]int{n + 1}); e != api.ErrArg {
			t.Errorf("Add(%d) = %d", n+1, e)
		}
		if e := k.s.Vars(n - 1); e != api.ErrArg {
			t.Errorf("Vars(%d) = %d, where there are %d", n-1, e, n)
		}
	}
}

func TestMostVars(t *testing.T) {
	k := made(t, of(mostVars, []int{mostVars, 1}, []int{-mostVars, 2}))
	k.want(api.SatYes, -1)
	if m := k.s.Model(); !m[mostVars] || !m[2] || m[1] {
		t.Error("Model of all variables")
	}
	k.want(api.SatNo, -2, -1)
	for _, n := range []int{mostVars - 1, mostVars + 1, greatestInt, 0} {
		if e := k.s.Vars(n); e != api.ErrArg {
			t.Errorf("Vars(%d) = %d", n, e)
		}
	}
	k.vars(mostVars)
	for _, l := range []int{mostVars + 1, -mostVars - 1} {
		if e := k.s.Add([]int{l}); e != api.ErrArg {
			t.Errorf("Add(%d) = %d", l, e)
		}
	}
	k.want(api.SatYes, mostVars)
}

// TestVarsOneByOne: so many calls take time with how many variables come.
func TestVarsOneByOne(t *testing.T) {
	s := sat.New()
	for n := range mostVars + 1 {
		if e := s.Vars(n); e != api.OK {
			t.Fatalf("Vars(%d) = %d", n, e)
		}
	}
	if answer, e := s.Solve([]int{-mostVars}, 0); answer != api.SatYes || e != api.OK || len(s.Model()) != mostVars+1 {
		t.Errorf("Solve = %d, %d", answer, e)
	}
}

// TestAddNone: a clause with a literal that is none is refused, whatever else
// stands in it, and changes nothing.
func TestAddNone(t *testing.T) {
	for _, n := range []int{0, 3, -3, leastInt, leastInt + 1, greatestInt, 1<<32 + 1, -1<<32 - 1, 1<<31 + 1, mostVars} {
		k := made(t, of(2, []int{1, 2}, []int{-1, 2}))
		for _, l := range [][]int{{n}, {n, 1}, {-2, n}, {1, -1, n}, {2, n, -2, 1}, {n, n}} {
			if e := k.s.Add(l); e != api.ErrArg {
				t.Errorf("Add(%d) = %d", l, e)
			}
		}
		k.want(api.SatYes)
		if e := k.s.Add([]int{-2, n}); e != api.ErrArg {
			t.Errorf("Add(-2, %d) = %d", n, e)
		}
		if !k.s.Model()[2] {
			t.Errorf("behind Add(-2, %d): %t", n, k.s.Model())
		}
		k.want(api.SatYes, 1)
		k.want(api.SatYes, -1)
		k.want(api.SatNo, -2)
	}
}

func TestAdd(t *testing.T) {
	for _, a := range []struct {
		clauses [][]int
		want    api.Sat
	}{
		{nil, api.SatYes},
		// The empty clause, alone, first, last, twice.
		{[][]int{{}}, api.SatNo},
		{[][]int{nil}, api.SatNo},
		{[][]int{{}, {1, 2}}, api.SatNo},
		{[][]int{{1, 2}, {3}, {}}, api.SatNo},
		{[][]int{{}, {}, {1}, {-1}}, api.SatNo},
		// One literal.
		{[][]int{{1}}, api.SatYes},
		{[][]int{{-3}}, api.SatYes},
		{[][]int{{1}, {1}}, api.SatYes},
		{[][]int{{1}, {-1}}, api.SatNo},
		{[][]int{{-1}, {1}, {2}}, api.SatNo},
		{[][]int{{1}, {-1, 2}, {-2, 3}}, api.SatYes},
		{[][]int{{1}, {-1, 2}, {-2, 3}, {-3}}, api.SatNo},
		{[][]int{{-2, 3}, {-1, 2}, {1}, {-3, -1}}, api.SatNo},
		{[][]int{{-3}, {1, 2, 3}, {-1}, {-2}}, api.SatNo},
		{[][]int{{1}, {1, 2}, {-1, 3}, {-3, -2}}, api.SatYes},
		// A literal twice.
		{[][]int{{2, 2}}, api.SatYes},
		{[][]int{{2, 2}, {-2, -2, -2}}, api.SatNo},
		{[][]int{{1, 2, 1}, {-1, -1}, {3, -2, 3, -2}, {-3}}, api.SatNo},
		{[][]int{{1, 2, 1}, {-1, -1}, {3, -2, 3, -2}}, api.SatYes},
		{[][]int{{1, 1, 2, 2}, {1, 1, -2}, {-1, 2, -1}, {-1, -2, -2, -1}}, api.SatNo},
		// A literal and its not: it holds, whatever else is so.
		{[][]int{{1, -1}}, api.SatYes},
		{[][]int{{1, -1}, {-1}}, api.SatYes},
		{[][]int{{-1, 1}, {1}, {2, -1, -2}}, api.SatYes},
		{[][]int{{1, 2, -1}, {-2}, {1, 2}}, api.SatYes},
		{[][]int{{1, 2, -1}, {-2}, {1, 2}, {-1, 2}}, api.SatNo},
		{[][]int{{3, -3, 3, -3}, {3}, {-3, 3}}, api.SatYes},
		// Only a choice leads to it.
		{pairs().Clauses, api.SatNo},
		{pairs().Clauses[1:], api.SatYes},
		{pairs().Clauses[:3], api.SatYes},
	} {
		k := made(t, of(3, a.clauses...))
		k.want(a.want)
		k.want(a.want)
		if want := hasModel(k.c, nil); want != (a.want == api.SatYes) {
			t.Errorf("said: of %d there is a model: %t", a.clauses, want)
		}
	}
}

// TestSolveRefuses: an assumption that is none, or a budget below 0; nothing is
// changed by it.
func TestSolveRefuses(t *testing.T) {
	k := made(t, birds(4))
	k.ask(nil, 1)
	refuse := func(assume []int, budget int) {
		t.Helper()
		if answer, e := k.s.Solve(assume, budget); answer != api.NoAnswer || e != api.ErrArg {
			t.Errorf("Solve(%d, %d) = %d, %d", assume, budget, answer, e)
		}
	}
	for _, n := range []int{0, 13, -13, leastInt, leastInt + 1, greatestInt, 1<<32 + 1, -1<<32 - 1, mostVars} {
		for _, budget := range []int{0, 1, -1, leastInt, greatestInt} {
			refuse([]int{n}, budget)
			refuse([]int{n, 1}, budget)
			refuse([]int{1, -1, n}, budget)
		}
	}
	for _, budget := range []int{-1, -2, leastInt, leastInt + 1} {
		refuse(nil, budget)
		refuse([]int{}, budget)
		refuse([]int{1}, budget)
		refuse([]int{1, -1}, budget)
	}
	if len(k.s.Proof()) != len(k.proof) || k.s.Conflicts() != k.met {
		t.Errorf("Proof = %d, Conflicts = %d: want %d, %d", k.s.Proof(), k.s.Conflicts(), k.proof, k.met)
	}
	k.want(api.SatNo)
	k = made(t, of(2, []int{}))
	refuse([]int{3}, 0)
	refuse(nil, -1)
	k = made(t, of(2, []int{1, 2}))
	k.want(api.SatYes, -1)
	m := k.s.Model()
	refuse([]int{-2, 3}, 0)
	refuse([]int{-2}, -1)
	if !slices.Equal(k.s.Model(), m) {
		t.Errorf("Model behind refusals = %t: want %t", k.s.Model(), m)
	}
}

func TestAssumptions(t *testing.T) {
	for _, a := range []struct {
		clauses [][]int
		assume  []int
		want    api.Sat
	}{
		{nil, []int{}, api.SatYes},
		{nil, []int{1, -2, 3}, api.SatYes},
		// Against each other.
		{nil, []int{1, -1}, api.SatNo},
		{nil, []int{-1, 1}, api.SatNo},
		{nil, []int{2, 3, -1, -3}, api.SatNo},
		// One twice.
		{nil, []int{1, 1}, api.SatYes},
		{nil, []int{-2, 1, -2, 1, -2}, api.SatYes},
		{[][]int{{1, 2}}, []int{-1, -1}, api.SatYes},
		{[][]int{{1, 2}}, []int{-1, -1, -2, -2}, api.SatNo},
		// Against a clause: alone, and with what follows of it.
		{[][]int{{1}}, []int{-1}, api.SatNo},
		{[][]int{{1}}, []int{1, -2}, api.SatYes},
		{[][]int{{1}, {-1, 2}}, []int{-2}, api.SatNo},
		{[][]int{{1}, {-1, 2}}, []int{3, -2, -3}, api.SatNo},
		{[][]int{{-1, 2}, {-2, 3}}, []int{1, -3}, api.SatNo},
		{[][]int{{-1, 2}, {-2, 3}}, []int{-3, 1}, api.SatNo},
		{[][]int{{-1, 2}, {-2, 3}}, []int{-3, -1}, api.SatYes},
		{[][]int{{-1, 2}, {-2, 3}, {-3, -1}}, []int{1}, api.SatNo},
		// Against the clauses, but only behind a choice.
		{[][]int{{1, 2, 3}, {-1, 2, 3}, {1, -2, 3}, {-1, -2, 3}}, []int{-3}, api.SatNo},
		{[][]int{{1, 2, 3}, {-1, 2, 3}, {1, -2, 3}, {-1, -2, 3}}, []int{3}, api.SatYes},
		{[][]int{{}}, []int{1}, api.SatNo},
		{pairs().Clauses, []int{3}, api.SatNo},
	} {
		k := made(t, of(3, a.clauses...))
		without := api.SatNo
		if hasModel(k.c, nil) {
			without = api.SatYes
		}
		for range 2 {
			k.want(a.want, a.assume...)
			// They hold in that one call alone.
			k.want(without)
		}
	}
}

// TestBudget: it is what a call may meet, not what all may, and there is no
// more than one conflict above it.
func TestBudget(t *testing.T) {
	for _, budget := range []int{0, 1, 2, 5, 30} {
		k := made(t, birds(6))
		calls, answer := 0, api.SatUnknown
		for ; answer == api.SatUnknown && calls < 10000; calls++ {
			answer = k.ask(nil, budget)
		}
		if answer != api.SatNo || calls < 2 || k.met < 5 {
			t.Errorf("budget %d: %d behind %d calls, %d conflicts", budget, answer, calls, k.met)
		}
	}
	k := made(t, birds(6))
	k.want(api.SatNo)
	same := made(t, birds(6))
	if answer := same.ask(nil, k.met); answer != api.SatNo || same.met != k.met {
		t.Errorf("with a budget of just as many as there are, %d: %d, %d", k.met, answer, same.met)
	}
	less := made(t, birds(6))
	if answer := less.ask(nil, k.met-1); answer != api.SatUnknown || less.met != k.met {
		t.Errorf("with a budget of one less than there are, %d: %d, %d", k.met, answer, less.met)
	}
}

// TestNoConflict: what needs no choice, or none that leads astray, needs no
// budget.
func TestNoConflict(t *testing.T) {
	for _, k := range []*kept{
		made(t, of(3)),
		made(t, of(3, []int{1}, []int{-1, 2}, []int{-2, 3})),
		made(t, of(3, []int{-1, 2}, []int{-2, 3})),
		made(t, of(3, []int{2, 2}, []int{3, 3, 3})),
		made(t, of(3, []int{1, -1}, []int{-2, 2, -2})),
	} {
		if answer := k.ask(nil, 0); answer != api.SatYes || k.met != 0 || len(k.proof) > 0 {
			t.Errorf("Solve of %v = %d, %d conflicts", k.c, answer, k.met)
		}
	}
	for _, k := range []*kept{
		made(t, of(3, []int{1}, []int{-1, 2}, []int{-2})),
		made(t, of(3, []int{})),
	} {
		if answer := k.ask(nil, 0); answer != api.SatNo || k.met != 0 || len(k.proof) > 0 {
			t.Errorf("Solve of %v = %d, %d conflicts", k.c, answer, k.met)
		}
	}
	k := made(t, of(3, []int{-1, 2}, []int{-2, 3}))
	if answer := k.ask([]int{1, -3}, 0); answer != api.SatNo || k.met != 0 {
		t.Errorf("Solve under assumptions = %d, %d conflicts", answer, k.met)
	}
	k = made(t, pairs())
	if answer := k.ask(nil, 0); answer != api.SatUnknown || k.met != 1 {
		t.Errorf("Solve of pairs = %d, %d conflicts", answer, k.met)
	}
}

// TestBetween: clauses and variables that come between calls.
func TestBetween(t *testing.T) {
	k := made(t, of(2, []int{1, 2}))
	k.want(api.SatYes, -1)
	k.add([]int{-2, 1})
	k.want(api.SatNo, -1)
	k.want(api.SatYes)
	k.vars(3)
	k.want(api.SatYes, 1, -3)
	k.add([]int{-1, 3, 2}, []int{-1, 3, -2})
	k.want(api.SatNo, -3)
	k.want(api.SatYes)
	k.vars(5)
	k.add([]int{-3, 4, 5}, []int{-4, -3}, []int{-5, 4, -1})
	k.want(api.SatNo)
	k.vars(6)
	k.add([]int{6})
	k.want(api.SatNo)
	k.want(api.SatNo, 6)
	// What holds already, behind a call that found out so.
	k = made(t, of(4, []int{1}, []int{-1, 2}))
	k.want(api.SatYes)
	k.add([]int{2, 3}, []int{-2, 3, 4}, []int{-1, -2, -3})
	k.want(api.SatYes)
	if m := k.s.Model(); m[3] || !m[4] {
		t.Errorf("Model = %t", m)
	}
	k.add([]int{-4, -1, -2})
	k.want(api.SatNo)
}

// TestGrown: variables that come behind a call are chosen as all others.
func TestGrown(t *testing.T) {
	k := made(t, of(1))
	for n := 2; n < 70; n++ {
		k.vars(n)
		k.add([]int{n, n - 1})
		k.want(api.SatYes)
		if n%7 == 0 {
			n += 3
			k.vars(n)
			k.add([]int{n, n - 1}, []int{-n, 1 - n})
			k.want(api.SatYes)
		}
	}
}

// TestModelAndProof: behind each kind of answer, and behind calls that are no
// Solve.
func TestModelAndProof(t *testing.T) {
	k := made(t, orElse(birds(5)))
	way := k.c.Vars
	if answer := k.ask([]int{-way}, 3); answer != api.SatUnknown || len(k.proof) == 0 {
		t.Errorf("Solve = %d, Proof = %d", answer, k.proof)
	}
	k.want(api.SatYes)
	m := k.s.Model()
	k.want(api.SatNo, -way)
	k.want(api.SatYes, way)
	if !m[way] || !k.s.Model()[way] {
		t.Errorf("Model = %t, %t", m, k.s.Model())
	}
	// It stays that of the last call, whatever comes behind it.
	m = k.s.Model()
	k.add([]int{-way})
	k.vars(way + 1)
	if !slices.Equal(k.s.Model(), m) || len(k.s.Proof()) != len(k.proof) {
		t.Errorf("Model behind Add and Vars = %t: want %t", k.s.Model(), m)
	}
	k.want(api.SatNo)
	k.want(api.SatNo)
}

// TestShared: what is answered is its own: neither what one does to it nor a
// later call changes another answer.
func TestShared(t *testing.T) {
	k := made(t, birds(5))
	k.vars(k.c.Vars + 1)
	k.want(api.SatNo, k.c.Vars)
	clean := k.s.Proof()
	for _, l := range k.s.Proof() {
		for i := range l {
			l[i] = 7
		}
		_ = append(l, 7, 7, 7)
	}
	proof := k.s.Proof()
	for i, l := range proof {
		if !slices.Equal(l, clean[i]) {
			t.Fatalf("Proof = %d: want %d", proof, clean)
		}
	}
	// No clause of it reaches into the next one.
	for i := range proof[1:] {
		_ = append(proof[i], 7, 7, 7)
		if !slices.Equal(proof[i+1], clean[i+1]) {
			t.Fatalf("Proof = %d: want %d", proof, clean)
		}
	}
	k = made(t, of(2, []int{1, 2}))
	k.want(api.SatYes, 1, -2)
	m, n := k.s.Model(), k.s.Model()
	m[1], m[2] = false, true
	k.want(api.SatYes, -1, 2)
	if !n[1] || n[2] || k.s.Model()[1] || !k.s.Model()[2] {
		t.Errorf("Model = %t, now %t", n, k.s.Model())
	}
}

// TestStays: what is handed in stays as it is, the room behind its end too, and
// is not kept.
func TestStays(t *testing.T) {
	was := [][]int{{3, -1, 2, 3}, {2, 1}, {-2, -2}, {1, -1}, {}}
	s := sat.New()
	s.Vars(3)
	for _, l := range was[:4] {
		with := roomy(l)
		if e := s.Add(with); e != api.OK || !stayed(with, l) {
			t.Errorf("Add(%d) = %d: %d", l, e, with)
		}
		for i := range with {
			with[i] = -1
		}
		assume := roomy([]int{3, 2, 3})
		if _, e := s.Solve(assume, 5); e != api.OK || !stayed(assume, []int{3, 2, 3}) {
			t.Errorf("Solve = %d: %d", e, assume)
		}
	}
	if answer, _ := s.Solve(nil, 5); answer != api.SatYes || !s.Model()[1] || s.Model()[2] || !s.Model()[3] {
		t.Errorf("Solve = %d, %t", answer, s.Model())
	}
	if e := s.Add(roomy(was[4])); e != api.OK {
		t.Errorf("Add(none) = %d", e)
	}
	if answer, _ := s.Solve(nil, 5); answer != api.SatNo {
		t.Errorf("Solve = %d", answer)
	}
}
