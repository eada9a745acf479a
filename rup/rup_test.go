package rup_test

import (
	"math"
	"math/rand"
	"slices"
	"testing"

	"augury/api"
	"augury/cnf"
	"augury/rup"
)

const (
	leastInt    = math.MinInt
	greatestInt = math.MaxInt
	mostVars    = 1000000
)

// of is clauses of so many variables.
func of(vars int, clauses ...[]int) api.Cnf { return api.Cnf{Vars: vars, Clauses: clauses} }

// pairs is the clauses of two variables that refute each way they may be.
func pairs() api.Cnf { return of(2, []int{1, 2}, []int{-1, 2}, []int{1, -2}, []int{-1, -2}) }

// chain is clauses of which each variable's is the next one's, up to n.
func chain(n int) api.Cnf {
	c := api.Cnf{Vars: n}
	for v := 1; v < n; v++ {
		c.Clauses = append(c.Clauses, []int{-v, v + 1})
	}
	return c
}

// checkCase is what Check answers.
type checkCase struct {
	c      api.Cnf
	assume []int
	proof  [][]int
	want   api.Errno
}

// check holds cases against Check and against the chapter's words.
func check(t *testing.T, cases []checkCase) {
	t.Helper()
	for _, k := range cases {
		if e := rup.Check(k.c, k.assume, k.proof); e != k.want {
			t.Errorf("Check(%v, %d, %d) = %d: want %d", k.c, k.assume, k.proof, e, k.want)
		}
		if e := wantCheck(k.c, k.assume, k.proof); e != k.want {
			t.Errorf("said: Check(%v, %d, %d) = %d: want %d", k.c, k.assume, k.proof, e, k.want)
		}
	}
}

func TestExamples(t *testing.T) {
	check(t, []checkCase{
		{of(2, []int{1, 2}, []int{-1}, []int{-2}), nil, nil, api.OK},
		{of(2, []int{1, 2}), nil, nil, api.ErrForm},
		{pairs(), nil, [][]int{{2}}, api.OK},
		{of(2, []int{1, 2}), []int{-1, -2}, nil, api.OK},
	})
}

// notThese is clauses that may not be.
var notThese = []api.Cnf{
	{Vars: -1},
	{Vars: leastInt},
	{Vars: mostVars + 1},
	{Vars: greatestInt},
	{Vars: -1, Clauses: [][]int{{}}},
	{Vars: mostVars + 1, Clauses: [][]int{{1}, {-1}}},
	{Vars: 2, Clauses: [][]int{{0}}},
	{Vars: 2, Clauses: [][]int{{3}}},
	{Vars: 2, Clauses: [][]int{{-3}}},
	{Vars: 2, Clauses: [][]int{{leastInt}}},
	{Vars: 2, Clauses: [][]int{{greatestInt}}},
	{Vars: 2, Clauses: [][]int{{}, {1}, {-1}, {1, 2, 0}}},
	{Vars: 0, Clauses: [][]int{{}, {1}}},
}

func TestClausesThatMayNotBe(t *testing.T) {
	for _, c := range notThese {
		for _, assume := range [][]int{nil, {1, -1}, {0}, {5, leastInt}} {
			for _, proof := range [][][]int{nil, {{}}, {{1}}, {{1, -1}}, {{0}}, {{1}, {greatestInt}}} {
				if e := rup.Check(c, assume, proof); e != api.ErrArg {
					t.Errorf("Check(%v, %d, %d) = %d", c, assume, proof, e)
				}
			}
		}
		for _, clause := range [][]int{nil, {}, {1}, {1, -1}, {0}, {5}, {leastInt}} {
			if rup.Follows(c, clause) {
				t.Errorf("Follows(%v, %d)", c, clause)
			}
		}
	}
}

// TestFewClauses: the empty clause, no clauses, no variables, and the most
// variables.
func TestFewClauses(t *testing.T) {
	check(t, []checkCase{
		{of(0), nil, nil, api.ErrForm},
		{of(0), nil, [][]int{{}}, api.ErrForm},
		{of(0), []int{}, [][]int{}, api.ErrForm},
		{of(0, []int{}), nil, nil, api.OK},
		{of(0, nil), nil, nil, api.OK},
		{of(0, []int{}), nil, [][]int{{}, nil}, api.OK},
		{of(0), []int{1}, nil, api.ErrArg},
		{of(0), nil, [][]int{{-1}}, api.ErrArg},
		{of(0, []int{}), []int{1}, nil, api.ErrArg},
		{of(3), nil, nil, api.ErrForm},
		{of(3), []int{1, -2, 3}, nil, api.ErrForm},
		{of(3), []int{1, -2, -1}, nil, api.OK},
		{of(3), nil, [][]int{{1}}, api.ErrForm},
		{of(3, []int{}), nil, nil, api.OK},
		{of(3, []int{1}, []int{}, []int{2}), nil, nil, api.OK},
		{of(3, []int{}), []int{1, 2}, [][]int{{3}, {-3, 2}, {}}, api.OK},
		{of(1, []int{1}, []int{-1}), nil, nil, api.OK},
		{of(1, []int{1}), nil, nil, api.ErrForm},
		{of(1, []int{1, 1}, []int{-1, -1, -1}), nil, nil, api.OK},
	})
	most := of(mostVars, []int{mostVars}, []int{-mostVars, -1, 1 - mostVars})
	for _, k := range []checkCase{
		{most, []int{1}, nil, api.ErrForm},
		{most, []int{1, mostVars - 1}, nil, api.OK},
		{most, []int{mostVars - 1}, [][]int{{1 - mostVars, -1}, {1 - mostVars, -1, 5}}, api.ErrForm},
		{most, []int{-mostVars}, [][]int{{mostVars}}, api.OK},
		{most, []int{mostVars + 1}, nil, api.ErrArg},
		{most, nil, [][]int{{-mostVars - 1}}, api.ErrArg},
	} {
		if e := rup.Check(k.c, k.assume, k.proof); e != k.want {
			t.Errorf("Check of %d variables, %d, %d = %d", mostVars, k.assume, k.proof, e)
		}
	}
}

// TestNoLiterals: a number that is none of the variables, among the assumptions
// or in the proof, goes ahead of clauses that don't follow, wherever it stands.
func TestNoLiterals(t *testing.T) {
	for _, n := range []int{0, 3, -3, leastInt, leastInt + 1, greatestInt, 1<<32 + 1, -1<<32 - 1, mostVars, mostVars + 1} {
		for _, c := range []api.Cnf{pairs(), of(2), of(2, []int{}), of(2, []int{1, 2})} {
			check(t, []checkCase{
				{c, []int{n}, nil, api.ErrArg},
				{c, []int{1, -1, n}, nil, api.ErrArg},
				{c, []int{n, 1, -1}, [][]int{{2}}, api.ErrArg},
				{c, []int{1, n}, [][]int{{1, 2}, {}}, api.ErrArg},
				{c, nil, [][]int{{n}}, api.ErrArg},
				{c, nil, [][]int{{1, -1, n}}, api.ErrArg},
				{c, []int{1, -1}, [][]int{{n, 2}}, api.ErrArg},
				{c, nil, [][]int{{}, {1}, {2, n}}, api.ErrArg},
				{c, []int{n}, [][]int{{n}}, api.ErrArg},
			})
			for _, clause := range [][]int{{n}, {n, 1}, {1, 2, n}, {1, -1, n}} {
				if rup.Follows(c, clause) {
					t.Errorf("Follows(%v, %d)", c, clause)
				}
			}
		}
	}
}

func TestProof(t *testing.T) {
	// Of these {4} follows only when {3} is one of the clauses.
	steps := of(4, []int{1, 2, 3}, []int{-1, 2, 3}, []int{1, -2, 3}, []int{-1, -2, 3}, []int{-3, 1, 4}, []int{-3, -1, 4}, []int{-4, 2}, []int{-4, -2})
	check(t, []checkCase{
		{steps, nil, nil, api.ErrForm},
		{steps, nil, [][]int{{4}}, api.ErrForm},
		{steps, nil, [][]int{{4}, {3, 1}}, api.ErrForm},
		{steps, nil, [][]int{{3}}, api.ErrForm},
		{steps, nil, [][]int{{3, 1}, {3}}, api.ErrForm},
		{steps, nil, [][]int{{3, 1}, {3}, {4}}, api.OK},
		{steps, nil, [][]int{{3, 1}, {4}, {3}}, api.ErrForm},
		{steps, nil, [][]int{{3, 1}}, api.ErrForm},
		{steps, nil, [][]int{{3}, {3, 1}}, api.ErrForm},
		// The second follows of the first alone; the other way round it
		// doesn't, though all of them are so.
		{of(3, []int{1, 2}, []int{1, -2}, []int{-1, 3, 2}, []int{-1, 3, -2}), nil, [][]int{{1}, {3}}, api.ErrForm},
		{of(3, []int{1, 2}, []int{1, -2}, []int{-1, 3, 2}, []int{-1, 3, -2}), []int{-3}, [][]int{{1}, {3}}, api.OK},
		{of(3, []int{2, 1}), []int{-1, -2}, [][]int{{1, 2, 3}, {3, 1, 2}}, api.OK},
		// One that does not follow, ahead of one that does, and behind it.
		{pairs(), nil, [][]int{{2}}, api.OK},
		{of(3, pairs().Clauses...), nil, [][]int{{3}, {2}}, api.ErrForm},
		{of(2, []int{1, 2}, []int{-1, 2}), []int{-2}, [][]int{{-2}, {2}}, api.ErrForm},
		{of(2, []int{1, 2}, []int{-1, 2}), []int{-2}, [][]int{{2}, {-2}}, api.ErrForm},
		{of(2, []int{1, 2}, []int{-1, 2}), []int{-2}, [][]int{{2}}, api.OK},
		// Behind a proof that refutes already everything follows.
		{of(3, pairs().Clauses...), nil, [][]int{{2}, {3}, {-3}, {}}, api.OK},
		// With the empty clause in it.
		{pairs(), nil, [][]int{{}}, api.ErrForm},
		{pairs(), nil, [][]int{{}, {2}}, api.ErrForm},
		{pairs(), nil, [][]int{{2}, {}}, api.OK},
		{pairs(), nil, [][]int{{2}, nil, {}, {1}, {-1}}, api.OK},
		{pairs(), []int{1}, [][]int{{}}, api.ErrForm},
		// One clause twice.
		{pairs(), nil, [][]int{{2}, {2}}, api.OK},
		{pairs(), nil, [][]int{{1, 2}, {1, 2}, {-1, -2}, {2, 1}}, api.ErrForm},
		{of(3, []int{1, 2, 3}, []int{1, 2, -3}), []int{-1, -2}, [][]int{{1, 2}, {1, 2}, {2, 1}}, api.OK},
		// A literal and its not: it follows, and nothing of it.
		{of(2), nil, [][]int{{1, -1}}, api.ErrForm},
		{of(2), []int{2}, [][]int{{1, -1}, {2, 1, -1}, {-1, -1, 1}}, api.ErrForm},
		{pairs(), nil, [][]int{{1, -1}, {2}}, api.OK},
		{pairs(), nil, [][]int{{2, 1, -2}}, api.ErrForm},
		{pairs(), nil, [][]int{{1, -2, 2, -1}, {1, 1}}, api.OK},
		// A literal twice: it is as if it stood there once.
		{pairs(), nil, [][]int{{2, 2}}, api.OK},
		{pairs(), nil, [][]int{{-2, -2, -2}}, api.OK},
		{of(3, []int{1, 2}, []int{1, -2}), []int{-1}, [][]int{{1, 3, 1, 3}, {1, 1}}, api.OK},
		{of(3, []int{1, 1, 2, 2}, []int{1, -2, 1}), []int{-1}, nil, api.OK},
		{of(3, []int{3, 3, 3}), []int{-3}, nil, api.OK},
		// A literal that is sure, and one whose not is.
		{of(3, []int{1}, []int{-1, 2, 3}, []int{-1, 2, -3}), nil, [][]int{{1}, {1, 3}, {-1, 2}}, api.ErrForm},
		{of(3, []int{1}, []int{-1, 2, 3}, []int{-1, 2, -3}), []int{-2}, [][]int{{1}, {1, 3}, {-1, 2}}, api.OK},
		{of(3, []int{1}, []int{-1, 2, 3}, []int{-1, 2, -3}), []int{-2, 3}, [][]int{{-1}}, api.ErrForm},
	})
}

func TestAssumptions(t *testing.T) {
	pair := of(3, []int{1, 2})
	check(t, []checkCase{
		// Against each other; one twice.
		{of(3), []int{1, -1}, nil, api.OK},
		{of(3), []int{-1, 1}, nil, api.OK},
		{pair, []int{3, 2, -3}, nil, api.OK},
		{pair, []int{3, 3}, nil, api.ErrForm},
		{pair, []int{-1, -1}, nil, api.ErrForm},
		{pair, []int{-1, -1, -2, -2}, nil, api.OK},
		{pair, []int{1, 1, 2, 1}, nil, api.ErrForm},
		{pair, []int{-1, -2, 3}, nil, api.OK},
		{pair, []int{3, -2, -1}, nil, api.OK},
		{pair, []int{-1, 2}, nil, api.ErrForm},
		// A sure one's not, and a sure one.
		{of(3, []int{1}, []int{-1, 2}), []int{-2}, nil, api.OK},
		{of(3, []int{1}, []int{-1, 2}), []int{2, 1}, nil, api.ErrForm},
		// The clauses of a proof follow of the clauses alone: not under the
		// assumptions.
		{pair, []int{-1, -2}, [][]int{{1}}, api.ErrForm},
		{pair, []int{-1}, [][]int{{2}}, api.ErrForm},
		{pair, []int{-1, -2}, [][]int{{}}, api.ErrForm},
		{pair, []int{-1, -2}, [][]int{{-1}}, api.ErrForm},
		{pair, []int{3, -3}, [][]int{{3}}, api.ErrForm},
		{of(3, []int{-1, 2}, []int{-1, -2}), []int{1}, [][]int{{3}}, api.ErrForm},
		// One that follows of the clauses, but is no more than the assumptions
		// leave open.
		{of(3, []int{1, 2}, []int{1, -2}), []int{3}, [][]int{{1}}, api.ErrForm},
		{of(3, []int{1, 2}, []int{1, -2}), []int{3, -1}, [][]int{{1}}, api.OK},
		// What a proof's clause was asked with is not decided behind it.
		{of(3, []int{1, 2}), nil, [][]int{{1, 2}}, api.ErrForm},
		{of(3, []int{1, 2}), []int{3}, [][]int{{1, 2, -3}, {2, 1}}, api.ErrForm},
		{of(4, []int{1, 2}, []int{-1, 2}, []int{3, 4}), []int{-3}, [][]int{{2, 4}, {2, 3}}, api.ErrForm},
		{of(4, []int{1, 2}, []int{-1, 2}, []int{3, 4}), []int{-2}, [][]int{{3, 4}, {2, 4}, {2, 3}}, api.OK},
	})
}

func TestFollows(t *testing.T) {
	for _, f := range []struct {
		c      api.Cnf
		clause []int
		want   bool
	}{
		// The empty clause, if the clauses refute themselves by units.
		{of(0), nil, false},
		{of(0, []int{}), nil, true},
		{of(2, []int{}), []int{}, true},
		{of(2, []int{}), []int{1}, true},
		{pairs(), nil, false},
		{of(1, []int{1}, []int{-1}), nil, true},
		{of(1, []int{1}), nil, false},
		{of(2, []int{1}, []int{-1, 2}, []int{-2, -1}), []int{}, true},
		// A literal and its not.
		{of(1), []int{1, -1}, true},
		{of(2), []int{2, -1, -2}, true},
		{pairs(), []int{-1, 1}, true},
		{of(2), []int{1}, false},
		{of(2), []int{1, 2, 1}, false},
		// One that is among the clauses, and more than that, and less.
		{of(3, []int{1, -2}), []int{1, -2}, true},
		{of(3, []int{1, -2}), []int{-2, 1}, true},
		{of(3, []int{1, -2}), []int{-2, 3, 1}, true},
		{of(3, []int{1, -2}), []int{1}, false},
		{of(3, []int{1, -2}), []int{-1, 2}, false},
		{of(3, []int{1, -2}), []int{1, 2}, false},
		{of(3, []int{1, -2}), []int{1, -2, -2, 1}, true},
		{of(3, []int{1, 1}), []int{1}, true},
		// By more than one step.
		{of(3, []int{1, 2}, []int{-2, 3}), []int{1, 3}, true},
		{of(3, []int{1, 2}, []int{-2, 3}), []int{3}, false},
		{pairs(), []int{1}, true},
		{pairs(), []int{-2}, true},
		// It is so in each model, but not by units.
		{of(4, []int{1, 2, 3}, []int{1, 2, -3}, []int{1, -2, 3}, []int{1, -2, -3}), []int{1}, false},
		{of(4, []int{1, 2, 3}, []int{1, 2, -3}, []int{1, -2, 3}, []int{1, -2, -3}), []int{1, 2}, true},
		// A number that is no literal, where the others alone would do.
		{of(2, []int{1}), []int{1, 0}, false},
		{of(2, []int{1}), []int{3, 1}, false},
		{of(2, []int{1}), []int{1, leastInt}, false},
		{of(2, []int{}), []int{greatestInt}, false},
	} {
		if ok := rup.Follows(f.c, f.clause); ok != f.want || ok != wantFollows(f.c, f.clause) {
			t.Errorf("Follows(%v, %d) = %t", f.c, f.clause, ok)
		}
	}
}

// TestCheckDrawn: as the chapter's words have it, and the same of the same.
func TestCheckDrawn(t *testing.T) {
	r := rand.New(rand.NewSource(121))
	seen := map[api.Errno]int{}
	for range 20000 {
		vars := 3 + r.Intn(5)
		c := drawn(r, vars, r.Intn(18*vars), 3+r.Intn(2))
		assume := drawnList(r, vars, 2)
		proof := drawnProof(r, c, assume)
		if r.Intn(40) == 0 {
			assume = append(assume, []int{0, vars + 1, -vars - 1, leastInt, greatestInt}[r.Intn(5)])
		}
		if r.Intn(40) == 0 {
			proof = append(proof, []int{1, []int{0, vars + 1, -vars - 1, leastInt, greatestInt}[r.Intn(5)]})
		}
		want := wantCheck(c, assume, proof)
		for range 2 {
			if e := rup.Check(c, assume, proof); e != want {
				t.Fatalf("Check(%v, %d, %d) = %d: want %d", c, assume, proof, e, want)
			}
		}
		if contradicts(c.Clauses, assume) || len(proof) < 2 {
			continue // the proof isn't what it hangs on
		}
		seen[want]++
	}
	if seen[api.OK] < 200 || seen[api.ErrForm] < 1000 || seen[api.ErrArg] < 100 {
		t.Errorf("of which the proof matters: %v", seen)
	}
}

// TestCheckByUnits: of more variables, of longer clauses and of longer proofs it
// is as Units says.
func TestCheckByUnits(t *testing.T) {
	r := rand.New(rand.NewSource(128))
	seen := map[api.Errno]int{}
	for range 400 {
		vars := 10 + r.Intn(10)
		c := of(vars)
		for range vars*3 + r.Intn(vars*3) {
			l := []int{literal(r, vars), literal(r, vars), literal(r, vars)}
			if r.Intn(10) == 0 {
				l = append(l, drawnList(r, vars, 10)...)
			}
			c.Clauses = append(c.Clauses, l)
		}
		assume := drawnList(r, vars, 2)
		proof := tree(c, 1, assume)
		if at := r.Intn(len(proof)); r.Intn(3) == 0 {
			proof = slices.Delete(proof, at, at+1)
		} else if r.Intn(3) == 0 {
			proof[at] = resolved(r, proof[at], proof[r.Intn(len(proof))])
		}
		if len(proof) > 1000 {
			continue
		}
		want := checkByUnits(c, assume, proof)
		if e := rup.Check(c, assume, proof); e != want {
			t.Fatalf("Check(%v, %d, %d) = %d: want %d", c, assume, proof, e, want)
		}
		seen[want]++
	}
	if seen[api.OK] < 100 || seen[api.ErrForm] < 100 {
		t.Errorf("%v", seen)
	}
}

// TestFollowsDrawn: as the chapter's words have it, and as Units says.
func TestFollowsDrawn(t *testing.T) {
	r := rand.New(rand.NewSource(122))
	seen := map[bool]int{}
	for range 30000 {
		vars := 1 + r.Intn(9)
		c := drawn(r, vars, r.Intn(5*vars), 1+r.Intn(4))
		clause := drawnList(r, vars, 4)
		want := wantFollows(c, clause)
		if ok := rup.Follows(c, clause); ok != want {
			t.Fatalf("Follows(%v, %d) = %t", c, clause, ok)
		}
		if _, ok := cnf.Units(c, nots(clause)); ok == want {
			t.Fatalf("Units(%v, %d) = %t", c, nots(clause), ok)
		}
		seen[want]++
	}
	if seen[true] < 1000 || seen[false] < 1000 {
		t.Errorf("%v", seen)
	}
}

// TestSound: what is refuted has no model; what follows holds in each.
func TestSound(t *testing.T) {
	r := rand.New(rand.NewSource(123))
	refuted, followed := 0, 0
	for range 20000 {
		vars := 1 + r.Intn(6)
		c := drawn(r, vars, r.Intn(5*vars), 1+r.Intn(4))
		assume := drawnList(r, vars, 3)
		proof := drawnProof(r, c, assume)
		if rup.Check(c, assume, proof) == api.OK {
			refuted++
			if hasModel(c, assume) {
				t.Fatalf("Check(%v, %d, %d) = OK, but there is a model", c, assume, proof)
			}
		}
		clause := drawnList(r, vars, 3)
		if rup.Follows(c, clause) {
			followed++
			if hasModel(c, nots(clause)) {
				t.Fatalf("Follows(%v, %d), but not in a model", c, clause)
			}
		}
	}
	if refuted < 1000 || followed < 1000 {
		t.Errorf("%d refuted, %d followed", refuted, followed)
	}
}

// TestWholeProofs: all that has no model is refuted by a proof that goes through
// all choices; what has one, by none. Without one of a proof's clauses, or in
// another order, it is as the chapter's words have it.
func TestWholeProofs(t *testing.T) {
	r := rand.New(rand.NewSource(124))
	yes, no, broken := 0, 0, 0
	for range 6000 {
		vars := 2 + r.Intn(5)
		c := drawn(r, vars, r.Intn(14*vars), 2+r.Intn(3))
		proof := tree(c, 1, nil)
		want := api.OK
		if hasModel(c, nil) {
			want = api.ErrForm
		}
		if e := rup.Check(c, nil, proof); e != want {
			t.Fatalf("Check(%v, none, %d) = %d: want %d", c, proof, e, want)
		}
		if want != api.OK || len(proof) < 3 {
			no++
			continue
		}
		yes++
		for range 10 {
			other := slices.Clone(proof)
			if at := r.Intn(len(other)); r.Intn(2) == 0 {
				other = slices.Delete(other, at, at+1)
			} else {
				r.Shuffle(len(other), func(i, j int) { other[i], other[j] = other[j], other[i] })
			}
			want := wantCheck(c, nil, other)
			if e := rup.Check(c, nil, other); e != want {
				t.Fatalf("Check(%v, none, %d) = %d: want %d", c, other, e, want)
			}
			if want != api.OK {
				broken++
			}
		}
	}
	if yes < 200 || no < 200 || broken < 200 {
		t.Errorf("%d refuted, %d not, %d broken", yes, no, broken)
	}
}

// TestMore: what refutes refutes with a clause more, and with an assumption
// more.
func TestMore(t *testing.T) {
	r := rand.New(rand.NewSource(125))
	refuted := 0
	for range 20000 {
		vars := 1 + r.Intn(7)
		c := drawn(r, vars, r.Intn(5*vars), 1+r.Intn(4))
		assume := drawnList(r, vars, 4)
		proof := drawnProof(r, c, assume)
		if rup.Check(c, assume, proof) != api.OK {
			continue
		}
		refuted++
		with := of(vars, slices.Insert(slices.Clone(c.Clauses), r.Intn(len(c.Clauses)+1), drawnList(r, vars, 3))...)
		under := slices.Insert(slices.Clone(assume), r.Intn(len(assume)+1), literal(r, vars))
		for _, k := range []checkCase{{c: with, assume: assume}, {c: c, assume: under}, {c: with, assume: under}} {
			if e := rup.Check(k.c, k.assume, proof); e != api.OK {
				t.Fatalf("Check(%v, %d, %d) = OK, but of %v, %d: %d", c, assume, proof, k.c, k.assume, e)
			}
		}
	}
	if refuted < 1000 {
		t.Errorf("%d refuted", refuted)
	}
}

// TestStays: what is handed in stays as it is, the room behind its end too.
func TestStays(t *testing.T) {
	r := rand.New(rand.NewSource(126))
	for range 5000 {
		vars := 1 + r.Intn(7)
		d := drawn(r, vars, r.Intn(5*vars), 1+r.Intn(4))
		under, asked := drawnList(r, vars, 4), drawnList(r, vars, 4)
		shown := drawnProof(r, d, under)
		c, assume, proof, clause := of(vars, roomyAll(d.Clauses)...), roomy(under), roomyAll(shown), roomy(asked)
		rup.Check(c, assume, proof)
		rup.Follows(c, clause)
		if c.Vars != vars || !allStayed(c.Clauses, d.Clauses) || !allStayed(proof, shown) || !stayed(assume, under) || !stayed(clause, asked) {
			t.Fatalf("of %v, %d, %d, %d: %v, %d, %d, %d", d, under, shown, asked, c, assume, proof, clause)
		}
	}
}

// TestLong: long chains and long proofs take time with their length.
func TestLong(t *testing.T) {
	const n = 200000
	c := chain(n)
	var steps, ones [][]int
	for v := 1; v+2 <= n; v++ {
		steps = append(steps, []int{-v, v + 2})
		ones = append(ones, []int{v + 1})
	}
	begun := of(n, slices.Insert(slices.Clone(c.Clauses), n/2, []int{1})...)
	backward := slices.Clone(begun.Clauses)
	slices.Reverse(backward)
	for i, k := range []checkCase{
		{c, []int{1, -n}, steps, api.OK},
		{c, []int{-1, n}, steps, api.ErrForm},
		{c, nil, append(slices.Clone(steps), []int{-2, 1}), api.ErrForm},
		{begun, []int{-n}, ones, api.OK},
		{begun, []int{n}, ones, api.ErrForm},
		{of(n, backward...), []int{-n}, ones, api.OK},
		{of(n, append(backward, []int{-n})...), nil, append(steps, ones...), api.OK},
		{c, nil, [][]int{{-1, n}, {1}}, api.ErrForm},
	} {
		if e := rup.Check(k.c, k.assume, k.proof); e != k.want {
			t.Errorf("%d: Check = %d: want %d", i, e, k.want)
		}
	}
	if !rup.Follows(c, []int{n, -1}) || rup.Follows(c, []int{1, -n}) || rup.Follows(c, []int{n}) || !rup.Follows(begun, []int{n}) {
		t.Error("Follows of a chain")
	}
}

// TestWide: a long clause, of which literal after literal comes to be no: from
// the first on, from the last on, and in whatever order.
func TestWide(t *testing.T) {
	const n = 100000
	var wide, noes []int
	for v := 1; v <= n; v++ {
		wide = append(wide, v)
		noes = append(noes, -v)
	}
	c := of(n+1, wide, []int{-7, n + 1})
	shorter := [][]int{append([]int{n + 1}, without(wide, 7)...), {n + 1, -7}}
	for _, order := range []string{"up", "down", "drawn"} {
		for i, k := range []checkCase{
			{c, noes, nil, api.OK},
			{c, without(noes, -7), nil, api.ErrForm},
			{c, without(noes, -7), shorter, api.ErrForm},
			{c, append(without(noes, -7), -n-1), nil, api.OK},
			{c, append([]int{-n - 1}, without(noes, -7)...), shorter, api.OK},
			{c, noes, [][]int{wide, nots(noes), append(nots(noes), wide...)}, api.OK},
			{c, noes, [][]int{wide[:n/2]}, api.ErrForm},
			{c, noes, [][]int{without(wide, 8)}, api.ErrForm},
		} {
			if e := rup.Check(k.c, k.assume, k.proof); e != k.want {
				t.Errorf("%s, %d: Check = %d: want %d", order, i, e, k.want)
			}
		}
		if !rup.Follows(c, nots(noes)) || rup.Follows(c, without(wide, 8)) || !rup.Follows(c, shorter[0]) {
			t.Errorf("%s: Follows", order)
		}
		slices.Reverse(noes)
		if order == "down" {
			rand.New(rand.NewSource(127)).Shuffle(n, func(i, j int) { noes[i], noes[j] = noes[j], noes[i] })
		}
	}
}

// without is a list, but for one literal.
func without(l []int, but int) []int {
	return slices.DeleteFunc(slices.Clone(l), func(n int) bool { return n == but })
}

// TestHoles: so many birds find no hole each of their own where there is one
// less; a proof goes through all the ways.
func TestHoles(t *testing.T) {
	const holes = 3
	c := of((holes + 1) * holes)
	in := func(bird, hole int) int { return bird*holes + hole + 1 }
	for bird := range holes + 1 {
		var some []int
		for hole := range holes {
			some = append(some, in(bird, hole))
			for other := range bird {
				c.Clauses = append(c.Clauses, []int{-in(bird, hole), -in(other, hole)})
			}
		}
		c.Clauses = append(c.Clauses, some)
	}
	proof := tree(c, 1, nil)
	check(t, []checkCase{
		{c, nil, nil, api.ErrForm},
		{c, nil, proof, api.OK},
		{c, nil, proof[len(proof)-1:], api.ErrForm},
	})
	// Without one of the clauses there is a way.
	for i := range c.Clauses {
		less := of(c.Vars, slices.Delete(slices.Clone(c.Clauses), i, i+1)...)
		if e := rup.Check(less, nil, proof); e != api.ErrForm {
			t.Errorf("without %d: Check = %d", c.Clauses[i], e)
		}
	}
}
