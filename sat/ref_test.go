package sat_test

// What chapter 13 says, in the plainest way: all models are gone through one by
// one; and a solver together with all that it was given, each answer of which
// is held against the promises.

import (
	"math"
	"math/rand"
	"slices"
	"testing"

	"augury/api"
	"augury/rup"
	"augury/sat"
)

const (
	leastInt    = math.MinInt
	greatestInt = math.MaxInt
	mostVars    = 1000000
)

// isSo tells whether the literal l is so in the model m.
func isSo(m []bool, l int) bool { return m[max(l, -l)] == (l > 0) }

// allSo tells whether in the model m a literal of each clause is so, and each
// assumption.
func allSo(clauses [][]int, assume []int, m []bool) bool {
	for _, clause := range clauses {
		if !slices.ContainsFunc(clause, func(l int) bool { return isSo(m, l) }) {
			return false
		}
	}
	return !slices.ContainsFunc(assume, func(l int) bool { return !isSo(m, l) })
}

// hasModel tells whether all clauses and assumptions are so in one of all
// models.
func hasModel(c api.Cnf, assume []int) bool {
	m := make([]bool, c.Vars+1)
	for n := range 1 << c.Vars {
		for v := range c.Vars {
			m[v+1] = n>>v&1 == 1
		}
		if allSo(c.Clauses, assume, m) {
			return true
		}
	}
	return false
}

// of is clauses of so many variables.
func of(vars int, clauses ...[]int) api.Cnf { return api.Cnf{Vars: vars, Clauses: clauses} }

// pairs is the clauses of two variables that refute each way they may be, but
// only behind a choice.
func pairs() api.Cnf { return of(2, []int{1, 2}, []int{-1, 2}, []int{1, -2}, []int{-1, -2}) }

// birds is the clauses of which there is no model: so many birds have a hole
// each, no two of them the same, and there is one hole less.
func birds(n int) api.Cnf {
	c := api.Cnf{Vars: n * (n - 1)}
	in := func(bird, hole int) int { return bird*(n-1) + hole + 1 }
	for bird := range n {
		var some []int
		for hole := range n - 1 {
			some = append(some, in(bird, hole))
			for other := range bird {
				c.Clauses = append(c.Clauses, []int{-in(bird, hole), -in(other, hole)})
			}
		}
		c.Clauses = append(c.Clauses, some)
	}
	return c
}

// orElse is the clauses with a variable more: where that is so, the last clause
// need not hold.
func orElse(c api.Cnf) api.Cnf {
	last := len(c.Clauses) - 1
	c.Vars++
	c.Clauses[last] = append(c.Clauses[last], c.Vars)
	return c
}

// kept is a solver, what it was given, and what it told so far.
type kept struct {
	*testing.T
	s     *sat.Solver
	c     api.Cnf
	met   int
	proof [][]int
}

// made is a solver of these clauses.
func made(t *testing.T, c api.Cnf) *kept {
	t.Helper()
	k := &kept{T: t, s: sat.New()}
	k.vars(c.Vars)
	k.add(c.Clauses...)
	return k
}

// vars lets there be so many variables.
func (k *kept) vars(n int) {
	k.Helper()
	if e := k.s.Vars(n); e != api.OK {
		k.Fatalf("Vars(%d) = %d, where there are %d", n, e, k.c.Vars)
	}
	k.c.Vars = n
}

// add gives it clauses.
func (k *kept) add(clauses ...[]int) {
	k.Helper()
	for _, clause := range clauses {
		if e := k.s.Add(clause); e != api.OK {
			k.Fatalf("Add(%d) = %d, of %d variables", clause, e, k.c.Vars)
		}
		k.c.Clauses = append(k.c.Clauses, slices.Clone(clause))
	}
}

// ask is what Solve answers. It reports all that is not as promised: how many
// conflicts there were, the model, that the proof goes on where it ended, and
// that it refutes.
func (k *kept) ask(assume []int, budget int) api.Sat {
	k.Helper()
	answer, e := k.s.Solve(assume, budget)
	if e != api.OK || answer < api.SatYes || answer > api.SatUnknown {
		k.Fatalf("Solve(%d, %d) = %d, %d", assume, budget, answer, e)
	}
	met := k.s.Conflicts() - k.met
	k.met = k.s.Conflicts()
	if met < 0 || met-1 > budget {
		k.Fatalf("Solve(%d, %d): %d conflicts", assume, budget, met)
	}
	if answer == api.SatUnknown && met <= budget {
		k.Fatalf("Solve(%d, %d): unknown behind %d conflicts", assume, budget, met)
	}
	k.checkModel(answer, assume)
	k.checkProof(answer, assume)
	return answer
}

// want reports an answer that isn't this one, with a budget that isn't met.
func (k *kept) want(want api.Sat, assume ...int) {
	k.Helper()
	if answer := k.ask(assume, greatestInt); answer != want {
		k.Fatalf("Solve(%d) = %d: want %d, of %v", assume, answer, want, k.c)
	}
}

func (k *kept) checkModel(answer api.Sat, assume []int) {
	k.Helper()
	m := k.s.Model()
	if answer != api.SatYes {
		if len(m) > 0 {
			k.Fatalf("Solve(%d) = %d: Model = %t", assume, answer, m)
		}
		return
	}
	if len(m) != k.c.Vars+1 || m[0] {
		k.Fatalf("Model of %d variables: %d", k.c.Vars, len(m))
	}
	if !allSo(k.c.Clauses, assume, m) {
		k.Fatalf("Model of %v under %d = %t", k.c, assume, m)
	}
}

func (k *kept) checkProof(answer api.Sat, assume []int) {
	k.Helper()
	proof := k.s.Proof()
	if len(proof) < len(k.proof) || !slices.EqualFunc(proof[:len(k.proof)], k.proof, slices.Equal[[]int]) {
		k.Fatalf("Proof = %d: it was %d", proof, k.proof)
	}
	k.proof = proof
	if answer != api.SatNo {
		return
	}
	if e := rup.Check(k.c, assume, proof); e != api.OK {
		k.Fatalf("Check(%v, %d, %d) = %d", k.c, assume, proof, e)
	}
}

// checkLearnt reports a clause of the proof that does not follow, whatever was
// answered. Of assumptions against each other nothing else is left to find.
func (k *kept) checkLearnt() {
	k.Helper()
	if e := rup.Check(k.c, []int{1, -1}, k.proof); e != api.OK {
		k.Fatalf("of %v, %d does not follow: %d", k.c, k.proof, e)
	}
}

// literal is a drawn one of some variables.
func literal(r *rand.Rand, vars int) int {
	return (1 + r.Intn(vars)) * (1 - 2*r.Intn(2))
}

// drawnList is at most longest literals; some of them are there twice, or with
// their nots.
func drawnList(r *rand.Rand, vars, longest int) []int {
	var l []int
	for range r.Intn(longest + 1) {
		l = append(l, literal(r, vars))
	}
	return l
}

// drawnClause is one of two literals or more, but now and then one of less: of
// those little else is open.
func drawnClause(r *rand.Rand, vars, longest int) []int {
	for {
		l := drawnList(r, vars, longest)
		if len(l) > 1 || r.Intn(30) < len(l) || r.Intn(300) == 0 {
			return l
		}
	}
}

// drawn is so many clauses.
func drawn(r *rand.Rand, vars, count, longest int) api.Cnf {
	c := api.Cnf{Vars: vars}
	for range count {
		c.Clauses = append(c.Clauses, drawnClause(r, vars, longest))
	}
	return c
}

// threes is so many clauses of three variables each.
func threes(r *rand.Rand, vars, count int) api.Cnf {
	c := api.Cnf{Vars: vars}
	for range count {
		var l []int
		for _, v := range r.Perm(vars)[:3] {
			l = append(l, (v+1)*(1-2*r.Intn(2)))
		}
		c.Clauses = append(c.Clauses, l)
	}
	return c
}

// roomy is a list with room behind its end that is not to be touched.
func roomy(l []int) []int {
	return slices.Concat(l, []int{7, -7})[:len(l)]
}

// stayed tells whether a list with room is still what roomy made of this one.
func stayed(l, was []int) bool {
	return slices.Equal(l[:len(was)+2], slices.Concat(was, []int{7, -7}))
}
