package rup_test

// What chapter 12 says, once more, in the plainest way: all clauses are gone
// through again and again, nothing is kept from one question to the next.

import (
	"math/rand"
	"slices"

	"augury/api"
	"augury/cnf"
)

// isOne tells whether l is a variable of so many, or the not of one.
func isOne(l, vars int) bool {
	for v := 1; v <= vars; v++ {
		if l == v || l == -v {
			return true
		}
	}
	return false
}

// allOnes tells whether the clauses have only literals of so many variables.
func allOnes(clauses [][]int, vars int) bool {
	return vars >= 0 && vars <= 1000000 && !slices.ContainsFunc(slices.Concat(clauses...), func(l int) bool { return !isOne(l, vars) })
}

// contradicts tells whether Units of clauses that may be says no.
func contradicts(clauses [][]int, given []int) bool {
	came := map[int]bool{}
	for _, l := range given {
		if came[-l] {
			return true
		}
		came[l] = true
	}
	for grown := true; grown; {
		grown = false
		for _, clause := range clauses {
			open := map[int]bool{}
			holds := false
			for _, l := range clause {
				holds = holds || came[l]
				if !came[l] && !came[-l] {
					open[l] = true
				}
			}
			if holds {
				continue
			}
			if len(open) == 0 {
				return true
			}
			if len(open) == 1 {
				for l := range open {
					came[l] = true
				}
				grown = true
			}
		}
	}
	return false
}

// nots is the nots of a clause's literals.
func nots(clause []int) []int {
	var l []int
	for _, n := range clause {
		l = append(l, -n)
	}
	return l
}

// wantFollows is what Follows answers.
func wantFollows(c api.Cnf, clause []int) bool {
	return allOnes(c.Clauses, c.Vars) && allOnes([][]int{clause}, c.Vars) && contradicts(c.Clauses, nots(clause))
}

// wantCheck is what Check answers.
func wantCheck(c api.Cnf, assume []int, proof [][]int) api.Errno {
	if !allOnes(c.Clauses, c.Vars) || !allOnes([][]int{assume}, c.Vars) || !allOnes(proof, c.Vars) {
		return api.ErrArg
	}
	for i, clause := range proof {
		if !contradicts(slices.Concat(c.Clauses, proof[:i]), nots(clause)) {
			return api.ErrForm
		}
	}
	if !contradicts(slices.Concat(c.Clauses, proof), assume) {
		return api.ErrForm
	}
	return api.OK
}

// checkByUnits is what Check of clauses that may be answers, asked of Units anew
// for each clause of the proof.
func checkByUnits(c api.Cnf, assume []int, proof [][]int) api.Errno {
	for i, clause := range proof {
		if _, ok := cnf.Units(of(c.Vars, slices.Concat(c.Clauses, proof[:i])...), nots(clause)); ok {
			return api.ErrForm
		}
	}
	if _, ok := cnf.Units(of(c.Vars, slices.Concat(c.Clauses, proof)...), assume); ok {
		return api.ErrForm
	}
	return api.OK
}

// hasModel tells whether all clauses and assumptions hold together in one of
// all models.
func hasModel(c api.Cnf, assume []int) bool {
	for m := range 1 << c.Vars {
		isSo := func(l int) bool { return (m>>(max(l, -l)-1)&1 == 1) == (l > 0) }
		no := func(l int) bool { return !isSo(l) }
		if !slices.ContainsFunc(assume, no) && !slices.ContainsFunc(c.Clauses, func(clause []int) bool { return !slices.ContainsFunc(clause, isSo) }) {
			return true
		}
	}
	return false
}

// tree is a proof that goes through all that the variables from v on may be,
// under what is chosen already: where the chosen ones alone refute, the nots of
// them are a clause of it, and behind both ways of a choice, too.
func tree(c api.Cnf, v int, chosen []int) [][]int {
	var l [][]int
	if v <= c.Vars && !contradicts(c.Clauses, chosen) {
		l = append(l, tree(c, v+1, append(slices.Clone(chosen), v))...)
		l = append(l, tree(c, v+1, append(slices.Clone(chosen), -v))...)
	}
	return append(l, nots(chosen))
}

// literal is a drawn one of some variables.
func literal(r *rand.Rand, vars int) int {
	return (1 + r.Intn(vars)) * (1 - 2*r.Intn(2))
}

// drawnList is at most longest literals.
func drawnList(r *rand.Rand, vars, longest int) []int {
	var l []int
	for range r.Intn(longest + 1) {
		l = append(l, literal(r, vars))
	}
	return l
}

// drawn is at most so many clauses. Few of them have no literal or one, as much
// follows from these at once.
func drawn(r *rand.Rand, vars, count, longest int) api.Cnf {
	c := api.Cnf{Vars: vars}
	for range count {
		l := drawnList(r, vars, longest)
		if len(l) > 1 || r.Intn(40) < len(l) || r.Intn(150) == 0 {
			c.Clauses = append(c.Clauses, l)
		}
	}
	return c
}

// drawnProof is clauses of which most follow; half the time all that it takes to
// refute under the assumptions, or one less, or one more.
func drawnProof(r *rand.Rand, c api.Cnf, assume []int) [][]int {
	if r.Intn(2) == 0 {
		proof := tree(c, 1, assume)
		switch at := r.Intn(len(proof)); r.Intn(4) {
		case 0:
			proof = slices.Delete(proof, at, at+1)
		case 1:
			proof = slices.Insert(proof, at, drawnList(r, c.Vars, 4))
		}
		return proof
	}
	var proof [][]int
	for range r.Intn(30) {
		all := slices.Concat(c.Clauses, proof)
		l := drawnList(r, c.Vars, 4)
		if len(all) > 1 && r.Intn(2) == 0 {
			l = resolved(r, all[r.Intn(len(all))], all[r.Intn(len(all))])
		}
		if contradicts(all, nots(l)) || r.Intn(60) == 0 {
			proof = append(proof, l)
		}
	}
	return proof
}

// resolved is what two clauses have, but for a literal of the one whose not is
// the other's; in whatever order, now and then one twice.
func resolved(r *rand.Rand, a, b []int) []int {
	l := slices.Concat(a, b)
	for _, n := range a {
		if slices.Contains(b, -n) {
			l = slices.DeleteFunc(l, func(m int) bool { return m == n || m == -n })
			break
		}
	}
	if r.Intn(3) > 0 {
		slices.Sort(l)
		l = slices.Compact(l)
	}
	r.Shuffle(len(l), func(i, j int) { l[i], l[j] = l[j], l[i] })
	return l
}

// roomy is a list with room behind its end that is not to be touched.
func roomy(l []int) []int {
	return slices.Concat(l, []int{7, -7})[:len(l)]
}

// roomyAll is lists with such room, each and all of them.
func roomyAll(lists [][]int) [][]int {
	var l [][]int
	for _, one := range lists {
		l = append(l, roomy(one))
	}
	return slices.Concat(l, [][]int{roomy([]int{77}), roomy(nil)})[:len(lists)]
}

// stayed tells whether a list with room is still what roomy made of this one.
func stayed(l, was []int) bool {
	return slices.Equal(l[:len(was)+2], slices.Concat(was, []int{7, -7}))
}

// allStayed tells whether lists are still what roomyAll made of these.
func allStayed(l, was [][]int) bool {
	return slices.EqualFunc(l[:len(was)+2], slices.Concat(was, [][]int{{77}, {}}), stayed)
}
