package cnf_test

// What chapter 8 says, in other ways than the package goes: its words said once
// more, clause by clause, and what a text is by a pattern of all of it.

import (
	"math/big"
	"math/rand"
	"regexp"
	"slices"
	"strconv"
	"strings"

	"augury/api"
)

// isOne tells whether l is a variable of so many, or the not of one.
func isOne(l, vars int) bool {
	for _, sign := range []int{1, -1} {
		if v := sign * l; v >= 1 && v <= vars {
			return true
		}
	}
	return false
}

// mayBe tells whether these may be clauses.
func mayBe(c api.Cnf) bool {
	return c.Vars >= 0 && c.Vars <= 1000000 && !slices.ContainsFunc(slices.Concat(c.Clauses...), func(l int) bool { return !isOne(l, c.Vars) })
}

// allHold tells whether all clauses hold in a model that has all variables.
func allHold(c api.Cnf, m []bool) bool {
	var so []int
	for v := 1; v <= c.Vars; v++ {
		if m[v] {
			so = append(so, v)
		} else {
			so = append(so, -v)
		}
	}
	for _, clause := range c.Clauses {
		if !slices.ContainsFunc(clause, func(l int) bool { return slices.Contains(so, l) }) {
			return false
		}
	}
	return true
}

// models is all models of so many variables.
func models(vars int) [][]bool {
	l := [][]bool{{false}}
	for range vars {
		var longer [][]bool
		for _, m := range l {
			longer = append(longer, append(slices.Clone(m), false), append(slices.Clone(m), true))
		}
		l = longer
	}
	return l
}

// said is what Units of clauses that may be answers, as the chapter has it: all
// of them are asked anew ahead of each literal that follows.
func said(c api.Cnf, given []int) ([]int, bool) {
	var came []int
	for _, l := range given {
		switch {
		case !isOne(l, c.Vars) || slices.Contains(came, l):
		case slices.Contains(came, -l):
			return came, false
		default:
			came = append(came, l)
		}
	}
	for {
		var next []int
		for _, clause := range c.Clauses {
			open, holds := asked(clause, came)
			if !holds && len(open) == 0 {
				return came, false
			}
			if !holds && len(open) == 1 {
				next = append(next, open...)
			}
		}
		if len(next) == 0 {
			return came, true
		}
		came = append(came, next[0])
	}
}

// asked is a clause's literals that are not decided, each once, and whether one
// of the others holds.
func asked(clause, came []int) (open []int, holds bool) {
	for _, l := range clause {
		switch {
		case slices.Contains(came, l):
			holds = true
		case !slices.Contains(came, -l) && !slices.Contains(open, l):
			open = append(open, l)
		}
	}
	return open, holds
}

// whole is a pattern of a text; it leaves open which numbers may be.
var whole = regexp.MustCompile(`^p cnf (0|[1-9][0-9]*) (0|[1-9][0-9]*)\n((?:(?:-?[1-9][0-9]* )*0\n)*)$`)

// isText tells whether x is a text of some clauses, and which ones.
func isText(x string) (api.Cnf, bool) {
	parts := whole.FindStringSubmatch(x)
	if parts == nil || above(parts[1], 1000000) || parts[2] != strconv.Itoa(strings.Count(parts[3], "\n")) {
		return api.Cnf{}, false
	}
	vars, _ := strconv.Atoi(parts[1])
	c := api.Cnf{Vars: vars}
	for _, line := range strings.Split(parts[3], "\n") {
		if line == "" {
			break
		}
		var clause []int
		for _, word := range strings.Fields(line) {
			l, _ := strconv.Atoi(word)
			if above(strings.TrimPrefix(word, "-"), vars) {
				return api.Cnf{}, false
			}
			if l != 0 {
				clause = append(clause, l)
			}
		}
		c.Clauses = append(c.Clauses, clause)
	}
	return c, true
}

// above tells whether a number of digits, however many, is above most.
func above(digits string, most int) bool {
	n, _ := new(big.Int).SetString(digits, 10)
	return n.Cmp(big.NewInt(int64(most))) > 0
}

// same tells whether these are the same clauses.
func same(c, d api.Cnf) bool {
	return c.Vars == d.Vars && slices.EqualFunc(c.Clauses, d.Clauses, slices.Equal[[]int])
}

// cloned is the same clauses in memory of their own.
func cloned(c api.Cnf) api.Cnf {
	d := api.Cnf{Vars: c.Vars}
	for _, clause := range c.Clauses {
		d.Clauses = append(d.Clauses, slices.Clone(clause))
	}
	return d
}

// isNothing tells whether c is the zero value.
func isNothing(c api.Cnf) bool {
	return c.Vars == 0 && len(c.Clauses) == 0
}

// literal is a drawn one of some variables.
func literal(r *rand.Rand, vars int) int {
	return (1 + r.Intn(vars)) * (1 - 2*r.Intn(2))
}

// drawn is so many clauses of one variable or more, each with at most longest
// literals.
func drawn(r *rand.Rand, vars, count, longest int) api.Cnf {
	c := api.Cnf{Vars: vars}
	for range count {
		var clause []int
		for range r.Intn(longest + 1) {
			clause = append(clause, literal(r, vars))
		}
		// Empty ones break all, so that many of them would hide the rest.
		if len(clause) > 0 || r.Intn(8) == 0 {
			c.Clauses = append(c.Clauses, clause)
		}
	}
	return c
}

// someGiven is a few literals; some are none of the variables.
func someGiven(r *rand.Rand, vars int) []int {
	var l []int
	for range r.Intn(5) {
		if r.Intn(6) == 0 {
			l = append(l, []int{0, vars + 1, -vars - 1, leastInt, greatestInt}[r.Intn(5)])
		} else {
			l = append(l, literal(r, vars))
		}
	}
	return l
}

// changed is x with one of its bytes left out, put in or put in its place.
func changed(r *rand.Rand, x string) string {
	const other = "0123456789- \n\r+pcnf_x\t\x00"
	at, b := r.Intn(len(x)), other[r.Intn(len(other)):][:1]
	switch r.Intn(3) {
	case 0:
		return x[:at] + x[at+1:]
	case 1:
		return x[:at] + b + x[at:]
	}
	return x[:at] + b + x[at+1:]
}
