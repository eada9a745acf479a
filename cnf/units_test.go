package cnf_test

import (
	"math/rand"
	"slices"
	"testing"

	"augury/api"
	"augury/cnf"
)

// followsCase is what Units answers, of clauses of 4 variables.
type followsCase struct {
	clauses     [][]int
	given, want []int
	ok          bool
}

// check holds cases against Units and against the chapter's words.
func check(t *testing.T, cases []followsCase) {
	t.Helper()
	for _, f := range cases {
		c := api.Cnf{Vars: 4, Clauses: f.clauses}
		if l, ok := cnf.Units(c, f.given); !slices.Equal(l, f.want) || ok != f.ok {
			t.Errorf("Units(%d, %d) = %d, %t", f.clauses, f.given, l, ok)
		}
		if l, ok := said(c, f.given); !slices.Equal(l, f.want) || ok != f.ok {
			t.Errorf("said: Units(%d, %d) = %d, %t", f.clauses, f.given, l, ok)
		}
	}
}

func TestUnitsGiven(t *testing.T) {
	check(t, []followsCase{
		{nil, nil, nil, true},
		{nil, []int{3, -1}, []int{3, -1}, true},
		// Passed over: none of the variables, or came already.
		{nil, []int{0, 5, -5, leastInt, leastInt + 1, greatestInt, 1<<32 + 1, 1000000}, nil, true},
		{nil, []int{0, 4, 5, -3, -5, leastInt, 1}, []int{4, -3, 1}, true},
		{nil, []int{2, 2, 1, 2, 1, -3, -3}, []int{2, 1, -3}, true},
		// A given one whose not came ahead ends it, whatever is given behind it.
		{nil, []int{1, -1}, []int{1}, false},
		{nil, []int{-1, 1}, []int{-1}, false},
		{nil, []int{1, 2, -1, 3}, []int{1, 2}, false},
		{nil, []int{4, 9, 4, 0, -4, 1, -1}, []int{4}, false},
		// The clauses are not asked ahead of the last given one.
		{[][]int{{1}, {-2, 3}}, []int{2, -1, 4}, []int{2, -1, 4}, false},
		{[][]int{{-2, 3}}, []int{2, -3, 1, 4}, []int{2, -3, 1, 4}, false},
		{[][]int{{}}, []int{1, 2}, []int{1, 2}, false},
		{[][]int{{-1, 2}}, []int{1, -2}, []int{1, -2}, false},
		{[][]int{{-1, 2}}, []int{1, 3, 2}, []int{1, 3, 2}, true},
		{[][]int{{2}}, []int{1, -1}, []int{1}, false},
		{[][]int{{-1, 2}}, []int{1, 3, -1}, []int{1, 3}, false},
	})
}

func TestUnitsFollows(t *testing.T) {
	check(t, []followsCase{
		{[][]int{{1}}, nil, []int{1}, true},
		{[][]int{{-4}}, nil, []int{-4}, true},
		{[][]int{{1, 2}}, nil, nil, true},
		{[][]int{{1, 2}}, []int{-2}, []int{-2, 1}, true},
		{[][]int{{1, 2}}, []int{2}, []int{2}, true},
		{[][]int{{1, -2}, {2}}, nil, []int{2, 1}, true},
		// The first clause by its number, again and again from the first one on.
		{[][]int{{3}, {1}, {2}}, nil, []int{3, 1, 2}, true},
		{[][]int{{1, 2}, {-2, 3}, {-1}}, nil, []int{-1, 2, 3}, true},
		{[][]int{{4}, {-4, 1}, {2}}, nil, []int{4, 1, 2}, true},
		{[][]int{{-4, 1}, {2}, {4}, {3}}, nil, []int{2, 4, 1, 3}, true},
		{[][]int{{-3, 4}, {-2, 3}, {-1, 2}}, []int{1}, []int{1, 2, 3, 4}, true},
		{[][]int{{2}, {-2, -1}, {3, 1}}, nil, []int{2, -1, 3}, true},
		// Two clauses of which the same literal is left.
		{[][]int{{1, 2}, {2, 1}, {-2, 3}}, []int{-1}, []int{-1, 2, 3}, true},
		{[][]int{{2}, {2}, {2, 2}}, nil, []int{2}, true},
		// One that holds has nothing to come, whatever is left of it.
		{[][]int{{1, 2}, {1, 3}}, []int{1, -2}, []int{1, -2}, true},
		{[][]int{{-1, 2, 3}}, []int{1, 2}, []int{1, 2}, true},
	})
}

// TestUnitsOften: literals that stand in a clause more than once, or with their
// nots.
func TestUnitsOften(t *testing.T) {
	check(t, []followsCase{
		{[][]int{{3, 3}, {-3, 2, -3}}, nil, []int{3, 2}, true},
		{[][]int{{3, 3, 3}}, []int{-3}, []int{-3}, false},
		{[][]int{{1, 2, 1, 2, 1}}, nil, nil, true},
		{[][]int{{1, 2, 1, 2, 1}}, []int{-1}, []int{-1, 2}, true},
		{[][]int{{1, 2, 1, 2, 1}}, []int{-2}, []int{-2, 1}, true},
		{[][]int{{1, 2, 1, 2, 1}}, []int{-2, -1}, []int{-2, -1}, false},
		{[][]int{{1, 1}, {-1, 2, 2, -1}, {-2, -2, -1}}, nil, []int{1, 2}, false},
		{[][]int{{1, -1}}, nil, nil, true},
		{[][]int{{1, -1}}, []int{1}, []int{1}, true},
		{[][]int{{1, -1}}, []int{-1}, []int{-1}, true},
		{[][]int{{1, -1, 2}}, []int{-2}, []int{-2}, true},
		{[][]int{{1, 2, -1}}, []int{-2, -1}, []int{-2, -1}, true},
		{[][]int{{1, -1, 1, -1}, {2, -1, 1}, {3}}, nil, []int{3}, true},
		{[][]int{{-2, 1, -1}, {2}, {-1, -1}}, nil, []int{2, -1}, true},
		{[][]int{{-2, 1, -1}, {2}, {1, 1}}, nil, []int{2, 1}, true},
	})
}

// TestUnitsBroken: a clause that has nothing left is found ahead of each
// literal that follows, and at the end.
func TestUnitsBroken(t *testing.T) {
	check(t, []followsCase{
		{[][]int{{}}, nil, nil, false},
		{[][]int{{1}, {}, {2}}, nil, nil, false},
		{[][]int{{}, {1}}, []int{-1}, []int{-1}, false},
		{[][]int{{1}, {-1}}, nil, []int{1}, false},
		{[][]int{{-1}, {1}, {2}}, nil, []int{-1}, false},
		{[][]int{{1}, {2}, {3}, {-1, -2}}, nil, []int{1, 2}, false},
		{[][]int{{1}, {2}, {-1, -2}, {3}}, nil, []int{1, 2}, false},
		{[][]int{{1, -2}, {2}}, []int{-1}, []int{-1, -2}, false},
		{[][]int{{1, -2}, {2}}, []int{-1, 3}, []int{-1, 3, -2}, false},
		{[][]int{{1, 2}, {1, -2}, {-1, 3}, {-1, -3}}, []int{2}, []int{2, 1, 3}, false},
		{[][]int{{1, 2}, {1, -2}, {-1, 2}, {-1, -2}}, nil, nil, true},
		{[][]int{{1, 2}, {3}, {4}}, []int{-1, -2}, []int{-1, -2}, false},
	})
}

func TestUnitsWithoutVariables(t *testing.T) {
	for _, clauses := range [][][]int{nil, {}, {{}}, {{}, nil}} {
		l, ok := cnf.Units(api.Cnf{Clauses: clauses}, []int{1, 0, -1, leastInt})
		if len(l) > 0 || ok != (len(clauses) == 0) {
			t.Errorf("Units(%d) = %d, %t", clauses, l, ok)
		}
	}
}

// TestUnitsDrawn: as the chapter's words have it, and the same of the same.
func TestUnitsDrawn(t *testing.T) {
	r := rand.New(rand.NewSource(84))
	yes, no := 0, 0
	for range 60000 {
		vars := 1 + r.Intn(12)
		c := drawn(r, vars, r.Intn(3*vars), 1+r.Intn(4))
		given := someGiven(r, vars)
		want, wantOk := said(c, given)
		for range 2 {
			if l, ok := cnf.Units(c, given); !slices.Equal(l, want) || ok != wantOk {
				t.Fatalf("Units(%d, %d) = %d, %t, not %d, %t", c.Clauses, given, l, ok, want, wantOk)
			}
		}
		switch {
		case len(want) < len(given)+3:
		case wantOk:
			yes++
		default:
			no++
		}
	}
	if yes < 1000 || no < 1000 {
		t.Errorf("three or more follow of %d yes, %d no", yes, no)
	}
}

// TestUnitsSound: what follows holds in each model of the clauses and the given;
// a no has none.
func TestUnitsSound(t *testing.T) {
	r := rand.New(rand.NewSource(85))
	yes, no := 0, 0
	for range 6000 {
		vars := 1 + r.Intn(6)
		c := drawn(r, vars, r.Intn(3*vars), 3)
		given := slices.DeleteFunc(someGiven(r, vars), func(l int) bool { return !isOne(l, vars) })
		l, ok := cnf.Units(c, given)
		with := cloned(c)
		for _, g := range given {
			with.Clauses = append(with.Clauses, []int{g})
		}
		for _, m := range models(vars) {
			if !allHold(with, m) {
				continue
			}
			if !ok {
				t.Fatalf("Units(%d, %d) = no, but in %t", c.Clauses, given, m)
			}
			for _, f := range l {
				if !allHold(one(vars, f), m) {
					t.Fatalf("Units(%d, %d) = %d, but not in %t", c.Clauses, given, l, m)
				}
			}
			yes++
		}
		if !ok {
			no++
		}
	}
	if yes < 1000 || no < 1000 {
		t.Errorf("%d models, %d noes", yes, no)
	}
}

// counted is the numbers from 1 to n.
func counted(n int) []int {
	l := make([]int, n)
	for i := range l {
		l[i] = i + 1
	}
	return l
}

// TestUnitsLong: where one follows from the other, time goes with how many
// there are, in whichever order the clauses stand.
func TestUnitsLong(t *testing.T) {
	const n = 200000
	c := api.Cnf{Vars: n}
	for v := 1; v < n; v++ {
		c.Clauses = append(c.Clauses, []int{-v, v + 1})
	}
	for _, order := range []string{"up", "down", "drawn"} {
		if l, ok := cnf.Units(c, []int{1}); !slices.Equal(l, counted(n)) || !ok {
			t.Errorf("%s: Units: %d, %t", order, len(l), ok)
		}
		if l, ok := cnf.Units(c, []int{1, -n}); len(l) != n || l[1] != -n || ok {
			t.Errorf("%s: Units with the last one's not: %d, %t", order, len(l), ok)
		}
		if l, ok := cnf.Units(c, []int{-n}); len(l) != n || l[n-1] != -1 || !ok {
			t.Errorf("%s: Units from the last one on: %d, %t", order, len(l), ok)
		}
		slices.Reverse(c.Clauses)
		if order == "down" {
			rand.New(rand.NewSource(86)).Shuffle(len(c.Clauses), func(i, j int) { c.Clauses[i], c.Clauses[j] = c.Clauses[j], c.Clauses[i] })
		}
	}
}

// TestUnitsWide: a long clause, of which literal after literal comes to be no.
func TestUnitsWide(t *testing.T) {
	const n = 100000
	c := api.Cnf{Vars: 1000000}
	var want []int
	for v := 1; v < n; v++ {
		c.Clauses = append(c.Clauses, []int{-v})
		want = append(want, -v)
	}
	c.Clauses = append([][]int{counted(n), slices.Repeat([]int{-n}, n)}, c.Clauses...)
	if l, ok := cnf.Units(c, want); !slices.Equal(l, append(want, n)) || ok {
		t.Errorf("Units of all but one: %d, %t", len(l), ok)
	}
	c.Clauses = slices.Delete(c.Clauses, 1, 2)
	if l, ok := cnf.Units(c, nil); !slices.Equal(l, append(want, n)) || !ok {
		t.Errorf("Units: %d, %t", len(l), ok)
	}
	c.Clauses[0] = append(c.Clauses[0], 1000000)
	if l, ok := cnf.Units(c, []int{-1000000, n}); len(l) != n+1 || l[1] != n || l[2] != -1 || !ok {
		t.Errorf("Units of one that holds: %d, %t", len(l), ok)
	}
}
