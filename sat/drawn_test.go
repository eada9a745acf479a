package sat_test

import (
	"math/rand"
	"slices"
	"testing"

	"augury/api"
	"augury/blast"
	"augury/sat"
	"augury/term"
	"augury/text"
)

// drawnBudget is one that is met now and then.
func drawnBudget(r *rand.Rand) int {
	return []int{0, 0, 1, 2, 3, 100000, greatestInt}[r.Intn(7)]
}

// TestDrawn: as all models say, over several calls, with clauses and variables
// that come between them.
func TestDrawn(t *testing.T) {
	r := rand.New(rand.NewSource(131))
	seen := map[api.Sat]int{}
	chosen := 0
	for range 4000 {
		vars := 3 + r.Intn(5)
		k := made(t, drawn(r, vars, r.Intn(6*vars), 4))
		for range 6 {
			assume := drawnList(r, k.c.Vars, 3)
			answer := k.ask(assume, drawnBudget(r))
			if has := hasModel(k.c, assume); answer != api.SatUnknown && has != (answer == api.SatYes) {
				t.Fatalf("Solve(%d) of %v = %d", assume, k.c, answer)
			}
			k.checkLearnt()
			seen[answer]++
			if r.Intn(3) == 0 && k.c.Vars < 9 {
				k.vars(k.c.Vars + r.Intn(2))
			}
			for range r.Intn(4) {
				k.add(drawnClause(r, k.c.Vars, 4))
			}
		}
		if k.met > 0 {
			chosen++
		}
	}
	if seen[api.SatYes] < 3000 || seen[api.SatNo] < 3000 || seen[api.SatUnknown] < 200 || chosen < 800 {
		t.Errorf("answers %v; conflicts in %d", seen, chosen)
	}
}

// TestDrawnOnce: as all models say, of clauses that are handed in at once and
// asked without assumptions.
func TestDrawnOnce(t *testing.T) {
	r := rand.New(rand.NewSource(132))
	seen := map[api.Sat]int{}
	for range 4000 {
		vars := 5 + r.Intn(5)
		k := made(t, threes(r, vars, vars*4+r.Intn(vars*2)))
		want := api.SatNo
		if hasModel(k.c, nil) {
			want = api.SatYes
		}
		k.want(want)
		seen[want]++
	}
	if seen[api.SatYes] < 500 || seen[api.SatNo] < 500 {
		t.Errorf("answers %v", seen)
	}
}

// TestThrees: of more variables than one can go through all models of; each
// answer is held against its model or proof. With little budgets, call after
// call, it is the same answer.
func TestThrees(t *testing.T) {
	r := rand.New(rand.NewSource(133))
	seen := map[api.Sat]int{}
	for range 60 {
		c := threes(r, 80, 300+r.Intn(50))
		k, little := made(t, c), made(t, c)
		for range 3 {
			assume := []int{literal(r, 80), literal(r, 80)}
			answer := k.ask(assume, greatestInt)
			seen[answer]++
			for calls := 0; ; calls++ {
				other := little.ask(assume, 20)
				if other == answer {
					break
				}
				if other != api.SatUnknown || calls > 1000 {
					t.Fatalf("with a budget = %d, without %d", other, answer)
				}
			}
		}
		k.checkLearnt()
	}
	if seen[api.SatYes] < 30 || seen[api.SatNo] < 30 || seen[api.SatUnknown] > 0 {
		t.Errorf("answers %v", seen)
	}
}

// TestBirds: so many conflicts that it begins anew, drops clauses and makes
// scores smaller.
func TestBirds(t *testing.T) {
	for n := 1; n <= 8; n++ {
		k := made(t, birds(n))
		k.want(api.SatNo)
		k.want(api.SatNo)
		t.Logf("%d birds: %d conflicts", n, k.met)
		// Behind an assumption all is learnt that is needed without it, too.
		k = made(t, orElse(birds(n)))
		way := k.c.Vars
		k.want(api.SatNo, -way)
		met := k.met
		k.want(api.SatYes)
		k.want(api.SatNo, -way)
		k.add([]int{-way})
		k.want(api.SatNo)
		if k.met > 2*met+20 {
			t.Errorf("%d birds: %d conflicts, then %d", n, met, k.met)
		}
	}
}

// TestHard: many more conflicts, both ways.
func TestHard(t *testing.T) {
	r := rand.New(rand.NewSource(134))
	seen := map[api.Sat]int{}
	for range 6 {
		k := made(t, threes(r, 170, 725))
		seen[k.ask(nil, greatestInt)]++
	}
	if seen[api.SatYes] < 1 || seen[api.SatNo] < 1 {
		t.Errorf("answers %v", seen)
	}
}

// told is all that a solver tells.
type told struct {
	answer api.Sat
	model  []bool
	proof  [][]int
	met    int
}

// tell is what it tells behind a call of Solve.
func tell(t *testing.T, s *sat.Solver, assume []int, budget int) told {
	t.Helper()
	answer, e := s.Solve(assume, budget)
	if e != api.OK {
		t.Fatalf("Solve(%d, %d) = %d", assume, budget, e)
	}
	return told{answer, s.Model(), s.Proof(), s.Conflicts()}
}

// isSame tells whether the same was told.
func (a told) isSame(b told) bool {
	return a.answer == b.answer && a.met == b.met && slices.Equal(a.model, b.model) && slices.EqualFunc(a.proof, b.proof, slices.Equal[[]int])
}

// bother makes calls that are refused, and such that only ask.
func bother(t *testing.T, s *sat.Solver, vars int) {
	t.Helper()
	for _, e := range []api.Errno{s.Vars(vars - 1), s.Vars(mostVars + 1), s.Vars(leastInt), s.Add([]int{1, vars + 1}), s.Add([]int{0})} {
		if e != api.ErrArg {
			t.Fatalf("refused: %d", e)
		}
	}
	if answer, e := s.Solve([]int{-1, 0}, 5); answer != api.NoAnswer || e != api.ErrArg {
		t.Fatalf("refused: %d, %d", answer, e)
	}
	if answer, e := s.Solve([]int{-1}, -1); answer != api.NoAnswer || e != api.ErrArg {
		t.Fatalf("refused: %d, %d", answer, e)
	}
	s.Model()
	s.Proof()
	s.Conflicts()
}

// TestSame: the same calls have the same answers, models, proofs and conflicts;
// calls that are refused between them, or only ask, change nothing.
func TestSame(t *testing.T) {
	r := rand.New(rand.NewSource(135))
	seen := map[api.Sat]int{}
	for range 150 {
		vars := 10 + r.Intn(50)
		a, b := sat.New(), sat.New()
		for range 10 {
			vars += r.Intn(3)
			a.Vars(vars)
			b.Vars(vars)
			for range r.Intn(vars) {
				l := drawnClause(r, vars, 4)
				a.Add(l)
				b.Add(l)
			}
			assume, budget := drawnList(r, vars, 3), drawnBudget(r)
			bother(t, b, vars)
			x := tell(t, a, assume, budget)
			if y := tell(t, b, assume, budget); !x.isSame(y) {
				t.Fatalf("Solve(%d, %d) = %v, %v", assume, budget, x, y)
			}
			seen[x.answer]++
		}
	}
	if seen[api.SatYes] < 100 || seen[api.SatNo] < 100 || seen[api.SatUnknown] < 20 {
		t.Errorf("answers %v", seen)
	}
	a, b := made(t, birds(7)), made(t, birds(7))
	x := tell(t, a.s, nil, greatestInt)
	if y := tell(t, b.s, nil, greatestInt); !x.isSame(y) || x.met < 100 {
		t.Errorf("%d conflicts, %d", x.met, y.met)
	}
}

// TestLong: long chains take time with their length.
func TestLong(t *testing.T) {
	const n = 200000
	k := made(t, of(n))
	for v := 1; v < n; v++ {
		k.add([]int{-v, v + 1})
	}
	k.want(api.SatYes, 1)
	if slices.Contains(k.s.Model()[1:], false) {
		t.Error("Model of a chain: one is no")
	}
	k.want(api.SatYes, -n)
	if slices.Contains(k.s.Model(), true) {
		t.Error("Model of a chain: one is yes")
	}
	k.want(api.SatNo, 1, -n)
	k.want(api.SatYes, n/2, -n/2+1)
	k.add([]int{n / 2})
	k.want(api.SatNo, -n)
	k.add([]int{-n, 1}, []int{-1, -n})
	k.want(api.SatNo)
}

// TestWide: long clauses, of which literal after literal comes to be no.
func TestWide(t *testing.T) {
	const n = 100000
	var wide, noes []int
	for v := 1; v <= n; v++ {
		wide = append(wide, v)
		noes = append(noes, -v)
	}
	k := made(t, of(n+2, wide, append(slices.Clone(wide), n+1), append(slices.Clone(wide), -n-1, n+2)))
	for _, order := range []string{"up", "down", "drawn"} {
		k.want(api.SatNo, noes...)
		k.want(api.SatYes, noes[1:]...)
		k.want(api.SatYes, noes[:n-1]...)
		k.want(api.SatYes)
		slices.Reverse(noes)
		if order == "down" {
			rand.New(rand.NewSource(136)).Shuffle(n, func(i, j int) { noes[i], noes[j] = noes[j], noes[i] })
		}
	}
	k.add(slices.Repeat([]int{-n}, n))
	k.want(api.SatYes)
	for v := 1; v < n; v++ {
		k.add([]int{-v})
	}
	k.want(api.SatNo)
}

// TestFewOfMany: a few variables of many are those that matter, wherever they
// are.
func TestFewOfMany(t *testing.T) {
	for _, from := range []int{0, mostVars / 2, mostVars - 42} {
		c := api.Cnf{Vars: mostVars}
		for _, clause := range birds(7).Clauses {
			var l []int
			for _, one := range clause {
				if one > 0 {
					l = append(l, one+from)
				} else {
					l = append(l, one-from)
				}
			}
			c.Clauses = append(c.Clauses, l)
		}
		made(t, c).want(api.SatNo)
	}
}

// steps is texts that can't be true together, though it takes many steps from
// their variables, which stand first, to find that out. To go through all that
// these may be is hopeless for the first ones, and best for the last one.
func steps() [][]string {
	const rest = "(srem (zext 64 v2:3) (zext 64 v2:3))"
	const ones = "(urem #64:18446744073709551615 " + rest + ")"
	return [][]string{
		{"(eq (neg v1:8) #8:1)", "(not (eq (srem v0:8 v1:8) #8:0))"},
		{"(eq (neg v1:16) #16:1)", "(not (eq (srem v0:16 v1:16) #16:0))"},
		{"(eq (neg v1:32) #32:1)", "(not (eq (srem v0:32 v1:32) #32:0))"},
		{"(eq (ashr (sub " + rest + " " + ones + ") " + ones + ") " + ones + ")"},
	}
}

// TestSteps: neither variables that are chosen first, again and again, nor what
// is learnt of them alone are in the way for long.
func TestSteps(t *testing.T) {
	for _, texts := range steps() {
		s := term.New()
		b, _ := blast.New(s)
		var assume []int
		for _, x := range texts {
			id, e := text.Get(s, x)
			if e != api.OK {
				t.Fatalf("Get(%s): %d", x, e)
			}
			l, _ := b.Bits(id)
			assume = append(assume, l...)
		}
		k := made(t, b.Cnf())
		if answer := k.ask(assume, 10000); answer != api.SatNo {
			t.Errorf("%s: %d", texts, answer)
		}
		t.Logf("%s: %d conflicts", texts, k.met)
	}
}
