package solve_test

import (
	"runtime/debug"
	"slices"
	"strconv"
	"testing"

	"augury/api"
	"augury/solve"
	"augury/term"
)

// condition is a drawn text of 1 bit that is not too long.
func (d drawer) condition() string {
	for {
		if x := d.term(1, 2+d.Intn(3)); len(x) < 2000 {
			return x
		}
	}
}

// drawnBudget is one that is met now and then.
func (d drawer) drawnBudget() int { return []int{0, 1, 3, greatestInt, greatestInt}[d.Intn(5)] }

// TestDrawn: drawn terms and levels: each answer as all assignments say; what
// was answered is not solved again.
func TestDrawn(t *testing.T) {
	d := newDrawer(141)
	seen := map[api.Sat]int{}
	solved, old := 0, 0
	for range 150 {
		clear(d.drawn)
		k := newKept(t)
		var asked []int
		for range 30 {
			switch d.Intn(8) {
			case 0:
				k.push()
			case 1:
				if len(k.levels) > 1 {
					k.pop()
				}
			case 2:
				k.assert(d.condition())
			case 3:
				if len(asked) > 0 {
					k.assertNode(asked[d.Intn(len(asked))])
				}
			case 4:
				if len(asked) > 0 {
					is, _ := k.ask(asked[d.Intn(len(asked))], d.drawnBudget())
					seen[is]++
				}
			default:
				id := k.get(d.condition())
				asked = append(asked, id)
				is, _ := k.ask(id, d.drawnBudget())
				seen[is]++
			}
		}
		solved += k.solved
		old += k.checks - k.solved
	}
	if seen[api.SatYes] < 300 || seen[api.SatNo] < 300 || seen[api.SatUnknown] < 5 || solved < 300 || old < 300 {
		t.Errorf("answers %v; solved %d, not %d", seen, solved, old)
	}
}

// TestDrawnAlone: drawn terms, each asked of a new solver.
func TestDrawnAlone(t *testing.T) {
	d := newDrawer(142)
	seen := map[api.Sat]int{}
	for range 1500 {
		clear(d.drawn)
		k := newKept(t)
		k.assert(d.condition())
		is, _ := k.ask(k.get(d.condition()), greatestInt)
		seen[is]++
	}
	if seen[api.SatYes] < 300 || seen[api.SatNo] < 300 || seen[api.SatUnknown] > 0 {
		t.Errorf("answers %v", seen)
	}
}

// TestEdges: quotients and rests by 0, shifts by much, wide vectors: what can
// be, and what can't.
func TestEdges(t *testing.T) {
	for _, w := range []int{1, 2, 7, 8, 32, 33, 64} {
		bits := strconv.Itoa(w)
		v, u := "v0:"+bits, "v1:"+bits
		zero, ones, top := number(w, 0), number(w, ^uint64(0)), number(w, 1<<(w-1))
		by0 := func(op, to string) string { return say("eq", say(op, v, say("and", u, zero)), to) }
		atLeast := say("not", say("ult", u, number(w, uint64(w))))
		for _, c := range []struct {
			asserted, yes string
		}{
			{"#1:1", by0("udiv", ones)},
			{"#1:1", by0("urem", v)},
			{"#1:1", by0("sdiv", ones)},
			{"#1:1", by0("srem", v)},
			{say("eq", u, zero), say("eq", say("udiv", v, u), ones)},
			{say("eq", u, zero), say("eq", say("urem", v, u), v)},
			{say("eq", u, zero), say("eq", say("sdiv", v, u), ones)},
			{say("eq", u, zero), say("eq", say("srem", v, u), v)},
			{say("eq", u, ones), say("eq", say("sdiv", top, u), top)},
			{say("eq", u, ones), say("eq", say("srem", v, u), zero)},
			{say("eq", u, top), say("eq", say("neg", u), top)},
			{say("eq", say("add", v, u), zero), say("eq", say("neg", v), u)},
			{atLeast, say("eq", say("shl", v, u), zero)},
			{atLeast, say("eq", say("lshr", v, u), zero)},
			{atLeast, say("eq", say("ashr", v, u), say("sext", w, say("extract", w-1, 1, v)))},
			{say("ult", v, u), say("not", say("eq", u, zero))},
			{say("slt", v, zero), say("extract", w-1, 1, v)},
		} {
			k := newKept(t)
			k.assert(c.asserted)
			k.want(api.SatYes, c.yes)
			k.want(api.SatNo, say("not", c.yes))
		}
	}
}

// TestWide: of all 64 bits; variables whose numbers are far apart.
func TestWide(t *testing.T) {
	k := newKept(t)
	if a := k.want(api.SatYes, "(eq (mul v255:64 #64:3) #64:1)"); len(a) != 256 || a[255] != 0xaaaaaaaaaaaaaaab {
		t.Errorf("%d", a)
	}
	k.want(api.SatNo, "(eq (mul v255:64 #64:4) #64:1)")
	k.want(api.SatNo, "(eq (mul v3:32 v3:32) #32:3)")
	k.want(api.SatYes, "(eq (mul v3:32 v3:32) #32:17)")
	k.want(api.SatYes, "(eq (add v255:64 v0:64) #64:0)")
	k.assert("(eq v255:64 #64:18446744073709551615)")
	if a := k.want(api.SatYes, "(eq (add v255:64 v0:64) #64:0)"); len(a) != 256 || a[0] != 1 || a[255] != 1<<64-1 {
		t.Errorf("%d", a)
	}
	k.want(api.SatNo, "(slt #64:0 v255:64)")
	k.want(api.SatYes, "(slt v0:64 (add v255:64 v0:64))")
	k.want(api.SatYes, "(eq (concat v1:32 v2:32) v255:64)")
	k.want(api.SatYes, "(eq (udiv v4:64 v5:64) #64:12345)")
	k.want(api.SatNo, "(ult (udiv v4:64 #64:3) (udiv v4:64 #64:3))")
}

// quotients is a text that takes many clauses: the quotients of so many pairs of
// variables; it is its own simple one.
func quotients(n int) string {
	x := "(udiv v0:64 v1:64)"
	for v := 2; v < 2*n; v += 2 {
		x = say("xor", say("udiv", "v"+strconv.Itoa(v)+":64", "v"+strconv.Itoa(v+1)+":64"), x)
	}
	return say("eq", x, "#64:5")
}

// TestLimit: a term that takes too many clauses is refused, and nothing is
// changed by it: not even which assignments come behind.
func TestLimit(t *testing.T) {
	const sums = "(ult (add v200:32 v201:32) (sub v202:32 v201:32))"
	a, b := newKept(t), newKept(t)
	for _, k := range []*kept{a, b} {
		k.get(sums)
		k.get(quotients(20))
	}
	long := a.s.Len()
	alike := func(x string) {
		t.Helper()
		is, l := a.ask(a.get(x), greatestInt)
		if other, m := b.ask(b.get(x), greatestInt); other != is || !slices.Equal(l, m) {
			t.Errorf("Check(%s) = %d, %d and %d, %d", x, is, l, other, m)
		}
	}
	refused := func() {
		t.Helper()
		checks, solved := a.p.Asked()
		for range 2 {
			a.refuses(a.get(quotients(20)), greatestInt, api.ErrLimit)
			a.refuses(a.get(quotients(20)), 0, api.ErrLimit)
		}
		if c, n := a.p.Asked(); c != checks || n != solved || a.s.Len() != b.s.Len() {
			t.Errorf("Asked = %d, %d, were %d, %d", c, n, checks, solved)
		}
	}
	refused()
	if a.s.Len() != long {
		t.Fatalf("Len = %d, was %d: no simple one", a.s.Len(), long)
	}
	alike(sums)
	refused()
	alike("(not " + sums + ")")
	for _, k := range []*kept{a, b} {
		k.push()
		k.assert(sums)
	}
	refused()
	alike("(ult (add v202:32 v203:32) v201:32)")
	for _, k := range []*kept{a, b} {
		k.assert("(ult (add v202:32 v203:32) v201:32)", "(slt v201:32 v202:32)")
	}
	alike("(slt (mul v203:32 #32:5) v202:32)")
	refused()
	alike("(slt (mul v203:32 #32:5) v202:32)")
	alike("(slt (mul v203:32 #32:7) (sub v202:32 v200:32))")
	refused()
	alike("(eq (mul v203:32 #32:7) (sub v202:32 v204:32))")
	// Asserted, it is in each question.
	a.assert(quotients(20))
	a.refuses(a.get("v205:1"), 5, api.ErrLimit)
	a.pop()
	b.pop()
	alike("v205:1")
	alike(sums)
}

// TestManyClauses: questions that take too many clauses together are answered
// one by one.
func TestManyClauses(t *testing.T) {
	k := newKept(t)
	for n := range 30 {
		v := func(i int) string { return "v" + strconv.Itoa(4*n+i) + ":64" }
		k.want(api.SatYes, say("eq", say("udiv", v(0), v(1)), say("udiv", v(2), v(3))))
	}
	k.push()
	for n := 0; ; n++ {
		v := func(i int) string { return "v" + strconv.Itoa(4*n+i) + ":64" }
		k.assert(say("eq", say("udiv", v(0), v(1)), say("udiv", v(2), v(3))))
		if is, _, e := k.p.Check(k.get("#1:1"), 10); e != api.OK {
			if is != api.NoAnswer || e != api.ErrLimit || n < 3 {
				t.Errorf("Check = %d, %d, with %d", is, e, n)
			}
			break
		}
		k.checks++
		_, k.solved = k.p.Asked()
	}
	k.pop()
	k.want(api.SatYes, "(eq (udiv v0:64 v1:64) (udiv v2:64 v3:64))")
	k.want(api.SatNo, "(ult (add v0:64 v1:64) (add v1:64 v0:64))")
}

// TestFull: in a store that has as many nodes as it may, what needs new ones is
// refused; what was asked, and what is simple, is answered.
func TestFull(t *testing.T) {
	k := newKept(t)
	simple, needs := k.get("(ult v0:8 v1:8)"), k.get("(not (eq #8:3 (add #8:1 v0:8)))")
	asked := k.get("(eq #8:4 (add #8:2 v0:8))")
	if is, _ := k.ask(asked, 100); is != api.SatYes {
		t.Errorf("Check = %d", is)
	}
	fill(t, k.s, 0)
	k.refuses(needs, 100, api.ErrLimit)
	k.refuses(needs, -1, api.ErrArg)
	for range 2 {
		if is, _ := k.ask(simple, 100); is != api.SatYes {
			t.Errorf("Check = %d", is)
		}
		k.solves(0, func() {
			if is, _ := k.ask(asked, 100); is != api.SatYes {
				t.Errorf("Check = %d", is)
			}
		})
		k.push()
		k.assertNode(needs)
		k.refuses(simple, 100, api.ErrLimit)
		k.refuses(asked, 0, api.ErrLimit)
		k.pop()
	}
	if checks, solved := k.p.Asked(); checks != k.checks || solved != k.solved {
		t.Errorf("Asked = %d, %d, want %d, %d", checks, solved, k.checks, k.solved)
	}
}

// bother makes calls that are refused, and such that only ask.
func bother(t *testing.T, s *term.Store, p *solve.Solver) {
	t.Helper()
	for _, id := range []int{-1, s.Len(), 0} {
		if e := p.Assert(id); e != api.ErrArg {
			t.Fatalf("Assert(%d): %d", id, e)
		}
		if _, _, e := p.Check(id, 100); e != api.ErrArg {
			t.Fatalf("Check(%d): %d", id, e)
		}
	}
	if _, _, e := p.Check(s.Len()-1, -1); e != api.ErrArg {
		t.Fatalf("Check: %d", e)
	}
	p.Asked()
}

// TestSame: the same calls have the same answers, assignments and counts; calls
// that are refused between them, or only ask, change nothing.
func TestSame(t *testing.T) {
	d := newDrawer(143)
	for range 60 {
		clear(d.drawn)
		s, r := term.New(), term.New()
		get(t, s, "(zext 9 v100:8)")
		get(t, r, "(zext 9 v100:8)")
		a, b := over(t, s), over(t, r)
		deep := 0
		for range 30 {
			bother(t, r, b)
			x := d.condition()
			switch id := get(t, s, x); {
			case get(t, r, x) != id:
				t.Fatalf("Get(%s) = %d", x, id)
			case d.Intn(5) == 0:
				a.Push()
				b.Push()
				deep++
			case d.Intn(5) == 0 && deep > 0:
				a.Pop()
				b.Pop()
				deep--
			case d.Intn(4) == 0:
				a.Assert(id)
				b.Assert(id)
			default:
				budget := d.drawnBudget()
				is, l, e := a.Check(id, budget)
				other, m, f := b.Check(id, budget)
				if is != other || !slices.Equal(l, m) || e != f {
					t.Fatalf("Check(%s) = %d, %d, %d and %d, %d, %d", x, is, l, e, other, m, f)
				}
			}
			checks, solved := a.Asked()
			if c, n := b.Asked(); c != checks || n != solved {
				t.Fatalf("Asked = %d, %d and %d, %d", checks, solved, c, n)
			}
		}
	}
}

// TestTwoSolvers: two over one store have nothing else in common.
func TestTwoSolvers(t *testing.T) {
	s := term.New()
	a, b := over(t, s), over(t, s)
	less, five := get(t, s, "(ult v0:8 #8:5)"), get(t, s, "(eq v0:8 #8:5)")
	a.Push()
	a.Assert(less)
	if e := b.Pop(); e != api.ErrState {
		t.Errorf("Pop: %d", e)
	}
	if is, _, _ := a.Check(five, 100); is != api.SatNo {
		t.Errorf("Check = %d", is)
	}
	if is, l, _ := b.Check(five, 100); is != api.SatYes || !slices.Equal(l, api.Assign{5}) {
		t.Errorf("Check = %d, %d", is, l)
	}
	if checks, solved := b.Asked(); checks != 1 || solved != 1 {
		t.Errorf("Asked = %d, %d", checks, solved)
	}
}

// TestPath: as a path goes: each step asks whether a condition, and its Not, can
// be, and asserts one of them; all is asked again behind it.
func TestPath(t *testing.T) {
	k := newKept(t)
	sum := "v0:32"
	var way []string
	for n := range 120 {
		sum = say("xor", say("add", sum, "v"+strconv.Itoa(n%20)+":32"), number(32, uint64(n*n+3)))
		if len(sum) > 100 {
			sum = "v" + strconv.Itoa(n%9) + ":32"
		}
		x := say("eq", say("extract", n%29, 2, sum), number(2, uint64(n)))
		is, _ := k.ask(k.get(x), greatestInt)
		not, _ := k.ask(k.get(say("not", x)), greatestInt)
		if is != api.SatYes && not != api.SatYes {
			t.Fatalf("step %d: %d, %d", n, is, not)
		}
		if is != api.SatYes {
			x = say("not", x)
		}
		k.push()
		k.assert(x)
		way = append(way, x)
	}
	for range way {
		k.pop()
	}
	k.solves(0, func() {
		for _, x := range way {
			k.want(api.SatYes, x)
			k.push()
			k.assert(x)
		}
	})
}

// TestLong: a chain of kids takes time with its length, and no stack.
func TestLong(t *testing.T) {
	defer debug.SetMaxStack(debug.SetMaxStack(1 << 20))
	k := newKept(t)
	made := func(o api.Op, w uint8, kids ...int) int {
		n := api.Node{Op: o, W: w}
		copy(n.Kids[:], kids)
		id, e := k.s.Make(n)
		if e != api.OK {
			t.Fatalf("Make(%v): %d", n, e)
		}
		return id
	}
	x := k.get("v0:2")
	for n := range 20000 {
		y := k.get("v" + strconv.Itoa(1+n%7) + ":2")
		x = made([]api.Op{api.Xor, api.Sub, api.Add}[n%3], 2, x, y)
	}
	zero := made(api.Eq, 1, x, k.get("#2:0"))
	if is, _ := k.ask(zero, greatestInt); is != api.SatYes {
		t.Errorf("Check = %d", is)
	}
	k.assertNode(zero)
	if is, _ := k.ask(made(api.Not, 1, zero), greatestInt); is != api.SatNo {
		t.Errorf("Check = %d", is)
	}
	if is, _ := k.ask(made(api.Eq, 1, x, k.get("#2:1")), greatestInt); is != api.SatNo {
		t.Errorf("Check = %d", is)
	}
}
