package solve_test

import (
	"slices"
	"strconv"
	"testing"

	"augury/api"
	"augury/eval"
	"augury/solve"
	"augury/term"
)

// hard is a text that can't be true; to find that out takes conflicts.
const hard = "(not (eq (mul v4:4 (add v5:4 #4:1)) (add (mul v4:4 v5:4) v4:4)))"

func TestExamples(t *testing.T) {
	k := newKept(t)
	five, four := k.get("(eq v0:8 #8:5)"), k.get("(eq v0:8 #8:4)")
	if is, a := k.ask(five, 100); is != api.SatYes || !slices.Equal(a, api.Assign{5}) {
		t.Errorf("Check = %d, %d", is, a)
	}
	k.assert("(ult v0:8 #8:5)")
	if is, _ := k.ask(five, 100); is != api.SatNo {
		t.Errorf("Check = %d", is)
	}
	if is, a := k.ask(four, 100); is != api.SatYes || !slices.Equal(a, api.Assign{4}) {
		t.Errorf("Check = %d, %d", is, a)
	}
	if e := k.p.Pop(); e != api.ErrState {
		t.Errorf("Pop: %d", e)
	}
}

// TestNew: of no store, of a zero one, and of one without nodes.
func TestNew(t *testing.T) {
	for _, s := range []*term.Store{nil, {}} {
		if p, e := solve.New(s); p != nil || e != api.ErrNil {
			t.Errorf("New: %v, %d", p, e)
		}
	}
	k := newKept(t)
	if checks, solved := k.p.Asked(); checks != 0 || solved != 0 {
		t.Errorf("Asked = %d, %d", checks, solved)
	}
	k.refuses(0, 1, api.ErrArg)
	if e := k.p.Assert(0); e != api.ErrArg {
		t.Errorf("Assert: %d", e)
	}
	k.want(api.SatYes, "v0:1")
}

// TestNone: of none, and of a zero one, each call refuses, whatever it is given.
func TestNone(t *testing.T) {
	for _, p := range []*solve.Solver{nil, {}} {
		for i, e := range []api.Errno{p.Push(), p.Pop(), p.Push(), p.Pop(), p.Assert(0), p.Assert(-1)} {
			if e != api.ErrNil {
				t.Errorf("%d: %d", i, e)
			}
		}
		for _, id := range []int{0, -1, greatestInt} {
			for _, budget := range []int{0, -1, 5} {
				if is, a, e := p.Check(id, budget); is != api.NoAnswer || len(a) != 0 || e != api.ErrNil {
					t.Errorf("Check(%d, %d) = %d, %d, %d", id, budget, is, a, e)
				}
			}
		}
		if checks, solved := p.Asked(); checks != 0 || solved != 0 {
			t.Errorf("Asked = %d, %d", checks, solved)
		}
	}
}

// TestPop: as many Pops as Pushes, and none more, whatever was asserted.
func TestPop(t *testing.T) {
	k := newKept(t)
	none := func() {
		t.Helper()
		if e := k.p.Pop(); e != api.ErrState {
			t.Errorf("Pop: %d", e)
		}
	}
	none()
	for n := range 4 {
		for range n {
			k.push()
			k.assert("(ult v0:8 #8:5)")
		}
		for range n {
			k.pop()
		}
		none()
		none()
	}
	k.assert("(ult v0:8 #8:5)")
	none()
	k.want(api.SatNo, "(eq v0:8 #8:5)")
	for range 1000 {
		k.push()
	}
	k.assert("(ult #8:3 v0:8)")
	k.want(api.SatYes, "(eq v0:8 #8:4)")
	k.want(api.SatNo, "(eq v0:8 #8:3)")
	for range 1000 {
		k.pop()
	}
	none()
	k.want(api.SatYes, "(eq v0:8 #8:3)")
}

// TestLevels: what was asserted in a level is gone behind its Pop, what was
// ahead of it is not.
func TestLevels(t *testing.T) {
	k := newKept(t)
	at := func(yes, no string) {
		t.Helper()
		for _, c := range yes {
			k.want(api.SatYes, say("eq", "v0:8", number(8, uint64(c-'0'))))
		}
		for _, c := range no {
			k.want(api.SatNo, say("eq", "v0:8", number(8, uint64(c-'0'))))
		}
	}
	at("012345", "")
	k.assert("(ult v0:8 #8:5)")
	at("01234", "5")
	k.push()
	k.assert("(not (eq v0:8 #8:0))", "(not (eq v0:8 #8:3))")
	at("124", "035")
	k.push()
	k.push()
	k.assert("(eq (and v0:8 #8:1) #8:0)")
	at("24", "0135")
	k.pop()
	at("124", "035")
	k.assert("(ult #8:1 v0:8)")
	at("24", "0135")
	k.pop()
	at("124", "035")
	k.assert("(ult v0:8 #8:2)")
	at("1", "02345")
	k.pop()
	at("01234", "5")
	k.push()
	at("01234", "5")
	k.pop()
	k.assert("(ult v0:8 #8:2)")
	at("01", "2345")
}

// TestTwice: a term that is asserted twice, in one level and in two.
func TestTwice(t *testing.T) {
	k := newKept(t)
	const less, five = "(ult v0:8 #8:5)", "(eq v0:8 #8:5)"
	k.push()
	k.assert(less, less)
	k.want(api.SatNo, five)
	k.pop()
	k.want(api.SatYes, five)
	k.assert(less)
	k.push()
	k.assert(less)
	k.want(api.SatNo, five)
	k.pop()
	k.want(api.SatNo, five)
	k.want(api.SatYes, less)
}

// TestAssertedConsts: 1 says nothing, 0 that nothing can be.
func TestAssertedConsts(t *testing.T) {
	k := newKept(t)
	k.solves(0, func() {
		k.assert("#1:1", "(eq v0:8 v0:8)")
		k.want(api.SatYes, "#1:1")
		k.want(api.SatNo, "#1:0")
		k.want(api.SatYes, "(not (ult v0:8 v0:8))")
	})
	k.solves(1, func() { k.want(api.SatYes, "(eq v0:8 #8:5)") })
	for _, no := range []string{"#1:0", "(ult v0:8 #8:0)", "(eq (zext 16 v0:8) #16:256)"} {
		k.push()
		k.assert(no)
		k.solves(0, func() {
			k.want(api.SatNo, "#1:1")
			k.want(api.SatNo, "#1:0")
			k.want(api.SatNo, "(eq v0:8 #8:6)")
			k.want(api.SatNo, "(eq v0:8 #8:5)")
			k.want(api.SatNo, no)
		})
		k.pop()
	}
	k.want(api.SatYes, "(eq v0:8 #8:6)")
}

// TestChecked: an asserted term, its Not, and Consts beside what is asserted.
func TestChecked(t *testing.T) {
	k := newKept(t)
	for _, x := range []string{"(ult v0:8 #8:5)", "(not (eq v0:8 #8:5))", "(extract 3 1 v0:8)", "(slt (mul v0:8 v0:8) #8:0)"} {
		k.push()
		k.assert(x)
		k.want(api.SatYes, x)
		k.want(api.SatNo, say("not", x))
		k.want(api.SatYes, say("not", say("not", x)))
		k.want(api.SatYes, "#1:1")
		k.want(api.SatNo, "#1:0")
		k.assert(say("not", x))
		k.want(api.SatNo, x)
		k.want(api.SatNo, "#1:1")
		k.pop()
	}
	k.assert(hard)
	k.want(api.SatNo, "#1:1")
	k.want(api.SatNo, "(eq v1:8 #8:1)")
}

// TestRefuses: numbers of no node, nodes that have not 1 bit, budgets below 0;
// what refuses changes nothing.
func TestRefuses(t *testing.T) {
	k := newKept(t)
	eight, nine, five := k.get("v0:8"), k.get("(zext 9 v0:8)"), k.get("(eq v0:8 #8:5)")
	all := k.get("(concat (eq v0:8 #8:4) (concat v0:8 (mul (zext 55 v0:8) #55:3)))")
	k.assert("(ult v0:8 #8:6)")
	no := func() {
		t.Helper()
		for _, id := range []int{-1, leastInt, greatestInt, k.s.Len(), k.s.Len() + 1, eight, nine, all} {
			if e := k.p.Assert(id); e != api.ErrArg {
				t.Errorf("Assert(%d): %d", id, e)
			}
			for _, budget := range []int{0, 1, greatestInt, -1, leastInt} {
				k.refuses(id, budget, api.ErrArg)
			}
		}
		for _, budget := range []int{-1, -2, leastInt} {
			k.refuses(five, budget, api.ErrArg)
		}
		if checks, solved := k.p.Asked(); checks != k.checks || solved != k.solved {
			t.Errorf("Asked = %d, %d", checks, solved)
		}
	}
	no()
	k.want(api.SatYes, "(eq v0:8 #8:5)")
	no()
	// Of an answered question, too.
	k.refuses(five, -1, api.ErrArg)
	k.want(api.SatYes, "(eq v0:8 #8:5)")
	k.want(api.SatNo, "(eq v0:8 #8:6)")
	k.push()
	no()
	k.pop()
	if e := k.p.Pop(); e != api.ErrState {
		t.Errorf("Pop: %d", e)
	}
	k.want(api.SatNo, "(eq v0:8 #8:6)")
	k.want(api.SatYes, "(eq v0:8 #8:0)")
}

// TestBudgets: 0, 1 and the greatest one; SatUnknown only where a budget is met.
func TestBudgets(t *testing.T) {
	for _, x := range []string{"v0:1", "(not v0:1)", "(eq v1:8 #8:5)", "(eq (xor v1:8 v2:8) (xor v2:8 v1:8))", "(ult v1:8 #8:0)"} {
		for _, budget := range []int{0, 1, greatestInt} {
			k := newKept(t)
			want := api.SatYes
			if x == "(ult v1:8 #8:0)" {
				want = api.SatNo
			}
			if is, _ := k.ask(k.get(x), budget); is != want {
				t.Errorf("Check(%s, %d) = %d", x, budget, is)
			}
		}
	}
	k := newKept(t)
	id := k.get(hard)
	for _, c := range []struct {
		budget int
		want   api.Sat
	}{{0, api.SatUnknown}, {greatestInt, api.SatNo}, {0, api.SatNo}, {1, api.SatNo}} {
		if is, _ := k.ask(id, c.budget); is != c.want {
			t.Errorf("Check(%s, %d) = %d", hard, c.budget, is)
		}
	}
}

// TestEnough: up to some budget it is SatUnknown, from there on it never is.
func TestEnough(t *testing.T) {
	for _, c := range []struct {
		x    string
		want api.Sat
	}{
		{hard, api.SatNo},
		{"(not (eq (add (mul (udiv v0:3 v1:3) v1:3) (urem v0:3 v1:3)) v0:3))", api.SatNo},
		{"(and (eq (mul v0:8 v1:8) #8:143) (and (ult #8:1 v0:8) (ult v0:8 v1:8)))", api.SatYes},
	} {
		unknown := 0
		for budget := 0; ; budget++ {
			k := newKept(t)
			is, _ := k.ask(k.get(c.x), budget)
			if is != api.SatUnknown {
				if is != c.want {
					t.Errorf("Check(%s, %d) = %d", c.x, budget, is)
				}
				break
			}
			unknown++
		}
		for _, more := range []int{1, 2, 10, greatestInt - unknown} {
			k := newKept(t)
			if is, _ := k.ask(k.get(c.x), unknown+more); is != c.want {
				t.Errorf("Check(%s, %d) = %d", c.x, unknown+more, is)
			}
		}
		t.Logf("%s: %d conflicts", c.x, unknown)
		if unknown == 0 {
			t.Errorf("%s needs none", c.x)
		}
	}
}

// TestUnknown: it is not remembered: it is solved again each time, and a greater
// budget answers.
func TestUnknown(t *testing.T) {
	const long = "(not (eq (mul v0:6 (add v1:6 #6:1)) (add (mul v0:6 v1:6) v0:6)))"
	k := newKept(t)
	id := k.get(long)
	for range 3 {
		k.solves(1, func() {
			if is, _ := k.ask(id, 1); is != api.SatUnknown {
				t.Errorf("Check = %d", is)
			}
		})
	}
	k.solves(1, func() { k.want(api.SatNo, long) })
	k.solves(0, func() {
		for _, budget := range []int{0, 1, greatestInt} {
			if is, _ := k.ask(id, budget); is != api.SatNo {
				t.Errorf("Check = %d", is)
			}
		}
	})
	// With a little budget, asked again and again, what was learnt adds up.
	k = newKept(t)
	id = k.get(long)
	for range 2000 {
		if is, _ := k.ask(id, 20); is != api.SatUnknown {
			return
		}
	}
	t.Error("no answer")
}

// TestConsts: terms without variables, and those that simp makes Consts, are
// answered, and nothing is solved.
func TestConsts(t *testing.T) {
	k := newKept(t)
	for _, c := range []struct {
		x    string
		want api.Sat
	}{
		{"#1:1", api.SatYes},
		{"#1:0", api.SatNo},
		{"(not #1:1)", api.SatNo},
		{"(eq (udiv #8:7 #8:0) #8:255)", api.SatYes},
		{"(eq (urem #8:7 #8:0) #8:7)", api.SatYes},
		{"(eq (sdiv #8:128 #8:255) #8:128)", api.SatYes},
		{"(ult (shl #64:1 #64:63) #64:1)", api.SatNo},
		{"(slt (shl #64:1 #64:63) #64:1)", api.SatYes},
		{"(ite (eq #8:1 #8:2) #1:1 #1:0)", api.SatNo},
		{"(eq v0:8 v0:8)", api.SatYes},
		{"(eq (xor v0:8 v0:8) #8:0)", api.SatYes},
		{"(ult v0:8 #8:0)", api.SatNo},
		{"(slt v0:8 v0:8)", api.SatNo},
		{"(eq (add v0:8 #8:0) (sub v0:8 #8:0))", api.SatYes},
		{"(eq (and v0:8 #8:254) #8:1)", api.SatNo},
		{"(extract 7 1 (or v0:8 #8:128))", api.SatYes},
	} {
		k.solves(0, func() { k.want(c.want, c.x) })
		k.push()
		k.assert(c.x)
		k.solves(0, func() {
			k.want(c.want, "#1:1")
			k.want(c.want, c.x)
			k.want(api.SatNo, say("not", c.x))
		})
		k.pop()
	}
}

// TestAsked: what it counts.
func TestAsked(t *testing.T) {
	k := newKept(t)
	asked := func(checks, solved int) {
		t.Helper()
		if c, n := k.p.Asked(); c != checks || n != solved {
			t.Errorf("Asked = %d, %d, want %d, %d", c, n, checks, solved)
		}
	}
	asked(0, 0)
	k.push()
	k.assert("(ult v0:8 #8:9)")
	k.pop()
	asked(0, 0)
	k.want(api.SatYes, "#1:1")
	asked(1, 0)
	k.want(api.SatYes, "(eq v0:8 #8:5)")
	asked(2, 1)
	k.want(api.SatYes, "(eq v0:8 #8:5)")
	asked(3, 1)
	k.want(api.SatNo, hard)
	asked(4, 2)
	k.want(api.SatNo, hard)
	asked(5, 2)
	k.refuses(-1, 5, api.ErrArg)
	k.refuses(k.get(hard), -1, api.ErrArg)
	asked(5, 2)
	k.assert("(ult v0:8 #8:9)")
	asked(5, 2)
	k.want(api.SatYes, "(eq v0:8 #8:5)")
	asked(6, 3)
	for n := range 2 {
		if is, _ := k.ask(k.get(hard), 0); is != api.SatUnknown {
			t.Errorf("Check = %d", is)
		}
		asked(7+n, 4+n)
	}
	k.want(api.SatNo, hard)
	asked(9, 6)
}

// TestRemembered: the same question is solved once, whatever was asked between,
// in whichever levels and order its terms were asserted.
func TestRemembered(t *testing.T) {
	k := newKept(t)
	const a, b, c = "(ult v0:8 #8:9)", "(ult #8:6 v0:8)", "(eq (and v0:8 #8:1) #8:1)"
	no := say("not", c)
	k.solves(1, func() { k.want(api.SatYes, a) })
	k.push()
	k.assert(a)
	k.solves(1, func() { k.want(api.SatYes, b) })
	k.assert(b)
	k.solves(1, func() { k.want(api.SatYes, c) })
	k.push()
	k.assert(c)
	k.solves(1, func() { k.want(api.SatNo, no) })
	k.pop()
	k.pop()
	k.solves(0, func() { k.want(api.SatYes, a) })
	k.solves(0, func() {
		k.push()
		k.assert(b, a, b)
		k.want(api.SatYes, c)
		k.want(api.SatYes, b)
		k.pop()
		k.push()
		k.assert(c, a)
		k.want(api.SatYes, b)
		k.assert("#1:1", no)
		k.want(api.SatNo, b)
		k.pop()
	})
	k.solves(2, func() {
		k.assert(b)
		k.want(api.SatYes, c)
		k.want(api.SatYes, no)
	})
}

// TestAlike: questions whose terms' numbers, one behind the other, have the same
// digits are not the same one.
func TestAlike(t *testing.T) {
	k := newKept(t)
	for n := range 130 {
		if id := k.get("v" + strconv.Itoa(n) + ":1"); id != n {
			t.Fatalf("Get = %d, want %d", id, n)
		}
	}
	for _, ids := range [][]int{{123}, {1, 23}, {1, 2, 3}, {12, 3}, {3, 12}, {1, 11}, {111}, {11, 1}, {1, 12}, {11, 2}, {112}, {0, 1}, {1, 0}, {10}, {1, 2}, {12}} {
		k.push()
		for _, id := range ids[1:] {
			k.assertNode(id)
		}
		if is, a := k.ask(ids[0], 10); is != api.SatYes {
			t.Errorf("%d: %d, %d", ids, is, a)
		}
		k.pop()
	}
}

// TestNewNodes: nodes that come into the store between calls.
func TestNewNodes(t *testing.T) {
	k := newKept(t)
	k.refuses(k.s.Len(), 5, api.ErrArg)
	next := k.s.Len()
	if id := k.get("v0:1"); id != next {
		t.Fatalf("Get = %d", id)
	}
	k.want(api.SatYes, "v0:1")
	k.assert("v0:1")
	k.want(api.SatYes, "(eq v1:8 #8:3)")
	k.want(api.SatNo, "(not v0:1)")
	k.get("(mul v2:64 v2:64)")
	k.solves(0, func() { k.want(api.SatYes, "(eq v1:8 #8:3)") })
	k.want(api.SatYes, "(ult (zext 9 v1:8) (concat v0:1 #8:1))")
	k.assert("(eq (add v1:8 v3:8) #8:255)")
	k.want(api.SatYes, "(eq v3:8 #8:9)")
	k.want(api.SatNo, "(eq v3:8 v1:8)")
}

// TestStays: what was answered is not changed by later calls, and who changes it
// changes nothing.
func TestStays(t *testing.T) {
	k := newKept(t)
	const x = "(ult (add v0:8 v2:8) (mul v1:8 v0:8))"
	first := k.want(api.SatYes, x)
	was := slices.Clone(first)
	second := k.want(api.SatYes, x)
	for n := range uint64(40) {
		k.want(api.SatYes, say("eq", "(add v0:8 (add v1:8 v2:8))", number(8, n)))
	}
	if !slices.Equal(first, was) || !slices.Equal(second, was) {
		t.Errorf("%d, %d, was %d", first, second, was)
	}
	clear(first)
	if third := k.want(api.SatYes, x); !slices.Equal(second, was) || !slices.Equal(third, was) {
		t.Errorf("%d, %d, was %d", second, third, was)
	}
	_ = append(second, 1, 2, 3)
	if !eval.True(k.s, k.get(x), was) {
		t.Errorf("%d", was)
	}
}
