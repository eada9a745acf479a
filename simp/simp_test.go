package simp_test

import (
	"math"
	"runtime/debug"
	"slices"
	"testing"

	"augury/api"
	"augury/eval"
	"augury/simp"
	"augury/term"
	"augury/text"
)

func TestExamples(t *testing.T) {
	m := newMaker(t)
	m.is("(xor (add v0:8 #8:0) v0:8)", "#8:0")
	m.is("(add (add #8:1 #8:2) v0:8)", "(add v0:8 #8:3)")
}

// TestBehindOthers: rules that fit only behind others, or with simple kids.
func TestBehindOthers(t *testing.T) {
	m := newMaker(t)
	m.get("(concat (concat v0:8 v1:8) v2:1)")
	for _, c := range []struct{ text, want string }{
		{"(not (not (not v0:8)))", "(not v0:8)"},
		{"(neg (neg (neg (neg v0:8))))", "v0:8"},
		{"(not (xor v0:8 #8:255))", "v0:8"},
		{"(not (xor #8:255 v0:8))", "v0:8"},
		{"(add #8:0 v0:8)", "v0:8"},
		{"(mul (add #8:0 #8:1) v0:8)", "v0:8"},
		{"(shl v0:8 (sub v1:8 v1:8))", "v0:8"},
		{"(sub (add v1:8 v0:8) (add v0:8 v1:8))", "#8:0"},
		{"(and (or v0:8 v0:8) (xor v0:8 #8:0))", "v0:8"},
		{"(eq (mul v0:8 v1:8) (mul v1:8 v0:8))", "#1:1"},
		{"(ult (mul v0:8 #8:1) (lshr #8:2 #8:1))", "(eq v0:8 #8:0)"},
		{"(eq (ult v0:8 #8:1) #1:0)", "(not (eq v0:8 #8:0))"},
		{"(eq #1:1 (eq #1:1 v2:1))", "v2:1"},
		{"(ite (not (not (not v2:1))) v0:8 v1:8)", "(ite v2:1 v1:8 v0:8)"},
		{"(ite (not v2:1) (not #1:0) (not #1:1))", "(not v2:1)"},
		{"(ite (eq v2:1 #1:0) #1:0 #1:1)", "v2:1"},
		{"(ite v2:1 (add v0:8 #8:0) (add #8:0 v0:8))", "v0:8"},
		{"(extract 0 8 (concat #8:1 (sub v0:8 #8:0)))", "v0:8"},
		{"(extract 1 2 (extract 2 5 (zext 16 (sext 12 v0:8))))", "(extract 3 2 v0:8)"},
		{"(extract 9 3 (concat (concat v0:8 v1:8) (concat v0:8 v1:8)))", "(extract 1 3 v0:8)"},
		{"(zext 32 (zext 16 (zext 8 v0:8)))", "(zext 32 v0:8)"},
		{"(sext 16 (sext 9 (or v0:8 v0:8)))", "(sext 16 v0:8)"},
		{"(urem (udiv v0:8 #8:1) (neg #8:255))", "#8:0"},
		{"(and (zext 16 v0:8) (concat (sub v1:8 v1:8) #8:0))", "#16:0"},
	} {
		m.is(c.text, c.want)
		m.is(c.want, c.want)
		id := m.get(c.text)
		m.simple(m.do(id))
		m.remembers(id)
	}
}

// TestCondition: an Ite whose condition is known, or comes to be, is one side;
// the other one's kids are gone through too.
func TestCondition(t *testing.T) {
	m := newMaker(t)
	m.get("v0:8")
	for _, c := range []struct{ text, want string }{
		{"(ite #1:1 v0:8 #8:7)", "v0:8"},
		{"(ite #1:0 v0:8 #8:7)", "#8:7"},
		{"(ite (eq v0:8 v0:8) (add #8:1 v0:8) v0:8)", "(add v0:8 #8:1)"},
		{"(ite (ult v0:8 #8:0) v0:8 (add #8:2 #8:3))", "#8:5"},
		{"(ite (eq (zext 16 v0:8) #16:256) v0:8 #8:7)", "#8:7"},
		{"(ite (not (eq (zext 16 v0:8) #16:256)) v0:8 #8:7)", "v0:8"},
		{"(ite (extract 7 1 (or v0:8 #8:128)) (not (not v0:8)) #8:7)", "v0:8"},
		{"(ite (not (ult v0:8 #8:0)) #1:1 #1:0)", "#1:1"},
	} {
		m.is(c.text, c.want)
	}
}

// TestOrder: kids are simplified from the first one on, so that of two that come
// to be new nodes the first one has the lesser number, and stays ahead.
func TestOrder(t *testing.T) {
	for _, c := range []struct{ text, want string }{
		{"(and (add #8:1 v0:8) (add #8:2 v0:8))", "(and (add v0:8 #8:1) (add v0:8 #8:2))"},
		{"(and (add #8:2 v0:8) (add #8:1 v0:8))", "(and (add v0:8 #8:2) (add v0:8 #8:1))"},
		{"(eq (or (add #8:2 v0:8) v1:8) (add #8:1 v0:8))", "(eq (or v1:8 (add v0:8 #8:2)) (add v0:8 #8:1))"},
		{"(xor (ite v2:1 (mul #8:3 v0:8) v0:8) (ite v2:1 v0:8 (mul #8:5 v0:8)))", "(xor (ite v2:1 (mul v0:8 #8:3) v0:8) (ite v2:1 v0:8 (mul v0:8 #8:5)))"},
	} {
		newMaker(t).is(c.text, c.want)
	}
}

// TestSimpleAlready: nodes that no rule fits, nor any below them.
func TestSimpleAlready(t *testing.T) {
	m := newMaker(t)
	m.get("(concat (concat v0:8 v1:8) v2:1)")
	for _, x := range []string{
		"v0:8",
		"#8:3",
		"(not v0:8)",
		"(neg (not v0:8))",
		"(and v0:8 #8:3)",
		"(or v0:8 v1:8)",
		"(xor v0:8 (and v0:8 #8:3))",
		"(add v0:8 v0:8)",
		"(sub #8:0 v0:8)",
		"(mul v0:8 #8:2)",
		"(udiv v0:8 v0:8)",
		"(urem v0:8 v0:8)",
		"(sdiv v0:8 #8:1)",
		"(srem v0:8 #8:1)",
		"(shl #8:1 v0:8)",
		"(lshr v1:8 v0:8)",
		"(ashr v0:8 #8:1)",
		"(eq v0:8 v1:8)",
		"(ult v1:8 v0:8)",
		"(slt v0:8 #8:0)",
		"(concat v1:8 v0:8)",
		"(extract 1 7 v0:8)",
		"(extract 1 8 (concat v1:8 v0:8))",
		"(zext 9 v0:8)",
		"(sext 16 (zext 9 v0:8))",
		"(ite v2:1 v1:8 v0:8)",
	} {
		m.is(x, x)
		m.simple(m.get(x))
	}
	if m.p.Done() != m.s.Len()-2 {
		t.Errorf("Done = %d, of %d nodes", m.p.Done(), m.s.Len())
	}
}

// consts is a text of constants for each Op that has kids, of all 2 bits.
func consts() []string {
	var l []string
	bits := []string{"#2:0", "#2:1", "#2:2", "#2:3"}
	for _, x := range bits {
		l = append(l, say("not", x), say("neg", x), say("extract", 1, 1, x), say("extract", 0, 2, x),
			say("zext", 5, x), say("sext", 5, x), say("zext", 2, x), say("sext", 64, x))
		for _, y := range bits {
			for _, o := range slices.Concat(ofTwo, oneBit) {
				l = append(l, say(text.Name(o), x, y))
			}
			l = append(l, say("concat", x, y), say("ite", "#1:0", x, y), say("ite", "#1:1", x, y))
		}
	}
	return l
}

// TestConsts: of a term without variables it is a Const, of the same vector.
func TestConsts(t *testing.T) {
	m := newMaker(t)
	check := func(x string) {
		id := m.get(x)
		b, e := eval.Eval(m.s, id, nil)
		if e != api.OK {
			t.Fatalf("Eval(%s): %d", x, e)
		}
		if n := m.node(m.do(id)); n != (api.Node{Op: api.Const, W: b.W, N: b.N}) {
			t.Errorf("Do(%s): %v, want %v", x, n, b)
		}
	}
	for _, x := range consts() {
		check(x)
		check(say("not", say("ite", say("eq", x, x), x, say("neg", x))))
	}
}

// TestDrawn: of drawn terms, as the words say; the same vector; simple; its own;
// without variables a Const. Each rule is done.
func TestDrawn(t *testing.T) {
	d := newDrawer(1)
	var met [10]int
	var noVars int
	for range 150 {
		clear(d.drawn)
		m, twin := newMaker(t), words{maker: newMaker(t), done: map[int]int{}}
		for range 12 {
			x := d.term([]int{1, 2, 8, 9, 33, 64}[d.Intn(6)], 5)
			if len(x) > 10000 {
				continue
			}
			id, at := m.get(x), twin.get(x)
			to := m.do(id)
			if want := twin.simplify(at); m.node(to) != twin.node(want) || m.s.Len() != twin.s.Len() {
				t.Fatalf("Do(%s) = %d, want %d", x, to, want)
			}
			if vars, _ := m.s.Vars(id); len(vars) == 0 {
				noVars++
				if m.node(to).Op != api.Const {
					t.Errorf("Do(%s) = %d, %v", x, to, m.node(to))
				}
			}
			for range 6 {
				m.alike(id, to, d.assign())
			}
			m.simple(to)
			m.remembers(id)
		}
		if !slices.Equal(m.nodes(), twin.nodes()) {
			t.Fatalf("nodes %v, want %v", m.nodes(), twin.nodes())
		}
		for n, count := range twin.met {
			met[n] += count
		}
	}
	for n, count := range met {
		if count < 20 {
			t.Errorf("rule %d: %d times", n, count)
		}
	}
	if noVars < 20 {
		t.Errorf("%d terms without variables", noVars)
	}
}

// TestDone: how many nodes are remembered, from a new one on.
func TestDone(t *testing.T) {
	m := newMaker(t)
	// The first node is below none of the others, so that it isn't remembered.
	m.get("#3:5")
	ids := []int{m.get("v0:8"), m.get("#8:0"), m.get("v1:8"), m.get("(add v0:8 v1:8)"), m.get("(not (add v0:8 v1:8))"), m.get("(udiv v1:8 v1:8)")}
	if m.p.Done() != 0 {
		t.Errorf("Done of a new one = %d", m.p.Done())
	}
	for _, c := range []struct{ id, want int }{
		{ids[0], 1}, {ids[0], 1}, {ids[4], 4}, {ids[3], 4}, {ids[0], 4}, {ids[2], 4}, {ids[5], 5}, {ids[1], 6}, {ids[4], 6},
	} {
		if to := m.do(c.id); to != c.id || m.p.Done() != c.want {
			t.Errorf("Do(%d) = %d: Done = %d, want %d", c.id, to, m.p.Done(), c.want)
		}
	}
	// Two nodes that come to be others are remembered beside all below them.
	m.do(m.get("(sub (add v0:8 #8:0) #8:0)"))
	if is := m.p.Done(); is < 8 || is > m.s.Len() {
		t.Errorf("Done = %d, of %d nodes", is, m.s.Len())
	}
	if q := over(t, m.s); q.Done() != 0 {
		t.Errorf("Done of another one = %d", q.Done())
	}
}

// TestAgain: the same node has the same answer, behind others too, and goes
// through nothing again.
func TestAgain(t *testing.T) {
	d := newDrawer(3)
	m := newMaker(t)
	was := map[int]int{}
	var ids []int
	for range 40 {
		id := m.get(d.term(8, 4))
		ids = append(ids, id)
		was[id] = m.do(id)
		m.remembers(id)
	}
	done, long := m.p.Done(), m.s.Len()
	for _, i := range d.Perm(len(ids)) {
		if to := m.do(ids[i]); to != was[ids[i]] {
			t.Errorf("Do(%d) = %d, was %d", ids[i], to, was[ids[i]])
		}
	}
	if m.p.Done() != done || m.s.Len() != long {
		t.Errorf("Done = %d, Len = %d, were %d, %d", m.p.Done(), m.s.Len(), done, long)
	}
	// Another one over the same store, which is asked in another order.
	m.p = over(t, m.s)
	for _, i := range d.Perm(len(ids)) {
		if to := m.do(ids[i]); to != was[ids[i]] {
			t.Errorf("Do(%d) = %d, of another one %d", ids[i], was[ids[i]], to)
		}
	}
}

// chain is what so many nodes above id come to, each of which above makes of the
// one below it.
func (m maker) chain(long, id int, above func(m maker, id int) int) int {
	m.Helper()
	for range long {
		id = above(m, id)
	}
	return id
}

// itself is what a chain comes to whose nodes are all none but the first one.
func itself(m maker, id int) int { return id }

// TestShared: as a tree these have no end.
func TestShared(t *testing.T) {
	const v, none, c = 0, 1, 2
	for _, test := range []struct {
		what     string
		isSimple bool
		above    func(m maker, x int) int
	}{
		{"add", true, func(m maker, x int) int { return m.of(api.Add, x, x) }},
		{"mul", true, func(m maker, x int) int { return m.of(api.Mul, x, x) }},
		{"udiv", true, func(m maker, x int) int { return m.of(api.Udiv, x, x) }},
		{"ite", true, func(m maker, x int) int { return m.of(api.Ite, c, x, m.of(api.Neg, x)) }},
		{"same sides", false, func(m maker, x int) int { return m.of(api.Ite, c, x, x) }},
		{"and", false, func(m maker, x int) int { return m.of(api.And, x, x) }},
		{"or of and", false, func(m maker, x int) int { return m.of(api.Or, x, m.of(api.And, x, x)) }},
		{"xor of or", false, func(m maker, x int) int { return m.of(api.Xor, none, m.of(api.Or, none, x)) }},
	} {
		m := newMaker(t)
		for id, x := range []string{v: "v0:8", none: "#8:0", c: "v1:1"} {
			if m.get(x) != id {
				t.Fatalf("%s isn't node %d", x, id)
			}
		}
		id := m.chain(1000, v, test.above)
		want := v
		if test.isSimple {
			want = id
		}
		if to := m.do(id); to != want {
			t.Errorf("%s: Do(%d) = %d, want %d", test.what, id, to, want)
		}
		m.remembers(id)
	}
}

// TestLong: a chain may be as long as a store has nodes. No calls within calls
// grow with it.
func TestLong(t *testing.T) {
	defer debug.SetMaxStack(debug.SetMaxStack(1 << 20))
	const (
		v, u, c, all = 0, 1, 2, 3
		whole        = api.MaxNodes - 8
	)
	for _, test := range []struct {
		what           string
		long           int
		above, becomes func(m maker, x int) int
	}{
		{"not", whole, func(m maker, x int) int { return m.of(api.Not, x) }, itself},
		{"xor with all ones", whole, func(m maker, x int) int { return m.of(api.Xor, x, all) }, itself},
		{"sub", whole, func(m maker, x int) int { return m.of(api.Sub, x, v) }, nil},
		{"sub of it", whole, func(m maker, x int) int { return m.of(api.Sub, v, x) }, nil},
		{"udiv", whole, func(m maker, x int) int { return m.of(api.Udiv, x, v) }, nil},
		{"add", 60000, func(m maker, x int) int { return m.of(api.Add, x, v) }, func(m maker, x int) int { return m.of(api.Add, v, x) }},
		{"xor", 60000, func(m maker, x int) int { return m.of(api.Xor, x, v) }, func(m maker, x int) int { return m.of(api.Xor, v, x) }},
		{"and", 1500, func(m maker, x int) int { return m.of(api.And, x, v) }, func(m maker, x int) int { return m.of(api.And, v, x) }},
		{"ite", 1500, func(m maker, x int) int { return m.of(api.Ite, c, v, x) }, nil},
	} {
		m := newMaker(t)
		for id, x := range []string{v: "v0:8", u: "v1:8", c: "v2:1", all: "#8:255"} {
			if m.get(x) != id {
				t.Fatalf("%s isn't node %d", x, id)
			}
		}
		id := m.chain(test.long, u, test.above)
		want := id
		to := m.do(id)
		if test.becomes != nil {
			want = m.chain(test.long, u, test.becomes)
		}
		if to != want {
			t.Errorf("%s: Do(%d) = %d, want %d", test.what, id, to, want)
		}
		if done := m.p.Done(); done <= test.long || done > m.s.Len() {
			t.Errorf("%s: Done = %d, of %d nodes", test.what, done, m.s.Len())
		}
	}
}

// TestRoom: a Do that needs more nodes than there is room for answers ErrLimit,
// as often as it is asked, and what is remembered stays as it was; as soon as
// there is room it answers.
func TestRoom(t *testing.T) {
	for _, c := range []struct {
		text, want string
		needs      int
	}{
		{"(add #8:1 v0:8)", "(add v0:8 #8:1)", 1},
		{"(add #8:1 #8:2)", "#8:3", 1},
		{"(xor v0:8 (or v0:8 v0:8))", "#8:0", 2},
		{"(ite (not (ult v0:8 #8:1)) #1:1 #1:0)", "(not (eq v0:8 #8:0))", 5},
		{"(add (add (add #8:1 #8:2) v0:8) (sub v1:8 #8:0))", "(add v1:8 (add v0:8 #8:3))", 5},
	} {
		for room := range c.needs + 1 {
			m := newMaker(t)
			m.get("v0:8")
			ahead, id := m.get("(neg (or v0:8 v1:8))"), m.get(c.text)
			m.do(ahead)
			m.fill(room)
			if room < c.needs {
				m.refuses(id, api.ErrLimit)
				m.refuses(id, api.ErrLimit)
				if m.s.Len() != api.MaxNodes {
					t.Errorf("room %d: Do(%s): %d nodes", room, c.text, m.s.Len())
				}
			} else {
				m.is(c.text, c.want)
				m.remembers(id)
			}
			m.remembers(ahead)
		}
	}
}

// TestFull: what a full store leaves to be done is done behind an ErrLimit too:
// of what is remembered, of what is below the one refused, of others.
func TestFull(t *testing.T) {
	m := newMaker(t)
	rows := []struct{ text, want string }{
		{"v0:8", "v0:8"},
		{"#8:0", "#8:0"},
		{"(udiv v0:8 v1:8)", "(udiv v0:8 v1:8)"},
		{"(add (udiv v0:8 v1:8) #8:0)", "(udiv v0:8 v1:8)"},
		{"(not (not (not v0:8)))", "(not v0:8)"},
		{"(xor v0:8 v0:8)", "#8:0"},
		{"(ite #1:1 v0:8 v1:8)", "v0:8"},
		{"(add #8:5 v0:8)", "(add v0:8 #8:5)"},
	}
	var ids, wants []int
	for _, c := range rows {
		ids, wants = append(ids, m.get(c.text)), append(wants, m.get(c.want))
	}
	refused := []int{m.get("(and (add (udiv v0:8 v1:8) #8:0) (add #8:9 v1:8))"), m.get("(not (mul v1:8 v0:8))")}
	before := m.do(m.get("(sub (urem v0:8 v1:8) #8:0)"))
	m.fill(0)
	was := m.nodes()
	for range 2 {
		for _, id := range refused {
			m.refuses(id, api.ErrLimit)
		}
		for i, c := range rows {
			if to := m.do(ids[i]); to != wants[i] {
				t.Errorf("Do(%s) = %d, want %d", c.text, to, wants[i])
			}
			m.remembers(ids[i])
		}
		if to := m.do(m.get("(sub (urem v0:8 v1:8) #8:0)")); to != before {
			t.Errorf("Do = %d, was %d", to, before)
		}
	}
	if !slices.Equal(was, m.nodes()) {
		t.Error("other nodes than there were")
	}
}

// notThere is numbers of nodes that a store doesn't have.
func notThere(s *term.Store) []int {
	return []int{math.MinInt, math.MinInt32, -256, -1, s.Len(), s.Len() + 1, api.MaxNodes, 1 << 31, 1 << 32, 1<<32 + 1, math.MaxInt}
}

// TestNotThere: numbers that no node has.
func TestNotThere(t *testing.T) {
	m := newMaker(t)
	for _, x := range []string{"", "v0:8", "(not (add #8:1 v0:8))"} {
		if x != "" {
			m.do(m.get(x))
		}
		was := m.s.Len()
		for _, id := range notThere(m.s) {
			m.refuses(id, api.ErrArg)
		}
		if m.s.Len() != was {
			t.Errorf("%d nodes, were %d", m.s.Len(), was)
		}
	}
	m.fill(0)
	for _, id := range notThere(m.s) {
		m.refuses(id, api.ErrArg)
	}
}

// TestNone: a store and a Simp that are not there, or that no call made.
func TestNone(t *testing.T) {
	for what, s := range map[string]*term.Store{"nil": nil, "zero": {}} {
		if p, e := simp.New(s); p != nil || e != api.ErrNil {
			t.Errorf("%s: New = %v, %d", what, p, e)
		}
	}
	for what, p := range map[string]*simp.Simp{"nil": nil, "zero": {}} {
		for _, id := range []int{math.MinInt, -1, 0, 1, api.MaxNodes, math.MaxInt} {
			if to, e := p.Do(id); to != 0 || e != api.ErrNil {
				t.Errorf("%s: Do(%d) = %d, %d", what, id, to, e)
			}
		}
		if p.Done() != 0 {
			t.Errorf("%s: Done = %d", what, p.Done())
		}
	}
}

// TestBehindNew: nodes that were made in the store behind New, by others too.
func TestBehindNew(t *testing.T) {
	m := newMaker(t)
	m.refuses(0, api.ErrArg)
	m.is("(add #8:1 v0:8)", "(add v0:8 #8:1)")
	other := m
	other.p = over(t, m.s)
	other.is("(mul (add #8:1 v0:8) #8:1)", "(add v0:8 #8:1)")
	m.is("(not (not (mul (add #8:1 v0:8) #8:1)))", "(add v0:8 #8:1)")
	m.is("(xor v1:8 (add #8:1 v0:8))", "(xor (add v0:8 #8:1) v1:8)")
}

// TestStays: what was made stays; a store that was given the same comes to have
// the same nodes, and the same answers, whatever is asked of another one.
func TestStays(t *testing.T) {
	m, twin, other := newMaker(t), newMaker(t), newMaker(t)
	d := newDrawer(4)
	for range 30 {
		x := d.term(9, 4)
		id := m.get(x)
		twin.get(x)
		was := m.nodes()
		to := m.do(id)
		other.do(other.get(d.term(8, 3)))
		if again := twin.do(id); again != to {
			t.Errorf("Do(%s) = %d, in a store of the same %d", x, to, again)
		}
		if !slices.Equal(was, m.nodes()[:len(was)]) {
			t.Fatalf("Do(%s): other nodes than there were", x)
		}
	}
	if !slices.Equal(m.nodes(), twin.nodes()) || m.p.Done() != twin.p.Done() {
		t.Errorf("Done = %d and %d, of %d and %d nodes", m.p.Done(), twin.p.Done(), m.s.Len(), twin.s.Len())
	}
}
