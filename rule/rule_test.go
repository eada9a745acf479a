package rule_test

import (
	"math"
	"math/rand"
	"slices"
	"strconv"
	"strings"
	"testing"

	"augury/api"
	"augury/rule"
	"augury/term"
)

// row is a node's text, what it steps to, and by which rule; an empty want is
// the node itself.
type row struct {
	from string
	rule int
	want string
}

// hold reports rows that are not so, in a store in which there are, in this
// order, v0 and v1 of 8 bits, v2 and v3 of 1, v4 of 16.
func hold(t *testing.T, rows []row) {
	t.Helper()
	for _, c := range rows {
		m := newMaker(t)
		for n, w := range []int{8, 8, 1, 1, 16} {
			m.variable(w, n)
		}
		id := m.get(c.from)
		if c.want == "" {
			c.want = c.from
		}
		to, n, e := rule.Step(m.s, id)
		if e != api.OK || n != c.rule || m.put(to) != c.want {
			t.Errorf("Step(%s) = %s, %d, %d, want %s, %d", c.from, m.put(to), n, e, c.want, c.rule)
		}
		m.as(id)
	}
}

func TestExamples(t *testing.T) {
	m := newMaker(t)
	v, one := m.variable(8, 0), m.constant(8, 1)
	for _, c := range []struct {
		id   int
		want string
		rule int
	}{
		{m.op(api.Add, 8, one, v), "(add v0:8 #8:1)", 3},
		{m.op(api.Add, 8, v, m.constant(8, 0)), "v0:8", 4},
		{m.op(api.Xor, 8, v, v), "#8:0", 5},
		{m.part(0, 8, v), "v0:8", 8},
		{m.op(api.Add, 8, v, one), "(add v0:8 #8:1)", 0},
	} {
		to, n, e := rule.Step(m.s, c.id)
		if m.put(to) != c.want || n != c.rule || e != api.OK {
			t.Errorf("Step(%d) = %s, %d, %d, want %s, %d", c.id, m.put(to), n, e, c.want, c.rule)
		}
	}
}

// TestNoKids: a Const, a Var: of what has no kids nothing is made.
func TestNoKids(t *testing.T) {
	hold(t, []row{
		{"v0:8", 0, ""}, {"v2:1", 0, ""}, {"v9:63", 0, ""}, {"v9:64", 0, ""},
		{"#8:0", 0, ""}, {"#8:5", 0, ""}, {"#1:0", 0, ""}, {"#1:1", 0, ""},
		{"#63:1", 0, ""}, {"#64:18446744073709551615", 0, ""},
	})
}

// TestConsts: rule 1, which is ahead of all others.
func TestConsts(t *testing.T) {
	hold(t, []row{
		{"(not #8:5)", 1, "#8:250"},
		{"(neg #8:5)", 1, "#8:251"},
		{"(and #4:12 #4:10)", 1, "#4:8"},
		{"(or #4:12 #4:10)", 1, "#4:14"},
		{"(xor #4:12 #4:10)", 1, "#4:6"},
		{"(add #8:200 #8:100)", 1, "#8:44"},
		{"(sub #8:1 #8:2)", 1, "#8:255"},
		{"(mul #8:20 #8:20)", 1, "#8:144"},
		{"(udiv #8:7 #8:2)", 1, "#8:3"},
		{"(udiv #8:7 #8:0)", 1, "#8:255"},
		{"(urem #8:7 #8:4)", 1, "#8:3"},
		{"(urem #8:7 #8:0)", 1, "#8:7"},
		{"(sdiv #8:249 #8:2)", 1, "#8:253"},
		{"(sdiv #4:8 #4:15)", 1, "#4:8"},
		{"(srem #8:249 #8:4)", 1, "#8:253"},
		{"(shl #8:129 #8:1)", 1, "#8:2"},
		{"(lshr #8:129 #8:1)", 1, "#8:64"},
		{"(ashr #8:129 #8:1)", 1, "#8:192"},
		{"(ashr #4:8 #4:9)", 1, "#4:15"},
		{"(eq #8:1 #8:1)", 1, "#1:1"},
		{"(eq #8:1 #8:2)", 1, "#1:0"},
		{"(ult #8:1 #8:255)", 1, "#1:1"},
		{"(slt #8:1 #8:255)", 1, "#1:0"},
		{"(concat #4:1 #4:2)", 1, "#8:18"},
		{"(extract 4 4 #8:18)", 1, "#4:1"},
		{"(zext 8 #4:9)", 1, "#8:9"},
		{"(sext 8 #4:9)", 1, "#8:249"},
		{"(ite #1:1 v0:8 v1:8)", 1, "v0:8"},
		{"(ite #1:0 v0:8 v1:8)", 1, "v1:8"},
		{"(ite #1:1 #8:3 #8:4)", 1, "#8:3"},
		{"(ite #1:0 #8:3 v1:8)", 1, "v1:8"},
		// Ahead of each of the others.
		{"(and #8:12 #8:0)", 1, "#8:0"},
		{"(mul #8:3 #8:0)", 1, "#8:0"},
		{"(eq #8:5 #8:4)", 1, "#1:0"},
		{"(add #8:5 #8:0)", 1, "#8:5"},
		{"(xor #8:5 #8:255)", 1, "#8:250"},
		{"(udiv #8:5 #8:1)", 1, "#8:5"},
		{"(urem #8:5 #8:1)", 1, "#8:0"},
		{"(sub #8:5 #8:5)", 1, "#8:0"},
		{"(and #8:5 #8:5)", 1, "#8:5"},
		{"(ult #8:5 #8:5)", 1, "#1:0"},
		{"(slt #8:5 #8:5)", 1, "#1:0"},
		{"(ite #1:1 v0:8 v0:8)", 1, "v0:8"},
		{"(ite #1:0 #8:5 #8:5)", 1, "#8:5"},
		{"(ite #1:1 #1:1 #1:0)", 1, "#1:1"},
		{"(ite #1:0 #1:1 #1:0)", 1, "#1:0"},
		{"(ite #1:0 #1:0 #1:1)", 1, "#1:1"},
		{"(extract 0 8 #8:5)", 1, "#8:5"},
		{"(zext 8 #8:5)", 1, "#8:5"},
		{"(sext 8 #8:5)", 1, "#8:5"},
		{"(eq #1:1 #1:1)", 1, "#1:1"},
		{"(eq #1:1 #1:0)", 1, "#1:0"},
		{"(eq #1:0 #1:0)", 1, "#1:1"},
		{"(ult #8:5 #8:0)", 1, "#1:0"},
		{"(ult #8:0 #8:1)", 1, "#1:1"},
		// By what is not a Const, though all its bits are known, it doesn't fit.
		{"(ite (not #1:1) v0:8 v1:8)", 7, "(ite #1:1 v1:8 v0:8)"},
		{"(ite (and v2:1 #1:0) v0:8 v1:8)", 0, ""},
		{"(neg (not #8:5))", 0, ""},
		{"(neg (neg #8:5))", 6, "#8:5"},
	})
}

// TestKnownBits: rule 2, which is ahead of 3 to 9.
func TestKnownBits(t *testing.T) {
	hold(t, []row{
		{"(shl v0:8 #8:8)", 2, "#8:0"},
		{"(lshr v0:8 #8:255)", 2, "#8:0"},
		{"(ashr (not #8:5) #8:1)", 2, "#8:253"},
		{"(mul (shl v0:8 #8:4) (shl v0:8 #8:8))", 2, "#8:0"},
		{"(add (shl v0:8 #8:8) (shl v1:8 #8:9))", 2, "#8:0"},
		{"(sub (shl v0:8 #8:8) (shl v1:8 #8:9))", 2, "#8:0"},
		{"(concat (not #4:5) #4:1)", 2, "#8:161"},
		{"(and (not #8:5) #8:15)", 2, "#8:10"},
		{"(or (not #8:5) #8:1)", 2, "#8:251"},
		{"(or (or v0:8 #8:240) (or v1:8 #8:15))", 2, "#8:255"},
		{"(eq (or v0:8 #8:1) #8:2)", 2, "#1:0"},
		{"(eq (or v0:8 #8:1) (and v1:8 #8:254))", 2, "#1:0"},
		{"(eq (not #8:5) #8:250)", 2, "#1:1"},
		{"(extract 8 8 (zext 16 v0:8))", 2, "#8:0"},
		{"(extract 0 4 (or v0:8 #8:15))", 2, "#4:15"},
		{"(zext 16 (not #8:5))", 2, "#16:250"},
		{"(sext 16 (not #8:5))", 2, "#16:65530"},
		// Where of a choice only one side is left, or both are the same.
		{"(ite (not #1:1) v0:8 #8:5)", 2, "#8:5"},
		{"(ite (and v2:1 #1:0) v0:8 #8:5)", 2, "#8:5"},
		{"(ite (or v2:1 #1:1) #8:5 v0:8)", 2, "#8:5"},
		{"(ite v2:1 (not #8:5) #8:250)", 2, "#8:250"},
		// Ahead of each of the others.
		{"(and #8:0 v0:8)", 2, "#8:0"},
		{"(or #8:255 v0:8)", 2, "#8:255"},
		{"(mul #8:0 v0:8)", 2, "#8:0"},
		{"(eq #8:2 (or v0:8 #8:1))", 2, "#1:0"},
		{"(and #8:12 (not #8:5))", 2, "#8:8"},
		{"(and v0:8 #8:0)", 2, "#8:0"},
		{"(or v0:8 #8:255)", 2, "#8:255"},
		{"(mul v0:8 #8:0)", 2, "#8:0"},
		{"(xor (not #8:5) #8:255)", 2, "#8:5"},
		{"(shl (not #8:5) #8:0)", 2, "#8:250"},
		{"(and (not #8:5) (not #8:5))", 2, "#8:250"},
		{"(xor (not #8:5) (not #8:5))", 2, "#8:0"},
		{"(eq (not #8:5) (not #8:5))", 2, "#1:1"},
		{"(ite v2:1 #8:5 #8:5)", 2, "#8:5"},
		{"(ite (not v2:1) #8:5 #8:5)", 2, "#8:5"},
		{"(ite (not #1:0) #1:1 #1:0)", 2, "#1:1"},
		{"(not (not #8:5))", 2, "#8:5"},
		{"(extract 4 2 (extract 2 6 (and v0:8 #8:15)))", 2, "#2:0"},
		{"(extract 4 2 (zext 16 (and v0:8 #8:15)))", 2, "#2:0"},
		{"(extract 0 8 (not #8:5))", 2, "#8:250"},
		{"(extract 1 2 (concat v0:8 (not #8:5)))", 2, "#2:1"},
		{"(zext 8 (not #8:5))", 2, "#8:250"},
		{"(zext 32 (zext 16 (not #8:5)))", 2, "#32:250"},
		{"(eq (not #1:0) #1:1)", 2, "#1:1"},
		{"(eq (and v2:1 #1:0) #1:0)", 2, "#1:1"},
		// Where not all bits are known it doesn't fit.
		{"(shl v0:8 #8:7)", 0, ""},
		{"(or v0:8 #8:254)", 0, ""},
		{"(and v0:8 #8:1)", 0, ""},
		{"(ult (not #8:5) #8:250)", 0, ""},
		{"(ite (and v2:1 #1:0) #8:5 v0:8)", 0, ""},
		{"(add (not #8:5) #8:1)", 0, ""},
	})
}

// TestOtherWayRound: rule 3, which is ahead of 4 to 9.
func TestOtherWayRound(t *testing.T) {
	for _, o := range turning {
		hold(t, []row{
			{"(" + o + " #8:6 v0:8)", 3, "(" + o + " v0:8 #8:6)"},
			{"(" + o + " #8:6 (neg v0:8))", 3, "(" + o + " (neg v0:8) #8:6)"},
			{"(" + o + " v1:8 v0:8)", 3, "(" + o + " v0:8 v1:8)"},
			{"(" + o + " (neg v0:8) v0:8)", 3, "(" + o + " v0:8 (neg v0:8))"},
			{"(" + o + " v3:1 v2:1)", 3, "(" + o + " v2:1 v3:1)"},
			{"(" + o + " v0:8 #8:6)", 0, ""},
			{"(" + o + " v0:8 v1:8)", 0, ""},
			{"(" + o + " v0:8 (neg v0:8))", 0, ""},
		})
	}
	for _, o := range []string{"sub", "udiv", "urem", "sdiv", "srem", "shl", "lshr", "ashr", "ult", "slt", "concat"} {
		hold(t, []row{
			{"(" + o + " #8:6 v0:8)", 0, ""},
			{"(" + o + " v1:8 v0:8)", 0, ""},
			{"(" + o + " (neg v0:8) v0:8)", 0, ""},
		})
	}
	// Ahead of others that would fit it, or its way round.
	hold(t, []row{
		{"(and #8:255 v0:8)", 3, "(and v0:8 #8:255)"},
		{"(or #8:0 v0:8)", 3, "(or v0:8 #8:0)"},
		{"(xor #8:0 v0:8)", 3, "(xor v0:8 #8:0)"},
		{"(xor #8:255 v0:8)", 3, "(xor v0:8 #8:255)"},
		{"(add #8:0 v0:8)", 3, "(add v0:8 #8:0)"},
		{"(mul #8:1 v0:8)", 3, "(mul v0:8 #8:1)"},
		{"(eq #1:1 v2:1)", 3, "(eq v2:1 #1:1)"},
		{"(eq #1:0 v2:1)", 3, "(eq v2:1 #1:0)"},
		{"(sub #8:0 v0:8)", 0, ""},
		{"(shl #8:0 v0:8)", 0, ""},
		{"(udiv #8:1 v0:8)", 0, ""},
	})
}

// TestOrderOfKids: a Const stands behind, whatever its number; of others the
// lesser number is ahead, whatever else they are.
func TestOrderOfKids(t *testing.T) {
	m := newMaker(t)
	early := m.constant(8, 9)
	v := m.variable(8, 0)
	late := m.constant(8, 3)
	not := m.op(api.Not, 8, v)
	u := m.variable(8, 1)
	for _, c := range []struct{ first, second, rule int }{
		{early, v, 3}, {early, not, 3}, {late, v, 3}, {late, not, 3}, {late, u, 3}, {early, u, 3},
		{v, early, 0}, {v, late, 0}, {not, early, 0}, {not, late, 0}, {u, early, 0}, {u, late, 0},
		{not, v, 3}, {u, v, 3}, {u, not, 3},
		{v, not, 0}, {v, u, 0}, {not, u, 0},
	} {
		for _, o := range []api.Op{api.And, api.Or, api.Xor, api.Add, api.Mul, api.Eq} {
			w := 8
			if o == api.Eq {
				w = 1
			}
			id := m.op(o, w, c.first, c.second)
			to, n, e := rule.Step(m.s, id)
			want := id
			if c.rule == 3 {
				want = m.op(o, w, c.second, c.first)
			}
			if to != want || n != c.rule || e != api.OK {
				t.Errorf("Step of Op %d of %d and %d = %d, %d, %d, want %d, %d", o, c.first, c.second, to, n, e, want, c.rule)
			}
		}
	}
}

// TestWithConst: rule 4.
func TestWithConst(t *testing.T) {
	hold(t, []row{
		{"(and v0:8 #8:255)", 4, "v0:8"},
		{"(or v0:8 #8:0)", 4, "v0:8"},
		{"(xor v0:8 #8:0)", 4, "v0:8"},
		{"(xor v0:8 #8:255)", 4, "(not v0:8)"},
		{"(add v0:8 #8:0)", 4, "v0:8"},
		{"(sub v0:8 #8:0)", 4, "v0:8"},
		{"(shl v0:8 #8:0)", 4, "v0:8"},
		{"(lshr v0:8 #8:0)", 4, "v0:8"},
		{"(ashr v0:8 #8:0)", 4, "v0:8"},
		{"(mul v0:8 #8:1)", 4, "v0:8"},
		{"(udiv v0:8 #8:1)", 4, "v0:8"},
		{"(urem v0:8 #8:1)", 4, "#8:0"},
		{"(xor (not v0:8) #8:255)", 4, "(not (not v0:8))"},
		{"(add (add v0:8 #8:0) #8:0)", 4, "(add v0:8 #8:0)"},
		{"(urem (neg v0:8) #8:1)", 4, "#8:0"},
		// With other numbers, other Ops, or what is 0 and no Const.
		{"(and v0:8 #8:127)", 0, ""},
		{"(or v0:8 #8:1)", 0, ""},
		{"(xor v0:8 #8:1)", 0, ""},
		{"(xor v0:8 #8:127)", 0, ""},
		{"(add v0:8 #8:1)", 0, ""},
		{"(add v0:8 #8:255)", 0, ""},
		{"(sub v0:8 #8:1)", 0, ""},
		{"(sub v0:8 #8:255)", 0, ""},
		{"(shl v0:8 #8:1)", 0, ""},
		{"(lshr v0:8 #8:1)", 0, ""},
		{"(ashr v0:8 #8:1)", 0, ""},
		{"(ashr v0:8 #8:255)", 0, ""},
		{"(mul v0:8 #8:2)", 0, ""},
		{"(mul v0:8 #8:255)", 0, ""},
		{"(udiv v0:8 #8:0)", 0, ""},
		{"(udiv v0:8 #8:2)", 0, ""},
		{"(udiv v0:8 #8:255)", 0, ""},
		{"(urem v0:8 #8:0)", 0, ""},
		{"(urem v0:8 #8:2)", 0, ""},
		{"(sdiv v0:8 #8:1)", 0, ""},
		{"(srem v0:8 #8:1)", 0, ""},
		{"(sdiv v0:8 #8:255)", 0, ""},
		{"(sdiv v0:8 #8:0)", 0, ""},
		{"(srem v0:8 #8:0)", 0, ""},
		{"(concat v0:8 #8:0)", 0, ""},
		{"(slt v0:8 #8:0)", 0, ""},
		{"(or v0:8 (and v1:8 #8:0))", 0, ""},
		{"(add v0:8 (and v1:8 #8:0))", 0, ""},
		{"(and v0:8 (or v1:8 #8:255))", 0, ""},
		{"(udiv v0:8 (not #8:254))", 0, ""},
	})
}

// TestWithItself: rule 5, which is ahead of 7 and 9.
func TestWithItself(t *testing.T) {
	hold(t, []row{
		{"(and v0:8 v0:8)", 5, "v0:8"},
		{"(or v0:8 v0:8)", 5, "v0:8"},
		{"(xor v0:8 v0:8)", 5, "#8:0"},
		{"(sub v0:8 v0:8)", 5, "#8:0"},
		{"(eq v0:8 v0:8)", 5, "#1:1"},
		{"(ult v0:8 v0:8)", 5, "#1:0"},
		{"(slt v0:8 v0:8)", 5, "#1:0"},
		{"(ite v2:1 v0:8 v0:8)", 5, "v0:8"},
		{"(and v2:1 v2:1)", 5, "v2:1"},
		{"(or v2:1 v2:1)", 5, "v2:1"},
		{"(xor v2:1 v2:1)", 5, "#1:0"},
		{"(sub v2:1 v2:1)", 5, "#1:0"},
		{"(eq v2:1 v2:1)", 5, "#1:1"},
		{"(ult v2:1 v2:1)", 5, "#1:0"},
		{"(slt v2:1 v2:1)", 5, "#1:0"},
		{"(ite v2:1 v2:1 v2:1)", 5, "v2:1"},
		{"(sub (not #8:5) (not #8:5))", 5, "#8:0"},
		{"(and (neg (neg v0:8)) (neg (neg v0:8)))", 5, "(neg (neg v0:8))"},
		{"(ite (not v2:1) v0:8 v0:8)", 5, "v0:8"},
		{"(ite (not v2:1) (add v0:8 #8:0) (add v0:8 #8:0))", 5, "(add v0:8 #8:0)"},
		{"(ite v2:1 (ite v3:1 v0:8 v1:8) (ite v3:1 v0:8 v1:8))", 5, "(ite v3:1 v0:8 v1:8)"},
		// Other Ops, and kids that are the same only under each assignment.
		{"(add v0:8 v0:8)", 0, ""},
		{"(mul v0:8 v0:8)", 0, ""},
		{"(udiv v0:8 v0:8)", 0, ""},
		{"(urem v0:8 v0:8)", 0, ""},
		{"(sdiv v0:8 v0:8)", 0, ""},
		{"(srem v0:8 v0:8)", 0, ""},
		{"(shl v0:8 v0:8)", 0, ""},
		{"(lshr v0:8 v0:8)", 0, ""},
		{"(ashr v0:8 v0:8)", 0, ""},
		{"(concat v0:8 v0:8)", 0, ""},
		{"(sub v0:8 (not (not v0:8)))", 0, ""},
		{"(ult v0:8 (zext 8 v0:8))", 0, ""},
		{"(ite v2:1 v2:1 v3:1)", 0, ""},
		{"(ite v2:1 v3:1 v2:1)", 0, ""},
	})
}

// TestDoneTwice: rule 6.
func TestDoneTwice(t *testing.T) {
	hold(t, []row{
		{"(not (not v0:8))", 6, "v0:8"},
		{"(neg (neg v0:8))", 6, "v0:8"},
		{"(not (not (not v0:8)))", 6, "(not v0:8)"},
		{"(neg (neg (neg (neg v0:8))))", 6, "(neg (neg v0:8))"},
		{"(not (not (add v0:8 #8:0)))", 6, "(add v0:8 #8:0)"},
		{"(not (neg v0:8))", 0, ""},
		{"(neg (not v0:8))", 0, ""},
		{"(not v0:8)", 0, ""},
		{"(neg v0:8)", 0, ""},
	})
}

// TestChoice: rule 7.
func TestChoice(t *testing.T) {
	hold(t, []row{
		{"(ite (not v2:1) v0:8 v1:8)", 7, "(ite v2:1 v1:8 v0:8)"},
		{"(ite (not v2:1) #8:1 #8:0)", 7, "(ite v2:1 #8:0 #8:1)"},
		{"(ite (not (not v2:1)) v0:8 v1:8)", 7, "(ite (not v2:1) v1:8 v0:8)"},
		{"(ite (not (eq v0:8 #8:3)) v0:8 v1:8)", 7, "(ite (eq v0:8 #8:3) v1:8 v0:8)"},
		{"(ite v2:1 #1:1 #1:0)", 7, "v2:1"},
		{"(ite v2:1 #1:0 #1:1)", 7, "(not v2:1)"},
		{"(ite (eq v0:8 v1:8) #1:1 #1:0)", 7, "(eq v0:8 v1:8)"},
		{"(ite (eq v0:8 v1:8) #1:0 #1:1)", 7, "(not (eq v0:8 v1:8))"},
		// Of its cases the first one that fits.
		{"(ite (not v2:1) #1:1 #1:0)", 7, "(ite v2:1 #1:0 #1:1)"},
		{"(ite (not v2:1) #1:0 #1:1)", 7, "(ite v2:1 #1:1 #1:0)"},
		// Of more bits, or of one side alone, it doesn't fit.
		{"(ite v2:1 #8:1 #8:0)", 0, ""},
		{"(ite v2:1 #8:0 #8:1)", 0, ""},
		{"(ite v2:1 #8:255 #8:0)", 0, ""},
		{"(ite v2:1 #8:0 #8:255)", 0, ""},
		{"(ite v2:1 #1:1 v3:1)", 0, ""},
		{"(ite v2:1 #1:0 v3:1)", 0, ""},
		{"(ite v2:1 v3:1 #1:0)", 0, ""},
		{"(ite v2:1 v3:1 #1:1)", 0, ""},
		{"(ite v2:1 v0:8 v1:8)", 0, ""},
		{"(ite v2:1 v1:8 v0:8)", 0, ""},
		{"(ite v2:1 (not v0:8) v1:8)", 0, ""},
		{"(ite (eq v2:1 #1:0) v0:8 v1:8)", 0, ""},
	})
}

// TestBits: rule 8, but for Extract of a Concat.
func TestBits(t *testing.T) {
	hold(t, []row{
		{"(extract 0 8 v0:8)", 8, "v0:8"},
		{"(extract 0 1 v2:1)", 8, "v2:1"},
		{"(extract 0 8 (not v0:8))", 8, "(not v0:8)"},
		{"(extract 1 2 (extract 2 4 v0:8))", 8, "(extract 3 2 v0:8)"},
		{"(extract 0 4 (extract 0 8 v0:8))", 8, "(extract 0 4 v0:8)"},
		{"(extract 3 1 (extract 4 4 v0:8))", 8, "(extract 7 1 v0:8)"},
		{"(extract 1 1 (extract 1 2 (extract 2 4 v0:8)))", 8, "(extract 2 1 (extract 2 4 v0:8))"},
		{"(extract 0 4 (extract 0 8 (zext 16 v0:8)))", 8, "(extract 0 4 (zext 16 v0:8))"},
		{"(extract 1 2 (zext 16 v0:8))", 8, "(extract 1 2 v0:8)"},
		{"(extract 0 8 (zext 16 v0:8))", 8, "(extract 0 8 v0:8)"},
		{"(extract 7 1 (zext 16 v0:8))", 8, "(extract 7 1 v0:8)"},
		{"(extract 1 2 (sext 16 v0:8))", 8, "(extract 1 2 v0:8)"},
		{"(extract 0 8 (sext 16 v0:8))", 8, "(extract 0 8 v0:8)"},
		{"(extract 7 1 (sext 16 v0:8))", 8, "(extract 7 1 v0:8)"},
		{"(extract 0 4 (zext 8 v0:8))", 8, "(extract 0 4 v0:8)"},
		{"(zext 8 v0:8)", 8, "v0:8"},
		{"(sext 8 v0:8)", 8, "v0:8"},
		{"(zext 1 v2:1)", 8, "v2:1"},
		{"(sext 1 v2:1)", 8, "v2:1"},
		{"(zext 8 (neg v0:8))", 8, "(neg v0:8)"},
		{"(zext 32 (zext 16 v0:8))", 8, "(zext 32 v0:8)"},
		{"(sext 32 (sext 16 v0:8))", 8, "(sext 32 v0:8)"},
		{"(zext 32 (zext 16 (zext 12 v0:8)))", 8, "(zext 32 (zext 12 v0:8))"},
		{"(zext 16 (zext 8 v0:8))", 8, "(zext 16 v0:8)"},
		{"(zext 16 (zext 16 v0:8))", 8, "(zext 16 v0:8)"},
		{"(sext 16 (zext 16 v0:8))", 8, "(zext 16 v0:8)"},
		{"(zext 16 (sext 16 v0:8))", 8, "(sext 16 v0:8)"},
		// Of its cases the first one that fits: all bits.
		{"(extract 0 8 (extract 4 8 v4:16))", 8, "(extract 4 8 v4:16)"},
		{"(extract 0 8 (zext 8 v0:8))", 8, "(zext 8 v0:8)"},
		{"(extract 0 8 (sext 8 v0:8))", 8, "(sext 8 v0:8)"},
		{"(extract 0 16 (sext 16 v0:8))", 8, "(sext 16 v0:8)"},
		// Bits that are not the kid's, or not it alone.
		{"(extract 7 2 (zext 16 v0:8))", 0, ""},
		{"(extract 0 9 (zext 16 v0:8))", 0, ""},
		{"(extract 7 2 (sext 16 v0:8))", 0, ""},
		{"(extract 0 9 (sext 16 v0:8))", 0, ""},
		{"(extract 8 1 (sext 16 v0:8))", 0, ""},
		{"(extract 8 8 (sext 16 v0:8))", 0, ""},
		{"(extract 0 7 v0:8)", 0, ""},
		{"(extract 1 7 v0:8)", 0, ""},
		{"(extract 0 7 (not v0:8))", 0, ""},
		{"(extract 0 4 (add v0:8 v1:8))", 0, ""},
		{"(zext 9 v0:8)", 0, ""},
		{"(sext 9 v0:8)", 0, ""},
		{"(zext 32 (sext 16 v0:8))", 0, ""},
		{"(sext 32 (zext 16 v0:8))", 0, ""},
		{"(zext 32 (extract 0 8 v0:8))", 0, ""},
	})
}

// TestBitsOfConcat: rule 8 of an Extract of a Concat: within one kid, across
// both, at their border.
func TestBitsOfConcat(t *testing.T) {
	hold(t, []row{
		{"(extract 1 2 (concat v0:8 v1:8))", 8, "(extract 1 2 v1:8)"},
		{"(extract 9 2 (concat v0:8 v1:8))", 8, "(extract 1 2 v0:8)"},
		{"(extract 0 8 (concat v0:8 v1:8))", 8, "(extract 0 8 v1:8)"},
		{"(extract 8 8 (concat v0:8 v1:8))", 8, "(extract 0 8 v0:8)"},
		{"(extract 7 1 (concat v0:8 v1:8))", 8, "(extract 7 1 v1:8)"},
		{"(extract 8 1 (concat v0:8 v1:8))", 8, "(extract 0 1 v0:8)"},
		{"(extract 15 1 (concat v0:8 v1:8))", 8, "(extract 7 1 v0:8)"},
		{"(extract 4 4 (concat v0:8 v1:8))", 8, "(extract 4 4 v1:8)"},
		{"(extract 7 2 (concat v0:8 v1:8))", 0, ""},
		{"(extract 4 5 (concat v0:8 v1:8))", 0, ""},
		{"(extract 0 9 (concat v0:8 v1:8))", 0, ""},
		{"(extract 7 9 (concat v0:8 v1:8))", 0, ""},
		{"(extract 1 15 (concat v0:8 v1:8))", 0, ""},
		{"(extract 0 15 (concat v0:8 v1:8))", 0, ""},
		{"(extract 0 16 (concat v0:8 v1:8))", 8, "(concat v0:8 v1:8)"},
		// Where the kids are not of one width.
		{"(extract 8 1 (concat v2:1 v0:8))", 8, "(extract 0 1 v2:1)"},
		{"(extract 7 2 (concat v2:1 v0:8))", 0, ""},
		{"(extract 0 8 (concat v2:1 v0:8))", 8, "(extract 0 8 v0:8)"},
		{"(extract 0 1 (concat v0:8 v2:1))", 8, "(extract 0 1 v2:1)"},
		{"(extract 0 2 (concat v0:8 v2:1))", 0, ""},
		{"(extract 1 8 (concat v0:8 v2:1))", 8, "(extract 0 8 v0:8)"},
		{"(extract 20 4 (concat v0:8 v4:16))", 8, "(extract 4 4 v0:8)"},
		{"(extract 12 4 (concat v0:8 v4:16))", 8, "(extract 12 4 v4:16)"},
		{"(extract 12 5 (concat v0:8 v4:16))", 0, ""},
		// Of a Concat of a Concat, and of the same twice.
		{"(extract 2 2 (concat v0:8 (concat v1:8 v2:1)))", 8, "(extract 2 2 (concat v1:8 v2:1))"},
		{"(extract 8 2 (concat v0:8 v0:8))", 8, "(extract 0 2 v0:8)"},
		{"(extract 0 1 (concat v2:1 v3:1))", 8, "(extract 0 1 v3:1)"},
		{"(extract 1 1 (concat v2:1 v3:1))", 8, "(extract 0 1 v2:1)"},
	})
}

// TestCompared: rule 9.
func TestCompared(t *testing.T) {
	hold(t, []row{
		{"(eq v2:1 #1:1)", 9, "v2:1"},
		{"(eq v2:1 #1:0)", 9, "(not v2:1)"},
		{"(eq (not v2:1) #1:0)", 9, "(not (not v2:1))"},
		{"(eq (ult v0:8 #8:1) #1:1)", 9, "(ult v0:8 #8:1)"},
		{"(ult v0:8 #8:0)", 9, "#1:0"},
		{"(ult v0:8 #8:1)", 9, "(eq v0:8 #8:0)"},
		{"(ult v2:1 #1:0)", 9, "#1:0"},
		{"(ult v2:1 #1:1)", 9, "(eq v2:1 #1:0)"},
		{"(ult (or v0:8 #8:1) #8:1)", 9, "(eq (or v0:8 #8:1) #8:0)"},
		{"(eq v0:8 #8:0)", 0, ""},
		{"(eq v0:8 #8:1)", 0, ""},
		{"(eq v0:8 #8:255)", 0, ""},
		{"(eq v2:1 v3:1)", 0, ""},
		{"(ult v0:8 #8:2)", 0, ""},
		{"(ult v0:8 #8:255)", 0, ""},
		{"(ult v0:8 v1:8)", 0, ""},
		{"(ult v1:8 v0:8)", 0, ""},
		{"(ult #8:0 v0:8)", 0, ""},
		{"(ult #8:1 v0:8)", 0, ""},
		{"(ult #8:255 v0:8)", 0, ""},
		{"(ult #1:1 v2:1)", 0, ""},
		{"(slt v0:8 #8:0)", 0, ""},
		{"(slt v0:8 #8:1)", 0, ""},
		{"(slt v2:1 #1:0)", 0, ""},
		{"(slt v2:1 #1:1)", 0, ""},
	})
}

// TestEdgeWidths: rules of 1, 63 and 64 bits, of which the last ones leave no
// room to spare.
func TestEdgeWidths(t *testing.T) {
	hold(t, []row{
		{"(and v2:1 #1:1)", 4, "v2:1"},
		{"(and v2:1 #1:0)", 2, "#1:0"},
		{"(or v2:1 #1:0)", 4, "v2:1"},
		{"(or v2:1 #1:1)", 2, "#1:1"},
		{"(xor v2:1 #1:0)", 4, "v2:1"},
		{"(xor v2:1 #1:1)", 4, "(not v2:1)"},
		{"(add v2:1 #1:0)", 4, "v2:1"},
		{"(add v2:1 #1:1)", 0, ""},
		{"(sub v2:1 #1:0)", 4, "v2:1"},
		{"(sub v2:1 #1:1)", 0, ""},
		{"(mul v2:1 #1:1)", 4, "v2:1"},
		{"(mul v2:1 #1:0)", 2, "#1:0"},
		{"(udiv v2:1 #1:1)", 4, "v2:1"},
		{"(urem v2:1 #1:1)", 4, "#1:0"},
		{"(shl v2:1 #1:0)", 4, "v2:1"},
		{"(shl v2:1 #1:1)", 2, "#1:0"},
		{"(ashr v2:1 #1:1)", 0, ""},
		{"(neg (neg v2:1))", 6, "v2:1"},
		{"(sext 64 (sext 2 v2:1))", 8, "(sext 64 v2:1)"},
	})
	for _, w := range []uint64{63, 64} {
		v, x := "v9:"+strconv.FormatUint(w, 10), "v10:"+strconv.FormatUint(w, 10)
		number := func(n uint64) string { return "#" + strconv.FormatUint(w, 10) + ":" + strconv.FormatUint(n, 10) }
		all, top := number(full(int(w))), number(full(int(w))/2+1)
		r := strings.NewReplacer("V", v, "X", x, "ALL", all, "TOP", top, "NONE", number(0), "ONE", number(1),
			"HIGH", strconv.FormatUint(w-1, 10), "W", strconv.FormatUint(w, 10))
		var rows []row
		for _, c := range []row{
			{"(not TOP)", 1, number(full(int(w)) / 2)},
			{"(neg ONE)", 1, "ALL"},
			{"(add ALL ONE)", 1, "NONE"},
			{"(slt TOP NONE)", 1, "#1:1"},
			{"(sdiv TOP ALL)", 1, "TOP"},
			{"(and V NONE)", 2, "NONE"},
			{"(or V ALL)", 2, "ALL"},
			{"(and (or V TOP) TOP)", 2, "TOP"},
			{"(eq (or V TOP) ONE)", 2, "#1:0"},
			{"(add ONE V)", 3, "(add V ONE)"},
			{"(and V ALL)", 4, "V"},
			{"(and V TOP)", 0, ""},
			{"(xor V ALL)", 4, "(not V)"},
			{"(xor V TOP)", 0, ""},
			{"(xor V NONE)", 4, "V"},
			{"(mul V ONE)", 4, "V"},
			{"(urem V ONE)", 4, "NONE"},
			{"(ashr V NONE)", 4, "V"},
			{"(sub V V)", 5, "NONE"},
			{"(eq V V)", 5, "#1:1"},
			{"(ite (eq V X) X X)", 5, "X"},
			{"(neg (neg V))", 6, "V"},
			{"(ite (not (ult V X)) V X)", 7, "(ite (ult V X) X V)"},
			{"(extract 0 W V)", 8, "V"},
			{"(extract 0 HIGH V)", 0, ""},
			{"(extract 1 1 (extract 2 3 V))", 8, "(extract 3 1 V)"},
			{"(zext W V)", 8, "V"},
			{"(sext W (sext HIGH v0:8))", 8, "(sext W v0:8)"},
			{"(zext W (zext HIGH v0:8))", 8, "(zext W v0:8)"},
			{"(extract 7 1 (zext W v0:8))", 8, "(extract 7 1 v0:8)"},
			{"(extract HIGH 1 (zext W v0:8))", 2, "#1:0"},
			{"(extract HIGH 1 (sext W v0:8))", 0, ""},
			{"(ult V NONE)", 9, "#1:0"},
			{"(ult V ONE)", 9, "(eq V NONE)"},
			{"(ult V ALL)", 0, ""},
		} {
			rows = append(rows, row{r.Replace(c.from), c.rule, r.Replace(c.want)})
		}
		hold(t, rows)
	}
	hold(t, []row{
		{"(extract 63 1 (concat v2:1 v9:63))", 8, "(extract 0 1 v2:1)"},
		{"(extract 62 2 (concat v2:1 v9:63))", 0, ""},
		{"(extract 0 63 (concat v2:1 v9:63))", 8, "(extract 0 63 v9:63)"},
		{"(extract 1 63 (concat v9:63 v2:1))", 8, "(extract 0 63 v9:63)"},
		{"(extract 0 1 (concat v9:63 v2:1))", 8, "(extract 0 1 v2:1)"},
		{"(extract 0 64 (concat v9:63 v2:1))", 8, "(concat v9:63 v2:1)"},
		{"(extract 62 1 (sext 64 v9:63))", 8, "(extract 62 1 v9:63)"},
		{"(extract 62 2 (sext 64 v9:63))", 0, ""},
	})
}

// pool is nodes of w bits, of each kind that a rule asks for.
func (m maker) pool(w int) []int {
	m.Helper()
	v, u, c := m.variable(w, 0), m.variable(w, 1), m.variable(1, 64)
	one := m.constant(w, 1)
	ids := []int{
		v, u, m.constant(w, 0), one, m.constant(w, full(w)), m.constant(w, full(w)/2+1),
		m.op(api.Not, w, v), m.op(api.Neg, w, u), m.op(api.Not, w, m.op(api.Neg, w, v)),
		m.op(api.Not, w, one), m.op(api.And, w, u, m.constant(w, 0)), m.op(api.Or, w, u, one),
		m.op(api.Ite, w, c, v, u),
	}
	if w > 1 {
		part := m.variable(w-1, 2)
		low := m.variable((w+1)/2, 3)
		ids = append(ids, m.op(api.Zext, w, part), m.op(api.Sext, w, part), m.op(api.Zext, w, low), m.op(api.Sext, w, low),
			m.op(api.Concat, w, c, part), m.op(api.Concat, w, part, c))
	}
	if w < 64 {
		wide := m.variable(64, 4)
		ids = append(ids, m.part(0, w, wide), m.part(64-w, w, wide))
	}
	return append(ids, m.op(api.Zext, w, v), m.op(api.Sext, w, v), m.part(0, w, v))
}

// over is a node of each Op on each kids of the pool, and each of its own bits.
func (m maker) over(w int) []int {
	m.Helper()
	pool := m.pool(w)
	c := m.variable(1, 64)
	conditions := []int{c, m.op(api.Not, 1, c), m.op(api.Eq, 1, pool[0], pool[1]), m.constant(1, 0), m.constant(1, 1), m.op(api.And, 1, c, m.constant(1, 0)), m.op(api.Not, 1, m.constant(1, 0))}
	ids := slices.Clone(pool)
	for _, x := range pool {
		ids = append(ids, m.op(api.Not, w, x), m.op(api.Neg, w, x))
		for low := range w {
			for _, n := range []int{1, 2, w / 2, (w + 1) / 2, w - low - 1, w - low} {
				if n >= 1 && low+n <= w {
					ids = append(ids, m.part(low, n, x))
				}
			}
		}
		for _, to := range []int{w, w + 1, 2 * w, 63, 64} {
			if to >= w && to <= 64 {
				ids = append(ids, m.op(api.Zext, to, x), m.op(api.Sext, to, x))
			}
		}
		for _, y := range pool {
			for _, o := range ofTwo {
				ids = append(ids, m.op(o, w, x, y))
			}
			for _, o := range oneBit {
				ids = append(ids, m.op(o, 1, x, y))
			}
			if w <= 32 {
				ids = append(ids, m.op(api.Concat, 2*w, x, y))
			}
			for _, c := range conditions {
				ids = append(ids, m.op(api.Ite, w, c, x, y))
			}
		}
	}
	slices.Sort(ids)
	return slices.Compact(ids)
}

// TestPool: each Op on all kids that rules ask for, of few bits and of the most:
// as the list says, and the same vector under drawn assignments.
func TestPool(t *testing.T) {
	r := rand.New(rand.NewSource(6))
	for _, w := range []int{1, 2, 8, 63, 64} {
		m := newMaker(t)
		ids := m.over(w)
		tos := make([]int, len(ids))
		for i, id := range ids {
			tos[i], _ = m.as(id)
		}
		for range 12 {
			m.alike(ids, tos, drawnAssign(r))
		}
	}
}

// TestAllOfFewBits: what it steps to is the same under all assignments.
func TestAllOfFewBits(t *testing.T) {
	for w := 1; w <= 2; w++ {
		m := newMaker(t)
		var ids, tos []int
		for _, id := range m.over(w) {
			if to, n := m.as(id); n != 0 {
				ids, tos = append(ids, id), append(tos, to)
			}
		}
		bits := 3*w + 2
		for n := range uint64(1) << bits {
			a := make(api.Assign, 65)
			a[0], a[1], a[2], a[3], a[4], a[64] = n, n>>w, n>>(2*w), n>>(3*w), n<<62|n, n>>(3*w+1)
			m.alike(ids, tos, a)
		}
	}
}

// drawnAssign is numbers of which some are small, some have all bits.
func drawnAssign(r *rand.Rand) api.Assign {
	a := make(api.Assign, r.Intn(80))
	for i := range a {
		a[i] = []uint64{r.Uint64(), r.Uint64() & r.Uint64(), 0, math.MaxUint64, uint64(r.Intn(70))}[r.Intn(5)]
	}
	return a
}

// randomly is a store of nodes that are drawn, with kids near each other.
func randomly(t *testing.T, r *rand.Rand, count int) maker {
	m := newMaker(t)
	for i, w := range []int{1, 8, 9, 64} {
		m.variable(w, 2*i)
		m.variable(w, 2*i+1)
		for _, n := range []uint64{0, 1, full(w)} {
			m.constant(w, n)
		}
	}
	first := m.s.Len()
	for m.s.Len() < count {
		near := func() int {
			if r.Intn(2) == 0 {
				return r.Intn(m.s.Len())
			}
			return m.s.Len() - 1 - r.Intn(min(m.s.Len(), 8))
		}
		x, y, z := near(), near(), near()
		switch r.Intn(4) {
		case 0:
			y = x
		case 1:
			// Of those that stand first each width has its constants.
			y, z = r.Intn(first), r.Intn(first)
		}
		o := api.Not + api.Op(r.Intn(int(api.Ite-api.Not)+1))
		for o == api.Ite && m.node(x).W != 1 {
			x = near()
		}
		n := api.Node{Op: o, W: m.node(x).W, Kids: [3]int{x, y, z}}
		copy(n.Kids[kidsOf(n.Op):], []int{0, 0, 0})
		switch n.Op {
		case api.Eq, api.Ult, api.Slt:
			n.W = 1
		case api.Concat:
			n.W += m.node(y).W
		case api.Extract:
			n.Low = uint8(r.Intn(int(n.W)))
			n.W = uint8(1 + r.Intn(int(n.W-n.Low)))
		case api.Zext, api.Sext:
			n.W += uint8(r.Intn(int(65 - n.W)))
		case api.Ite:
			n.W = m.node(y).W
		}
		// What may not be is drawn anew.
		m.s.Make(n)
	}
	return m
}

// TestDrawn: of drawn nodes each is as the list says, and the same vector under
// drawn assignments. Each rule, each Op is met.
func TestDrawn(t *testing.T) {
	r := rand.New(rand.NewSource(1))
	ops := map[api.Op]int{}
	var met [10]int
	for range 200 {
		m := randomly(t, r, 200)
		var tos []int
		ids := r.Perm(m.s.Len())
		for _, id := range ids {
			to, n := m.as(id)
			tos = append(tos, to)
			met[n]++
			ops[m.node(id).Op]++
		}
		for range 8 {
			m.alike(ids, tos, drawnAssign(r))
		}
	}
	for n, count := range met {
		if count < 20 {
			t.Errorf("rule %d: %d nodes", n, count)
		}
	}
	for o := api.Const; o <= api.Ite; o++ {
		if ops[o] < 20 {
			t.Errorf("Op %d: %d nodes", o, ops[o])
		}
	}
}

// TestLong: below a node may be a chain as long as a store has nodes.
func TestLong(t *testing.T) {
	m := newMaker(t)
	v := m.variable(8, 0)
	id := m.op(api.Not, 8, v)
	for m.s.Len() < api.MaxNodes-1 {
		id = m.op(api.Xor, 8, v, id)
	}
	if to, n, e := rule.Step(m.s, id); to != id || n != 0 || e != api.OK {
		t.Errorf("Step(%d) = %d, %d, %d", id, to, n, e)
	}
	id = m.op(api.Xor, 8, id, id)
	if to, n, e := rule.Step(m.s, id); to != 0 || n != 0 || e != api.ErrLimit {
		t.Errorf("Step(%d) = %d, %d, %d", id, to, n, e)
	}
}

// fill makes nodes until a store has as many as it may.
func (m maker) fill(count int) {
	m.Helper()
	for n := uint64(1 << 40); m.s.Len() < count; n++ {
		m.constant(64, n)
	}
}

// TestLimit: in a full store a step that needs a node more answers ErrLimit,
// and leaves the store as it was.
func TestLimit(t *testing.T) {
	m := newMaker(t)
	var ids []int
	m.variable(8, 0)
	m.variable(8, 1)
	for _, x := range []string{
		"(add #8:3 #8:4)",
		"(concat #8:3 #8:4)",
		"(shl v0:8 #8:8)",
		"(eq (or v0:8 #8:6) #8:5)",
		"(mul #8:6 v0:8)",
		"(xor v1:8 v0:8)",
		"(xor v0:8 #8:255)",
		"(urem v0:8 #8:1)",
		"(sub v0:8 v0:8)",
		"(eq v0:8 v0:8)",
		"(slt v0:8 v0:8)",
		"(ite (not v2:1) v0:8 v1:8)",
		"(extract 1 2 (extract 2 4 v0:8))",
		"(extract 9 3 (concat v0:8 v1:8))",
		"(extract 1 4 (sext 16 v0:8))",
		"(zext 32 (zext 16 v0:8))",
		"(ult v0:8 #8:1)",
	} {
		ids = append(ids, m.get(x))
	}
	m.fill(api.MaxNodes)
	was := nodes(m)
	for range 2 {
		for _, id := range ids {
			if to, n, e := rule.Step(m.s, id); to != 0 || n != 0 || e != api.ErrLimit {
				t.Errorf("Step(%s) = %d, %d, %d", m.put(id), to, n, e)
			}
		}
	}
	if now := nodes(m); !slices.Equal(was, now) {
		t.Error("other nodes than there were")
	}
}

// TestRoom: a step answers as soon as there is room for the nodes that it needs
// beside those that are there.
func TestRoom(t *testing.T) {
	for _, c := range []struct {
		ahead, from, want string
		rule, needs       int
	}{
		{"#8:2", "(add #8:3 #8:4)", "#8:7", 1, 1},
		{"#1:1", "(ite v2:1 #1:0 #1:1)", "(not v2:1)", 7, 1},
		{"#1:1", "(eq v2:1 #1:0)", "(not v2:1)", 9, 1},
		{"#1:1", "(ult v0:8 #8:0)", "#1:0", 9, 1},
		{"#8:2", "(ult v0:8 #8:1)", "(eq v0:8 #8:0)", 9, 2},
		{"#8:0", "(ult v0:8 #8:1)", "(eq v0:8 #8:0)", 9, 1},
	} {
		for room := range c.needs + 1 {
			m := newMaker(t)
			m.get(c.ahead)
			id := m.get(c.from)
			m.fill(api.MaxNodes - room)
			to, n, e := rule.Step(m.s, id)
			switch {
			case room < c.needs && (to != 0 || n != 0 || e != api.ErrLimit):
				t.Errorf("room %d: Step(%s) = %d, %d, %d", room, c.from, to, n, e)
			case room == c.needs && (m.put(to) != c.want || n != c.rule || e != api.OK):
				t.Errorf("room %d: Step(%s) = %s, %d, %d", room, c.from, m.put(to), n, e)
			}
		}
	}
}

// TestFull: in a full store a step that needs no new node answers as ever.
func TestFull(t *testing.T) {
	rows := []row{
		{"v0:8", 0, "v0:8"},
		{"#8:3", 0, "#8:3"},
		{"(add v0:8 #8:3)", 0, "(add v0:8 #8:3)"},
		{"(ite #1:1 v0:8 v1:8)", 1, "v0:8"},
		{"(add #8:1 #8:2)", 1, "#8:3"},
		{"(and v0:8 #8:0)", 2, "#8:0"},
		{"(shl v0:8 #8:8)", 2, "#8:0"},
		{"(add #8:3 v0:8)", 3, "(add v0:8 #8:3)"},
		{"(mul v1:8 v0:8)", 3, "(mul v0:8 v1:8)"},
		{"(mul v0:8 #8:1)", 4, "v0:8"},
		{"(xor v0:8 #8:255)", 4, "(not v0:8)"},
		{"(urem v0:8 #8:1)", 4, "#8:0"},
		{"(or v0:8 v0:8)", 5, "v0:8"},
		{"(xor v0:8 v0:8)", 5, "#8:0"},
		{"(eq v0:8 v0:8)", 5, "#1:1"},
		{"(ite v2:1 v0:8 v0:8)", 5, "v0:8"},
		{"(neg (neg v0:8))", 6, "v0:8"},
		{"(ite (not v2:1) v0:8 v1:8)", 7, "(ite v2:1 v1:8 v0:8)"},
		{"(ite v2:1 #1:1 #1:0)", 7, "v2:1"},
		{"(ite v2:1 #1:0 #1:1)", 7, "(not v2:1)"},
		{"(extract 0 8 v0:8)", 8, "v0:8"},
		{"(extract 1 2 (extract 2 4 v0:8))", 8, "(extract 3 2 v0:8)"},
		{"(extract 8 8 (concat v0:8 v1:8))", 8, "(extract 0 8 v0:8)"},
		{"(zext 8 v0:8)", 8, "v0:8"},
		{"(sext 32 (sext 16 v0:8))", 8, "(sext 32 v0:8)"},
		{"(eq v2:1 #1:1)", 9, "v2:1"},
		{"(eq v2:1 #1:0)", 9, "(not v2:1)"},
		{"(ult v0:8 #8:0)", 9, "#1:0"},
		{"(ult v0:8 #8:1)", 9, "(eq v0:8 #8:0)"},
	}
	m := newMaker(t)
	m.variable(8, 0)
	m.variable(8, 1)
	var ids, wants []int
	for _, c := range rows {
		ids, wants = append(ids, m.get(c.from)), append(wants, m.get(c.want))
	}
	m.fill(api.MaxNodes)
	for i, c := range rows {
		if to, n, e := rule.Step(m.s, ids[i]); to != wants[i] || n != c.rule || e != api.OK {
			t.Errorf("Step(%s) = %d, %d, %d, want %d, %d", c.from, to, n, e, wants[i], c.rule)
		}
	}
	if m.s.Len() != api.MaxNodes {
		t.Errorf("Len = %d", m.s.Len())
	}
}

// TestNotThere: numbers that no node has.
func TestNotThere(t *testing.T) {
	m := newMaker(t)
	check := func(s *term.Store) {
		was := s.Len()
		for _, id := range notThere(s) {
			if to, n, e := rule.Step(s, id); to != 0 || n != 0 || e != api.ErrArg {
				t.Errorf("Step(%d) = %d, %d, %d", id, to, n, e)
			}
		}
		if s.Len() != was {
			t.Errorf("Len = %d, was %d", s.Len(), was)
		}
	}
	check(m.s)
	m.op(api.Not, 8, m.op(api.Not, 8, m.variable(8, 0)))
	check(m.s)
	m.fill(api.MaxNodes)
	check(m.s)
}

// TestNone: a store that is not there, and one that no call made.
func TestNone(t *testing.T) {
	for what, s := range map[string]*term.Store{"nil": nil, "zero": {}} {
		for _, id := range []int{math.MinInt, -1, 0, 1, api.MaxNodes, math.MaxInt} {
			if to, n, e := rule.Step(s, id); to != 0 || n != 0 || e != api.ErrNil {
				t.Errorf("%s: Step(%d) = %d, %d, %d", what, id, to, n, e)
			}
		}
	}
}

// TestStays: what was made stays, and a call answers the same behind others,
// behind nodes made since, and in a store that was given the same.
func TestStays(t *testing.T) {
	m, twin := randomly(t, rand.New(rand.NewSource(7)), 150), randomly(t, rand.New(rand.NewSource(7)), 150)
	was := nodes(m)
	tos, numbers := make([]int, len(was)), make([]int, len(was))
	for id := range was {
		tos[id], numbers[id] = m.as(id)
		if to, n := twin.as(id); to != tos[id] || n != numbers[id] {
			t.Errorf("Step(%d) = %d, %d, in a store of the same %d, %d", id, tos[id], numbers[id], to, n)
		}
	}
	r := rand.New(rand.NewSource(8))
	for range 3 {
		for _, id := range r.Perm(len(was)) {
			if to, n := m.as(id); to != tos[id] || n != numbers[id] {
				t.Errorf("Step(%d) = %d, %d, was %d, %d", id, to, n, tos[id], numbers[id])
			}
			m.variable(5, 20+r.Intn(200))
			m.op(api.Not, int(was[id].W), id)
		}
	}
	if now := nodes(m)[:len(was)]; !slices.Equal(was, now) {
		t.Errorf("nodes %v, were %v", now, was)
	}
}
