package text_test

import (
	"math"
	"math/rand"
	"slices"
	"strconv"
	"strings"
	"testing"

	"augury/api"
	"augury/term"
	"augury/text"
)

// cut is as much of a text as a report needs.
func cut(x string) string {
	if len(x) > 100 {
		return x[:50] + " .. " + x[len(x)-50:]
	}
	return x
}

// got is the number that Get has to answer for a text, without an error.
func got(t *testing.T, s *term.Store, x string) int {
	t.Helper()
	id, e := text.Get(s, x)
	if e != api.OK {
		t.Fatalf("Get(%q): %d", cut(x), e)
	}
	return id
}

// puts reports a Put that is not the text want.
func puts(t *testing.T, s *term.Store, id int, want string) {
	t.Helper()
	if x, e := text.Put(s, id); x != want || e != api.OK {
		t.Errorf("Put(%d) = %q, %d: want %q, 0", id, cut(x), e, cut(want))
	}
}

// noPut reports a Put that is not the error alone.
func noPut(t *testing.T, s *term.Store, id int, want api.Errno) {
	t.Helper()
	if x, e := text.Put(s, id); x != "" || e != want {
		t.Errorf("Put(%d) = %q, %d: want none, %d", id, cut(x), e, want)
	}
}

// noGet reports a Get that is not the error alone.
func noGet(t *testing.T, s *term.Store, x string, want api.Errno) {
	t.Helper()
	if id, e := text.Get(s, x); id != 0 || e != want {
		t.Errorf("Get(%q) = %d, %d: want 0, %d", cut(x), id, e, want)
	}
}

func TestExamples(t *testing.T) {
	s := term.New()
	for _, x := range []string{"(add v0:8 #8:1)", "(extract 4 4 v0:8)"} {
		puts(t, s, got(t, s, x), x)
	}
	noGet(t, s, "(add v0:8 #4:1)", api.ErrArg)
	noGet(t, s, "( add v0:8 v0:8)", api.ErrForm)
	noGet(t, s, "#8:01", api.ErrForm)
}

// TestName: each number that an Op may be, those that are no Op too.
func TestName(t *testing.T) {
	want := map[api.Op]string{}
	for _, h := range shapes {
		want[h.o] = h.name
	}
	for o := range 256 {
		if x := text.Name(api.Op(o)); x != want[api.Op(o)] {
			t.Errorf("Name(%d) = %q: want %q", o, x, want[api.Op(o)])
		}
	}
}

// TestEachOp: each Op's text and the node it is, of a store in which variable
// 0 of 1 bit is node 0, variable 1 of 8 bits node 1, constant 5 of 8 bits
// node 2.
func TestEachOp(t *testing.T) {
	for _, c := range []struct {
		x string
		n api.Node
	}{
		{"#1:0", api.Node{Op: api.Const, W: 1}},
		{"#8:255", api.Node{Op: api.Const, W: 8, N: 255}},
		{"#64:18446744073709551615", api.Node{Op: api.Const, W: 64, N: math.MaxUint64}},
		{"v2:1", api.Node{Op: api.Var, W: 1, N: 2}},
		{"v255:64", api.Node{Op: api.Var, W: 64, N: 255}},
		{"(not v1:8)", op(api.Not, 8, 1)},
		{"(neg v0:1)", op(api.Neg, 1, 0)},
		{"(and v1:8 #8:5)", op(api.And, 8, 1, 2)},
		{"(or v1:8 #8:5)", op(api.Or, 8, 1, 2)},
		{"(xor v0:1 v0:1)", op(api.Xor, 1, 0, 0)},
		{"(add #8:5 v1:8)", op(api.Add, 8, 2, 1)},
		{"(sub v1:8 #8:5)", op(api.Sub, 8, 1, 2)},
		{"(mul v1:8 #8:5)", op(api.Mul, 8, 1, 2)},
		{"(udiv v1:8 #8:5)", op(api.Udiv, 8, 1, 2)},
		{"(urem v1:8 #8:5)", op(api.Urem, 8, 1, 2)},
		{"(sdiv v1:8 #8:5)", op(api.Sdiv, 8, 1, 2)},
		{"(srem v1:8 #8:5)", op(api.Srem, 8, 1, 2)},
		{"(shl v1:8 #8:5)", op(api.Shl, 8, 1, 2)},
		{"(lshr v1:8 #8:5)", op(api.Lshr, 8, 1, 2)},
		{"(ashr v1:8 #8:5)", op(api.Ashr, 8, 1, 2)},
		{"(eq v1:8 #8:5)", op(api.Eq, 1, 1, 2)},
		{"(ult v1:8 #8:5)", op(api.Ult, 1, 1, 2)},
		{"(slt #8:5 v1:8)", op(api.Slt, 1, 2, 1)},
		{"(concat v1:8 v0:1)", op(api.Concat, 9, 1, 0)},
		{"(extract 3 2 v1:8)", api.Node{Op: api.Extract, W: 2, Low: 3, Kids: [3]int{1}}},
		{"(extract 0 8 v1:8)", api.Node{Op: api.Extract, W: 8, Kids: [3]int{1}}},
		{"(zext 64 v1:8)", op(api.Zext, 64, 1)},
		{"(zext 8 v1:8)", op(api.Zext, 8, 1)},
		{"(sext 9 v1:8)", op(api.Sext, 9, 1)},
		{"(ite v0:1 v1:8 #8:5)", op(api.Ite, 8, 0, 1, 2)},
	} {
		s := term.New()
		s.Var(1, 0)
		s.Var(8, 1)
		s.Const(8, 5)
		id := got(t, s, c.x)
		if n, e := s.Node(id); n != c.n || e != api.OK || id != 3 || s.Len() != 4 {
			t.Errorf("Get(%s) = %d, %v of %d nodes: want 3, %v of 4", c.x, id, n, s.Len(), c.n)
		}
		other := term.New()
		other.Var(1, 0)
		other.Var(8, 1)
		other.Const(8, 5)
		puts(t, other, made(t, other, c.n), c.x)
	}
}

// TestWithin: brackets as each kid of others.
func TestWithin(t *testing.T) {
	for _, x := range []string{
		"(ite (eq v0:8 #8:0) (not v0:8) (concat #4:1 #4:2))",
		"(slt (neg v0:8) (ashr v0:8 #8:1))",
		"(extract 8 8 (concat (zext 12 (extract 0 4 v7:64)) (sext 9 (ult v7:64 #64:9))))",
		"(add (add (add v1:3 v2:3) v3:3) (add v4:3 (add v5:3 v6:3)))",
	} {
		s := term.New()
		id := got(t, s, x)
		if id != s.Len()-1 {
			t.Errorf("Get(%s) = %d of %d nodes", x, id, s.Len())
		}
		puts(t, s, id, x)
	}
}

func TestNoStore(t *testing.T) {
	for _, s := range []*term.Store{nil, {}} {
		for _, id := range []int{math.MinInt, -1, 0, 1, math.MaxInt} {
			noPut(t, s, id, api.ErrNil)
		}
		for _, x := range []string{"#8:1", "v0:8", "(not v0:8)", "", " ", "#8:01", "#8:256", strings.Repeat("(", 10001)} {
			noGet(t, s, x, api.ErrNil)
		}
	}
}

func TestNoNode(t *testing.T) {
	empty, s := term.New(), term.New()
	noPut(t, empty, 0, api.ErrArg)
	got(t, s, "(add v0:8 #8:1)")
	for _, id := range []int{math.MinInt, math.MinInt32, -256, -1, 3, 4, 256, api.MaxNodes, 1 << 31, 1 << 32, 1<<32 + 1, math.MaxInt} {
		noPut(t, s, id, api.ErrArg)
		noPut(t, empty, id, api.ErrArg)
	}
}

// TestLength: texts of about 10000 bytes, whose last part is of each kind.
func TestLength(t *testing.T) {
	exact := 0
	for _, first := range []string{"v0:8", "v10:8", "v100:8", "#8:0", "#8:10"} {
		for _, last := range []string{"", " v0:8", " v10:8", " v100:8", " #8:10", " #8:100"} {
			for levels := 1645; levels <= 1667; levels++ {
				x := strings.Repeat("(not ", levels) + first + strings.Repeat(")", levels)
				if last != "" {
					x = "(sub " + x + last + ")"
				}
				if lengthOf(t, x, first, last, levels) {
					exact++
				}
			}
		}
	}
	if exact == 0 {
		t.Error("no text of 10000 bytes")
	}
}

// lengthOf holds Put and Get of the text x, so many times not of first, and
// less last, against its length; it tells whether that is 10000.
func lengthOf(t *testing.T, x, first, last string, levels int) bool {
	t.Helper()
	s := term.New()
	id := got(t, s, first)
	for range levels {
		id = made(t, s, op(api.Not, 8, id))
	}
	if last != "" {
		id = made(t, s, op(api.Sub, 8, id, got(t, s, last[1:])))
	}
	if len(x) > 10000 {
		noPut(t, s, id, api.ErrLimit)
		noGet(t, s, x, api.ErrForm)
		return false
	}
	puts(t, s, id, x)
	if back := got(t, s, x); back != id {
		t.Errorf("Get of %d bytes = %d: want %d", len(x), back, id)
	}
	other := term.New()
	puts(t, other, got(t, other, x), x)
	return len(x) == 10000
}

// TestMostNodes: as many nodes in a text as fit it: much side by side, and
// much within each other.
func TestMostNodes(t *testing.T) {
	side := "v0:1"
	for range 9 {
		side = "(or " + side + " " + side + ")"
	}
	deep := strings.Repeat("(or ", 980) + "v0:1" + strings.Repeat(" v0:1)", 980)
	for _, x := range []string{side, deep, strings.Repeat("(or v0:1 ", 999) + "v0:1" + strings.Repeat(")", 999)} {
		s := term.New()
		puts(t, s, got(t, s, x), x)
	}
}

// TestTooLong: nodes whose texts are far above 10000 bytes, by depth, and by
// kids that are shared, so that a whole text would never be done.
func TestTooLong(t *testing.T) {
	for _, o := range []api.Op{api.Neg, api.Add, api.Ite} {
		s := term.New()
		id := got(t, s, "v0:1")
		for s.Len() < api.MaxNodes {
			id = made(t, s, op(o, 1, []int{id, id, id}[:shapeOf(o).kids]...))
		}
		for _, id := range []int{id, api.MaxNodes / 2, 5000} {
			noPut(t, s, id, api.ErrLimit)
		}
	}
	s := term.New()
	v := got(t, s, "v0:1")
	left, right := v, v
	for range 20000 {
		left, right = made(t, s, op(api.Or, 1, left, v)), made(t, s, op(api.Or, 1, v, right))
	}
	noPut(t, s, left, api.ErrLimit)
	noPut(t, s, right, api.ErrLimit)
	if x, e := text.Put(s, v); x != "v0:1" || e != api.OK {
		t.Errorf("Put behind a refusal = %q, %d", x, e)
	}
}

func TestForm(t *testing.T) {
	for kind, l := range map[string][]string{
		"nothing": {""},
		"blanks too many": {" ", " v0:8", "v0:8 ", " #8:1", "#8:1 ", "# 8:1", "#8 :1", "#8: 1", "v 0:8", "v0 :8", "v0: 8", " (not v0:8)",
			"( not v0:8)", "(not  v0:8)", "(not v0:8 )", "(not v0:8) ", "(add v0:8  v0:8)", "(extract  4 4 v0:8)", "(extract 4  4 v0:8)",
			"(extract 4 4  v0:8)", "(zext  9 v0:8)", "(zext 9  v0:8)"},
		"other blanks":        {"(not\tv0:8)", "(not\nv0:8)", "(not\rv0:8)", "(not\u00a0v0:8)", "v0:8\n", "\tv0:8", "v0:8\x00"},
		"blanks missing":      {"(notv0:8)", "(addv0:8 v0:8)", "(add v0:8v0:8)", "(add(not v0:8) v0:8)", "(add (not v0:8)v0:8)", "(extract4 4 v0:8)", "(extract 44 v0:8)", "(extract 4 4v0:8)", "(zext9 v0:8)"},
		"nought ahead":        {"#08:1", "#8:01", "#8:00", "v00:8", "v0:08", "v01:8", "(extract 04 4 v0:8)", "(extract 4 04 v0:8)", "(extract 00 4 v0:8)", "(zext 09 v0:8)", "(sext 00 v0:8)"},
		"above 2^64 - 1":      {"#8:18446744073709551616", "#18446744073709551616:1", "v18446744073709551616:8", "v0:18446744073709551616", "(extract 18446744073709551616 4 v0:8)", "(extract 4 18446744073709551616 v0:8)", "(zext 18446744073709551616 v0:8)", "#64:99999999999999999999", "#64:100000000000000000000000000000000000000000", "#64:" + strings.Repeat("9", 9000)},
		"signs, other digits": {"#8:-1", "#8:+1", "#-8:1", "v-1:8", "v0:+8", "#8:-0", "#8:0x1", "#8:1_0", "#8:1.0", "#8:1e1", "#8:a", "(zext -1 v0:8)", "(zext +9 v0:8)", "#8:\u0661", "#8:\u00b2"},
		"numbers missing":     {"#", "#8", "#8:", "#:1", "#:", "v", "v0", "v0:", "v:8", "v:", "8:1", "0:8", "(extract 4 v0:8)", "(extract v0:8)", "(zext v0:8)", "(sext v0:8)", "(extract  v0:8)"},
		"numbers too many":    {"#8:1:1", "v0:8:8", "(extract 4 4 4 v0:8)", "(zext 9 9 v0:8)", "(sext 9 9 v0:8)", "(not 8 v0:8)", "(add 8 v0:8 v0:8)", "(ite 1 v1:1 v0:8 v0:8)"},
		"behind a whole text": {"v0:8v1:8", "v0:8 v1:8", "#8:1#8:1", "#8:1)", "v0:8)", "(not v0:8))", "(not v0:8)(not v0:8)", "(not v0:8) (not v0:8)", "(not v0:8)x", "#8:1,", "v0:8\xff"},
		"names that are none": {"(const 8 1)", "(const 8)", "(var 0 8)", "(noop)", "(plus v0:8 v0:8)", "(ad v0:8 v0:8)", "(addd v0:8 v0:8)", "(a v0:8 v0:8)", "( v0:8 v0:8)", "(v0:8 v0:8)", "(v0:8)", "(#8:1)", "(4 4 v0:8)", "(nand v0:8 v0:8)", "(neq v0:8 v0:8)", "(no t v0:8)", "(no\u0074\u0301 v0:8)"},
		"big letters":         {"(Add v0:8 v0:8)", "(ADD v0:8 v0:8)", "(adD v0:8 v0:8)", "V0:8", "(Not v0:8)", "(ITE v1:1 v0:8 v0:8)"},
		"too few kids":        {"(not)", "(not )", "(neg)", "(add v0:8)", "(add v0:8 )", "(add)", "(concat v0:8)", "(eq v0:8)", "(ite v1:1 v0:8)", "(ite v1:1)", "(ite)", "(extract 4 4)", "(extract 4 4 )", "(zext 9)", "(sext 9)"},
		"too many kids":       {"(not v0:8 v0:8)", "(neg v0:8 v0:8)", "(add v0:8 v0:8 v0:8)", "(concat v0:8 v0:8 v0:8)", "(slt v0:8 v0:8 v0:8)", "(ite v1:1 v0:8 v0:8 v0:8)", "(extract 4 4 v0:8 v0:8)", "(zext 9 v0:8 v0:8)"},
		"brackets":            {"(", ")", "()", "( )", "((", "(not v0:8", "(not (not v0:8)", "(add (not v0:8 v0:8)", "((not v0:8))", "(((((", ")v0:8(", "not v0:8", "not v0:8)", "(not (v0:8))", "[not v0:8]", "{not v0:8}", "(not", "(not ", "(add v0:8 (", "(zext 9 v0:8"},
		"no ASCII":            {"\xff", "\x80", "\x00", "\u00e9", "v0:8\u00e9", "\u00e9v0:8", "(n\u00f6t v0:8)", "(not v0:8\uff09", "\uff03\u0038:1", "#8\uff1a1", "(not \xffv0:8)", "\ufeffv0:8", "(\u0430dd v0:8 v0:8)", "\U0001f600"},
		"other":               {"v", "#", ":", "x", "0", "8", "1:2:3", "true", "v0", "w0:8", "$8:1", "(not w0:8)", "#v0:8", "v#8:1", "vv0:8", "##8:1", "v0;8", "#8;1", "(not,v0:8)"},
	} {
		t.Run(kind, func(t *testing.T) {
			for _, x := range l {
				s := term.New()
				if isText(x) {
					t.Errorf("%q is a text", cut(x))
				}
				noGet(t, s, x, api.ErrForm)
			}
		})
	}
}

// TestOpen: brackets that are never closed, as many as a text has room for.
func TestOpen(t *testing.T) {
	for _, part := range []string{"(", "(not ", "(or ", "(extract 0 8 ", "(ite v1:1 v0:8 ", "((", ")"} {
		for _, bytes := range []int{9999, 10000, 10001, 30000, 1 << 20} {
			noGet(t, term.New(), strings.Repeat(part, bytes)[:bytes], api.ErrForm)
		}
	}
}

// TestMutated: texts with a byte more, less, or in another's place, and their
// beginnings.
func TestMutated(t *testing.T) {
	alphabet := []string{"", "0", "1", "8", "9", " ", "(", ")", "#", ":", "v", "n", "d", "-", "+", "_", ".", "A", "\t", "\n", "\x00", "\x80", "\xff", "\u00e9", "v0:8", " v0:8", " 8"}
	for _, x := range []string{
		"#8:10", "v10:8", "(not v0:8)", "(add v0:8 #8:1)", "(extract 4 4 v0:8)", "(zext 16 v0:8)", "(sext 16 (neg v0:8))",
		"#64:18446744073709551615", "(ite (eq v0:8 #8:0) (not v0:8) (concat #4:1 #4:2))",
	} {
		for i := range len(x) + 1 {
			tried(t, x[:i])
			for _, part := range alphabet {
				tried(t, x[:i]+part+x[i:])
				tried(t, x[:i]+part+x[min(i+1, len(x)):])
			}
		}
	}
}

// tried holds Get of any bytes against whether they are a text.
func tried(t *testing.T, x string) {
	t.Helper()
	s := term.New()
	id, e := text.Get(s, x)
	if (e != api.ErrForm) != isText(x) {
		t.Errorf("Get(%q): %d; a text: %v", x, e, isText(x))
	}
	if e != api.OK {
		noGet(t, s, x, e)
		return
	}
	puts(t, s, id, x)
}

// TestTermErrors: term's own errors, each in a store that has variable 0 of 8
// bits and variable 1 of 1 bit.
func TestTermErrors(t *testing.T) {
	for x, want := range map[string]api.Errno{
		"#0:0":                                  api.ErrArg,
		"#65:0":                                 api.ErrArg,
		"#8:256":                                api.ErrArg,
		"#1:2":                                  api.ErrArg,
		"#64:18446744073709551615":              api.OK,
		"#255:0":                                api.ErrArg,
		"#256:0":                                api.ErrArg,
		"#264:0":                                api.ErrArg,
		"#4294967304:0":                         api.ErrArg,
		"#18446744073709551615:0":               api.ErrArg,
		"#18446744073709551368:0":               api.ErrArg,
		"v0:8":                                  api.OK,
		"v0:4":                                  api.ErrTwice,
		"v1:8":                                  api.ErrTwice,
		"v0:0":                                  api.ErrArg,
		"v0:65":                                 api.ErrArg,
		"v0:264":                                api.ErrArg,
		"v2:264":                                api.ErrArg,
		"v2:4294967304":                         api.ErrArg,
		"v2:18446744073709551615":               api.ErrArg,
		"v255:8":                                api.OK,
		"v256:8":                                api.ErrArg,
		"v4294967296:8":                         api.ErrArg,
		"v18446744073709551615:8":               api.ErrArg,
		"(add v0:8 v1:1)":                       api.ErrArg,
		"(eq v1:1 v0:8)":                        api.ErrArg,
		"(shl v0:8 #4:1)":                       api.ErrArg,
		"(concat v2:60 #5:0)":                   api.ErrArg,
		"(concat v2:64 #64:0)":                  api.ErrArg,
		"(concat v2:60 #4:0)":                   api.OK,
		"(ite v0:8 v0:8 v0:8)":                  api.ErrArg,
		"(ite v1:1 v0:8 v1:1)":                  api.ErrArg,
		"(ite v1:1 v1:1 v0:8)":                  api.ErrArg,
		"(extract 0 8 v0:8)":                    api.OK,
		"(extract 7 1 v0:8)":                    api.OK,
		"(extract 0 0 v0:8)":                    api.ErrArg,
		"(extract 8 0 v0:8)":                    api.ErrArg,
		"(extract 0 9 v0:8)":                    api.ErrArg,
		"(extract 8 1 v0:8)":                    api.ErrArg,
		"(extract 5 4 v0:8)":                    api.ErrArg,
		"(extract 256 4 v0:8)":                  api.ErrArg,
		"(extract 260 4 v0:8)":                  api.ErrArg,
		"(extract 0 264 v0:8)":                  api.ErrArg,
		"(extract 4294967296 4 v0:8)":           api.ErrArg,
		"(extract 0 4294967300 v0:8)":           api.ErrArg,
		"(extract 18446744073709551615 1 v0:8)": api.ErrArg,
		"(extract 0 18446744073709551615 v0:8)": api.ErrArg,
		"(extract 18446744073709551612 4 v0:8)": api.ErrArg,
		"(zext 8 v0:8)":                         api.OK,
		"(zext 64 v0:8)":                        api.OK,
		"(zext 7 v0:8)":                         api.ErrArg,
		"(zext 0 v0:8)":                         api.ErrArg,
		"(zext 65 v0:8)":                        api.ErrArg,
		"(zext 255 v0:8)":                       api.ErrArg,
		"(zext 265 v0:8)":                       api.ErrArg,
		"(zext 4294967312 v0:8)":                api.ErrArg,
		"(zext 18446744073709551615 v0:8)":      api.ErrArg,
		"(sext 265 v0:8)":                       api.ErrArg,
		"(sext 7 v0:8)":                         api.ErrArg,
	} {
		s := term.New()
		s.Var(8, 0)
		s.Var(1, 1)
		if want != api.OK {
			noGet(t, s, x, want)
			continue
		}
		puts(t, s, got(t, s, x), x)
	}
}

// TestOrder: which error is the first: no text ahead of all of term's, then
// from the left, a node's behind its kids'.
func TestOrder(t *testing.T) {
	for _, c := range []struct {
		x    string
		want api.Errno
		more int
	}{
		{"(add #8:256 v0:4)", api.ErrArg, 0},
		{"(add v0:4 #8:256)", api.ErrTwice, 0},
		{"(add #8:255 v0:4)", api.ErrTwice, 1},
		{"(add #8:255 (not v0:4))", api.ErrTwice, 1},
		{"(add (and #8:1 #8:2) v0:4)", api.ErrTwice, 3},
		{"(add (and #8:1 #4:2) v0:4)", api.ErrArg, 2},
		{"(and #8:1 (and #4:2 v0:4))", api.ErrTwice, 2},
		{"(zext 7 v0:4)", api.ErrTwice, 0},
		{"(extract 9 9 #65:0)", api.ErrArg, 0},
		{"(extract 9 9 (or #4:1 v0:4))", api.ErrTwice, 1},
		{"(ite #2:3 #65:3 v0:4)", api.ErrArg, 1},
		{"(ite #2:3 v0:4 #65:3)", api.ErrTwice, 1},
		{"(ite #2:3 #5:3 v0:4)", api.ErrTwice, 2},
		{"(add v5:8 v5:4)", api.ErrTwice, 1},
		{"(add v5:8 (zext 8 v5:4))", api.ErrTwice, 1},
		{"(add v0:4 v0:8", api.ErrForm, 0},
		{"(add #8:256 #8:01)", api.ErrForm, 0},
		{"(add #8:7 v0:4) ", api.ErrForm, 0},
		{"(add (add #8:7 #4:7) (add #8:7))", api.ErrForm, 0},
		{strings.Repeat("(not ", 1666) + "v0:9999" + strings.Repeat(")", 1666), api.ErrForm, 0},
	} {
		s := term.New()
		s.Var(8, 0)
		noGet(t, s, c.x, c.want)
		if s.Len() != 1+c.more {
			t.Errorf("Get(%q): %d nodes more: want %d", cut(c.x), s.Len()-1, c.more)
		}
	}
}

// TestStays: what was made ahead of an error is there behind it.
func TestStays(t *testing.T) {
	s := term.New()
	noGet(t, s, "(add (not v0:8) (mul #4:1 v1:4))", api.ErrArg)
	want := []api.Node{
		{Op: api.Var, W: 8}, op(api.Not, 8, 0),
		{Op: api.Const, W: 4, N: 1}, {Op: api.Var, W: 4, N: 1}, op(api.Mul, 4, 2, 3),
	}
	if l := nodes(t, s); !slices.Equal(l, want) {
		t.Errorf("nodes %v: want %v", l, want)
	}
	noGet(t, s, "v0:4", api.ErrTwice)
	for x, id := range map[string]int{"(not v0:8)": 1, "(mul #4:1 v1:4)": 4} {
		if again := got(t, s, x); again != id {
			t.Errorf("Get(%s) = %d: want %d", x, again, id)
		}
	}
	if l := nodes(t, s); !slices.Equal(l, want) {
		t.Errorf("nodes %v: want %v", l, want)
	}
}

// TestFull: of a store that has MaxNodes, or one less.
func TestFull(t *testing.T) {
	s := term.New()
	got(t, s, "(add v0:8 #8:1)")
	for n := uint64(0); s.Len() < api.MaxNodes-1; n++ {
		s.Const(64, n)
	}
	noGet(t, s, "(add v0:8 #8:7)", api.ErrLimit)
	if s.Len() != api.MaxNodes {
		t.Fatalf("%d nodes", s.Len())
	}
	if id := got(t, s, "#8:7"); id != api.MaxNodes-1 {
		t.Errorf("Get(#8:7) = %d", id)
	}
	for x, want := range map[string]api.Errno{
		"#8:8": api.ErrLimit, "v1:8": api.ErrLimit, "(not v0:8)": api.ErrLimit, "(add #8:1 v0:8)": api.ErrLimit,
		"(add #8:9 #8:256)": api.ErrLimit, "(add #8:256 #8:9)": api.ErrArg, "(add v0:8 #4:1)": api.ErrLimit, "(add v0:8 #64:1)": api.ErrArg,
		"v0:4": api.ErrTwice, "(not #8:01)": api.ErrForm, "": api.ErrForm,
	} {
		noGet(t, s, x, want)
	}
	id := got(t, s, "(add v0:8 #8:1)")
	puts(t, s, id, "(add v0:8 #8:1)")
	if id != 2 || s.Len() != api.MaxNodes {
		t.Errorf("Get = %d, %d nodes", id, s.Len())
	}
}

// TestBack: what is put is got as the same number, without a node more; into
// another store it comes as the same text.
func TestBack(t *testing.T) {
	r := rand.New(rand.NewSource(4))
	s, other := term.New(), term.New()
	for s.Len() < 3000 {
		if _, e := drawn(r, 1+r.Intn(64), 6, 1<<30).made(s); e != api.OK {
			t.Fatalf("a term that may not be: %d", e)
		}
	}
	before := nodes(t, s)
	for id := range s.Len() {
		x, e := text.Put(s, id)
		if e != api.OK {
			t.Fatalf("Put(%d): %d", id, e)
		}
		if again := got(t, s, x); again != id {
			t.Errorf("Get(%s) = %d: want %d", cut(x), again, id)
		}
		puts(t, other, got(t, other, x), x)
	}
	if !slices.Equal(nodes(t, s), before) {
		t.Error("the store has changed")
	}
}

// TestDrawn: terms of which some may not be: what Get answers, and leaves, is
// what making their nodes one by one does, from the left.
func TestDrawn(t *testing.T) {
	r := rand.New(rand.NewSource(5))
	count := map[api.Errno]int{}
	for _, odds := range []int{1 << 30, 100, 30, 10} {
		s, other := term.New(), term.New()
		for range 3000 {
			x := drawn(r, 1+r.Intn(64), 1+r.Intn(5), odds)
			want, wantE := x.made(other)
			id, e := text.Get(s, x.text())
			if id != want || e != wantE || s.Len() != other.Len() {
				t.Fatalf("Get(%s) = %d, %d, %d nodes: want %d, %d, %d", x.text(), id, e, s.Len(), want, wantE, other.Len())
			}
			if e == api.OK {
				puts(t, s, id, x.text())
			}
			count[e]++
		}
		if !slices.Equal(nodes(t, s), nodes(t, other)) {
			t.Error("nodes are not the same")
		}
	}
	for _, e := range []api.Errno{api.OK, api.ErrArg, api.ErrTwice} {
		if count[e] < 100 {
			t.Errorf("error %d: %d times", e, count[e])
		}
	}
}

// TestNumbers: numbers of all lengths, at each place where one stands.
func TestNumbers(t *testing.T) {
	var l []uint64
	for n := uint64(1); n < 1<<60; n *= 10 {
		l = append(l, n-1, n, n+1)
	}
	l = append(l, math.MaxInt64, 1<<63, math.MaxUint64-1, math.MaxUint64)
	for _, n := range l {
		s, d := term.New(), strconv.FormatUint(n, 10)
		puts(t, s, got(t, s, "#64:"+d), "#64:"+d)
		noGet(t, s, "#64:0"+d, api.ErrForm)
		for _, x := range []string{"#" + d + ":0", "v0:" + d, "v" + d + ":8", "(zext " + d + " #8:0)", "(sext " + d + " #8:0)", "(extract " + d + " 1 #8:0)", "(extract 0 " + d + " #8:0)"} {
			tried(t, x)
		}
	}
}
