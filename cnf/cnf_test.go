package cnf_test

import (
	"math"
	"math/rand"
	"slices"
	"strings"
	"testing"

	"augury/api"
	"augury/cnf"
)

const (
	leastInt    = math.MinInt
	greatestInt = math.MaxInt
)

func TestExamples(t *testing.T) {
	c := api.Cnf{Vars: 2, Clauses: [][]int{{1, -2}, {2}}}
	if x, e := cnf.Put(c); x != "p cnf 2 2\n1 -2 0\n2 0\n" || e != api.OK {
		t.Errorf("Put = %q, %d", x, e)
	}
	if l, ok := cnf.Units(c, nil); !slices.Equal(l, []int{2, 1}) || !ok {
		t.Errorf("Units = %d, %t", l, ok)
	}
	if l, ok := cnf.Units(c, []int{-1}); !slices.Equal(l, []int{-1, -2}) || ok {
		t.Errorf("Units of -1 = %d, %t", l, ok)
	}
	if c, e := cnf.Get("p cnf 0 0\n"); !isNothing(c) || e != api.OK {
		t.Errorf("Get = %v, %d", c, e)
	}
}

// one is clauses with one clause.
func one(vars int, clause ...int) api.Cnf {
	return api.Cnf{Vars: vars, Clauses: [][]int{clause}}
}

// maybes is clauses at the edges of what may be.
var maybes = []struct {
	c  api.Cnf
	ok bool
}{
	{api.Cnf{}, true},
	{api.Cnf{Vars: -1}, false},
	{api.Cnf{Vars: leastInt}, false},
	{api.Cnf{Vars: 1000000}, true},
	{api.Cnf{Vars: 1000001}, false},
	{api.Cnf{Vars: greatestInt}, false},
	{one(0), true},
	{one(-1), false},
	{one(-1, 1), false},
	{one(leastInt, leastInt), false},
	{one(0, 0), false},
	{one(0, 1), false},
	{one(0, -1), false},
	{one(0, leastInt), false},
	{one(1, 1), true},
	{one(1, -1), true},
	{one(1, 0), false},
	{one(1, 2), false},
	{one(1, -2), false},
	{one(7, 1, -7, 7, -1, 7), true},
	{one(7, 1, -7, 8), false},
	{one(7, 1, -7, -8), false},
	{one(7, 1, 0, -7), false},
	{one(7, leastInt), false},
	{one(7, leastInt+1), false},
	{one(7, greatestInt), false},
	{one(7, -1<<32+1), false},
	{one(7, 1<<32+1), false},
	{one(1000000, 1000000, -1000000), true},
	{one(1000000, 1000001), false},
	{one(1000000, -1000001), false},
	{one(1000000, leastInt), false},
	{one(1000001, 1), false},
	{api.Cnf{Vars: 2, Clauses: [][]int{{1}, {}, {-2, 2}}}, true},
	{api.Cnf{Vars: 2, Clauses: [][]int{{1}, {}, {-2, 3}}}, false},
	{api.Cnf{Vars: 2, Clauses: [][]int{{-3}, {}, {-2, 2}}}, false},
}

func TestMay(t *testing.T) {
	for _, m := range maybes {
		if ok := cnf.May(m.c); ok != m.ok || ok != mayBe(m.c) {
			t.Errorf("May(%v) = %t", m.c, ok)
		}
	}
}

// TestMayNot: of clauses that may not be there is no text, and nothing follows.
func TestMayNot(t *testing.T) {
	for _, m := range maybes {
		want := api.OK
		if !m.ok {
			want = api.ErrArg
		}
		if x, e := cnf.Put(m.c); e != want || (x == "") == m.ok {
			t.Errorf("Put(%v) = %q, %d", m.c, x, e)
		}
		if m.ok {
			continue
		}
		for _, given := range [][]int{nil, {1}, {-1, 2, leastInt}} {
			if l, ok := cnf.Units(m.c, given); len(l) > 0 || ok {
				t.Errorf("Units(%v, %d) = %d, %t", m.c, given, l, ok)
			}
		}
	}
}

func TestHolds(t *testing.T) {
	for _, h := range []struct {
		clauses [][]int
		m       []bool
		ok      bool
	}{
		{nil, nil, true},
		{nil, []bool{true, true}, true},
		{[][]int{{}}, nil, false},
		{[][]int{{}}, []bool{true, true}, false},
		{[][]int{{1}, {}}, []bool{true, true}, false},
		{[][]int{{}, {1}}, []bool{true, true}, false},
		{[][]int{{1}}, []bool{false, true}, true},
		{[][]int{{1}}, []bool{true, false}, false},
		{[][]int{{-1}}, []bool{false, true}, false},
		{[][]int{{-1}}, []bool{true, false}, true},
		{[][]int{{1, -1}}, []bool{false, false}, true},
		{[][]int{{1, -1}}, []bool{false, true}, true},
		{[][]int{{1, -2}}, []bool{false, true, true}, true},
		{[][]int{{1, -2}}, []bool{false, false, true}, false},
		{[][]int{{1, -2}}, []bool{false, false, false}, true},
		{[][]int{{1}, {2}}, []bool{false, true, false}, false},
		{[][]int{{1}, {2}}, []bool{false, false, true}, false},
		{[][]int{{1}, {2}}, []bool{false, true, true}, true},
		{[][]int{{2, 2}, {-1, -1}}, []bool{true, false, true}, true},
		// A variable that the model does not have is no.
		{[][]int{{1}}, nil, false},
		{[][]int{{-1}}, nil, true},
		{[][]int{{1}}, []bool{true}, false},
		{[][]int{{-1}}, []bool{true}, true},
		{[][]int{{2}}, []bool{true, true}, false},
		{[][]int{{-2}}, []bool{true, true}, true},
		{[][]int{{1, 3}}, []bool{false, true}, true},
		{[][]int{{1}, {3}}, []bool{false, true}, false},
		{[][]int{{1}, {-3}}, []bool{false, true}, true},
		{[][]int{{1000000}}, nil, false},
		{[][]int{{-1000000}}, nil, true},
		// Nor does one hold that there is not asked for.
		{[][]int{{1}}, []bool{false, true, false, true, true}, true},
	} {
		if ok := cnf.Holds(api.Cnf{Vars: 1000000, Clauses: h.clauses}, h.m); ok != h.ok {
			t.Errorf("Holds(%d, %t) = %t", h.clauses, h.m, ok)
		}
	}
	if long := make([]bool, 1000001); cnf.Holds(one(1000000, 1000000), long) || !cnf.Holds(one(1000000, -1000000), long) {
		t.Error("Holds of a long model of no")
	}
}

// TestHoldsNoLiteral: a number that is no literal makes no clause hold.
func TestHoldsNoLiteral(t *testing.T) {
	for _, l := range []int{0, leastInt, leastInt + 1, greatestInt, 1000001, -1000001} {
		for _, m := range [][]bool{nil, {true}, {false}, {true, true}} {
			if cnf.Holds(one(1, l), m) {
				t.Errorf("Holds of %d in %t", l, m)
			}
		}
	}
}

// TestHoldsDrawn: in all models of a few variables, and in their beginnings.
func TestHoldsDrawn(t *testing.T) {
	r := rand.New(rand.NewSource(81))
	for range 400 {
		vars := 1 + r.Intn(5)
		c := drawn(r, vars, r.Intn(8), 4)
		for _, m := range models(vars) {
			if ok := cnf.Holds(c, m); ok != allHold(c, m) {
				t.Fatalf("Holds(%d, %t) = %t", c.Clauses, m, ok)
			}
			short := m[:r.Intn(len(m)+1)]
			filled := append(slices.Clone(short), make([]bool, vars+1-len(short))...)
			if ok := cnf.Holds(c, short); ok != allHold(c, filled) {
				t.Fatalf("Holds(%d, %t) = %t", c.Clauses, short, ok)
			}
		}
	}
}

func TestPutGet(t *testing.T) {
	for _, p := range []struct {
		c    api.Cnf
		text string
	}{
		{api.Cnf{}, "p cnf 0 0\n"},
		{api.Cnf{Vars: 1000000}, "p cnf 1000000 0\n"},
		{one(0), "p cnf 0 1\n0\n"},
		{api.Cnf{Vars: 3, Clauses: [][]int{{}, {}}}, "p cnf 3 2\n0\n0\n"},
		{api.Cnf{Vars: 3, Clauses: [][]int{{}, {2}, {}}}, "p cnf 3 3\n0\n2 0\n0\n"},
		{api.Cnf{Vars: 3, Clauses: [][]int{{1, -2}, {}, {3, 3}}}, "p cnf 3 3\n1 -2 0\n0\n3 3 0\n"},
		{one(1, 1), "p cnf 1 1\n1 0\n"},
		{one(1, -1), "p cnf 1 1\n-1 0\n"},
		{one(10, 10, -10, 10), "p cnf 10 1\n10 -10 10 0\n"},
		{one(1000000, -1000000, 999999), "p cnf 1000000 1\n-1000000 999999 0\n"},
	} {
		if x, e := cnf.Put(p.c); x != p.text || e != api.OK {
			t.Errorf("Put(%v) = %q, %d", p.c, x, e)
		}
		if c, e := cnf.Get(p.text); !same(c, p.c) || e != api.OK {
			t.Errorf("Get(%q) = %v, %d", p.text, c, e)
		}
	}
}

// noTexts is texts of no clauses.
var noTexts = []string{
	// Not the first line.
	"", "\n", "0\n", "p", "p\n", "p cnf\n", "p cnf \n", "p cnf 0\n", "p cnf 0 \n", "p cnf  0\n", "p cnf 0 0 0\n", "cnf 0 0\n",
	"P cnf 0 0\n", "p CNF 0 0\n", "q cnf 0 0\n", "p cnf x 0\n", "p cnf 0 x\n", "p cnf 0,0\n", "c\np cnf 0 0\n", "\np cnf 0 0\n",
	"p cnf 0 0\np cnf 0 0\n",
	// Needless blanks.
	" p cnf 0 0\n", "p  cnf 0 0\n", "p cnf  0 0\n", "p cnf 0  0\n", "p cnf 0 0 \n", "p\tcnf 0 0\n", "p cnf 0\t0\n",
	"p cnf 1 1\n 1 0\n", "p cnf 1 1\n1  0\n", "p cnf 1 1\n1 0 \n", "p cnf 1 1\n 0\n", "p cnf 1 1\n0 \n", "p cnf 1 1\n1\t0\n", "p cnf 1 1\n1 1  0\n",
	// Needless noughts and signs.
	"p cnf 00 0\n", "p cnf 01 0\n", "p cnf 0 00\n", "p cnf 1 01\n0\n", "p cnf +0 0\n", "p cnf +1 0\n", "p cnf 0 +0\n", "p cnf -0 0\n", "p cnf 0 -0\n",
	"p cnf 1 +1\n0\n", "p cnf 1 1\n00\n", "p cnf 1 1\n-0\n", "p cnf 1 1\n+0\n", "p cnf 1 1\n1 00\n", "p cnf 1 1\n1 -0\n", "p cnf 1 1\n1 +0\n",
	"p cnf 1 1\n01 0\n", "p cnf 1 1\n-01 0\n", "p cnf 1 1\n0-1 0\n", "p cnf 1 1\n+1 0\n", "p cnf 1 1\n--1 0\n", "p cnf 1 1\n- 1 0\n", "p cnf 1 1\n-+1 0\n",
	// Lines that end otherwise, or do not.
	"p cnf 0 0", "p cnf 0 0\r\n", "p cnf 0 0\r", "p cnf 0 0;", "p cnf 1 1\n1 0", "p cnf 1 1\n1 0\r\n", "p cnf 1 1\r\n1 0\n", "p cnf 1 1\n1 0\r", "p cnf 1 1\n1 0\n\n",
	"p cnf 1 1\n\n1 0\n", "p cnf 0 0\n\n", "p cnf 0 0\n\x00", "p cnf 0 1\n\n", "p cnf 1 1 1 0\n", "p cnf 1 1\n1 0\x0b", "p cnf 1 1\n1 0\u2028", "p cnf 0 1\n0", "p cnf 0 2\n0\n0",
	// A line, or a 0, too few or too many.
	"p cnf 1 1\n", "p cnf 1 1\n1\n", "p cnf 1 1\n1\n0\n", "p cnf 1 2\n1\n0\n", "p cnf 1 1\n1 0 0\n", "p cnf 1 1\n0 0\n", "p cnf 1 2\n0 0\n", "p cnf 1 2\n1 0 -1 0\n",
	"p cnf 1 1\n1 0 1\n", "p cnf 1 1\n1 0 -1 0\n", "p cnf 1 1\n0 1\n", "p cnf 1 1\n0 1 0\n", "p cnf 10 1\n10\n",
	// C is not how many there are.
	"p cnf 0 1\n", "p cnf 0 0\n0\n", "p cnf 1 2\n1 0\n", "p cnf 1 1\n1 0\n1 0\n", "p cnf 1 -1\n", "p cnf 1 -1\n1 0\n", "p cnf 1 2147483648\n", "p cnf 1 4294967296\n", "p cnf 1 4294967297\n1 0\n",
	"p cnf 1 9223372036854775807\n", "p cnf 1 18446744073709551616\n", "p cnf 1 18446744073709551617\n1 0\n", "p cnf 0 100001\n", "p cnf 0 99999999999999999999999999\n",
	// No number.
	"p cnf 1 1\nx 0\n", "p cnf 1 1\n1x 0\n", "p cnf 1 1\n1 x\n", "p cnf 1 1\n1.0 0\n", "p cnf 1 1\n0x1 0\n", "p cnf 1 1\n- 0\n", "p cnf 1 1\n-\n", "p cnf 100 1\n1_0 0\n",
	"p cnf 1 1\n1,0\n", "p cnf 1 1\n１ 0\n", "p cnf 1 1\n٠\n", "p cnf 1 1\n1e0 0\n", "p cnf 1_0 0\n", "p cnf 0x1 0\n", "p cnf - 0\n", "p cnf 1 1\n\xff 0\n", "p cnf 100 1\n1\x000 0\n",
	// A literal of no variable, one too great for a number among them.
	"p cnf 0 1\n1 0\n", "p cnf 0 1\n-1 0\n", "p cnf 1 1\n2 0\n", "p cnf 1 1\n-2 0\n", "p cnf 1 1\n1 -1 2 0\n", "p cnf 1 2\n1 0\n-2 0\n", "p cnf 999999 1\n1000000 0\n", "p cnf 1000000 1\n1000001 0\n",
	"p cnf 1000000 1\n-1000001 0\n", "p cnf 1000000 1\n4294967297 0\n", "p cnf 1000000 1\n9223372036854775807 0\n", "p cnf 1000000 1\n-9223372036854775808 0\n",
	"p cnf 1000000 1\n9223372036854775808 0\n", "p cnf 1000000 1\n18446744073709551617 0\n", "p cnf 1000000 1\n-18446744073709551617 0\n", "p cnf 1 1\n18446744073709551616\n",
	// Too few, or too many, variables.
	"p cnf -1 0\n", "p cnf -1 1\n-1 0\n", "p cnf 1000001 0\n", "p cnf 1000001 1\n1 0\n", "p cnf 4294967297 0\n", "p cnf 9223372036854775808 0\n", "p cnf 18446744073709551617 0\n", "p cnf 18446744073709551617 1\n1 0\n",
}

func TestNoText(t *testing.T) {
	for _, x := range noTexts {
		if c, e := cnf.Get(x); !isNothing(c) || e != api.ErrForm {
			t.Errorf("Get(%q) = %v, %d", x, c, e)
		}
		if _, ok := isText(x); ok {
			t.Errorf("%q is a text", x)
		}
	}
}

// TestWayBack: clauses come back of their text, and that of theirs is the same;
// with a byte changed it is what the pattern says.
func TestWayBack(t *testing.T) {
	r := rand.New(rand.NewSource(82))
	texts := 0
	for range 4000 {
		c := drawn(r, []int{1, 3, 12, 120, 1000000}[r.Intn(5)], r.Intn(5), 4)
		x, e := cnf.Put(c)
		if e != api.OK {
			t.Fatalf("Put(%v): %d", c, e)
		}
		if d, e := cnf.Get(x); !same(c, d) || e != api.OK {
			t.Fatalf("Get(%q) = %v, %d", x, d, e)
		}
		for range 10 {
			y := changed(r, x)
			want, ok := isText(y)
			d, e := cnf.Get(y)
			if !same(d, want) || (e == api.OK) != ok || !ok && e != api.ErrForm {
				t.Fatalf("Get(%q) = %v, %d", y, d, e)
			}
			if !ok {
				continue
			}
			texts++
			if z, e := cnf.Put(d); z != y || e != api.OK {
				t.Fatalf("Put of %q = %q, %d", y, z, e)
			}
		}
	}
	if texts < 1000 {
		t.Errorf("%d changed texts are texts", texts)
	}
}

// long is a text of so many bytes, 20 at least, and one clause.
func long(bytes int) string {
	x := "p cnf 1 1\n"
	if bytes%2 == 1 {
		x += "-1 "
	}
	return x + strings.Repeat("1 ", (bytes-len(x)-2)/2) + "0\n"
}

// many is a text of so many clauses, all empty.
func many(count string, clauses int) string {
	return "p cnf 7 " + count + "\n" + strings.Repeat("0\n", clauses)
}

func TestLimits(t *testing.T) {
	for _, l := range []struct {
		name, text string
		want       api.Errno
	}{
		{"1000000 bytes", long(1000000), api.OK},
		{"1000001 bytes", long(1000001), api.ErrLimit},
		{"1000002 bytes", long(1000002), api.ErrLimit},
		{"3000000 bytes", long(3000000), api.ErrLimit},
		{"100000 clauses", many("100000", 100000), api.OK},
		{"100001 clauses", many("100001", 100001), api.ErrLimit},
		{"499993 clauses", many("499993", 499993), api.ErrLimit},
		{"600000 clauses", many("600000", 600000), api.ErrLimit},
		// What is no text is none, however long it is.
		{"a blank behind", long(1000000) + " ", api.ErrForm},
		{"a line behind", long(1000000) + "0\n", api.ErrForm},
		{"a line without an end", long(1000001)[:1000000], api.ErrForm},
		{"a literal of no variable", long(1000000)[:1000000-2] + "2 0\n", api.ErrForm},
		{"100000 clauses, 100001 told", many("100001", 100000), api.ErrForm},
		{"100001 clauses, 100000 told", many("100000", 100001), api.ErrForm},
		{"100001 clauses, a line empty", many("100001", 100000) + "\n", api.ErrForm},
		{"600000 clauses, 600001 told", many("600001", 600000), api.ErrForm},
	} {
		c, e := cnf.Get(l.text)
		if e != l.want || e != api.OK && !isNothing(c) {
			t.Errorf("%s: Get: %d variables, %d clauses, %d", l.name, c.Vars, len(c.Clauses), e)
		}
		if e != api.OK {
			continue
		}
		if x, e := cnf.Put(c); x != l.text || e != api.OK {
			t.Errorf("%s: Put: %d bytes, %d", l.name, len(x), e)
		}
	}
}

// TestPutHasNoLimit: of clauses above Get's limits there is a text, which Get
// does not take.
func TestPutHasNoLimit(t *testing.T) {
	for _, p := range []struct {
		c    api.Cnf
		text string
	}{
		{api.Cnf{Vars: 7, Clauses: make([][]int, 100001)}, many("100001", 100001)},
		{one(1, slices.Repeat([]int{1}, 500000)...), long(1000012)},
	} {
		x, e := cnf.Put(p.c)
		if x != p.text || e != api.OK {
			t.Errorf("Put: %d bytes, %d", len(x), e)
		}
		if c, e := cnf.Get(x); !isNothing(c) || e != api.ErrLimit {
			t.Errorf("Get: %d clauses, %d", len(c.Clauses), e)
		}
	}
}

// withRoom is l with room behind its end, which has a number of its own.
func withRoom(l []int) []int {
	roomy := append(slices.Clone(l), 12345, 12345)
	return roomy[:len(l)]
}

// TestHandedIn: what is handed in stays as it is, the room behind its end too.
func TestHandedIn(t *testing.T) {
	r := rand.New(rand.NewSource(83))
	for range 300 {
		c := drawn(r, 4, 6, 3)
		c.Clauses = append(c.Clauses, nil)[:len(c.Clauses)]
		for k := range c.Clauses {
			c.Clauses[k] = withRoom(c.Clauses[k])
		}
		given := withRoom(someGiven(r, 4))
		m := []bool{true, false, true, true, false, true}[:r.Intn(6)]
		oldC, oldGiven, oldM := cloned(c), slices.Clone(given), slices.Clone(m)
		cnf.May(c)
		cnf.Holds(c, m)
		cnf.Put(c)
		cnf.Units(c, given)
		if !same(c, oldC) || c.Clauses[:len(c.Clauses)+1][len(c.Clauses)] != nil || !slices.Equal(given, oldGiven) || !slices.Equal(m, oldM) {
			t.Fatalf("%v, %d, %t came to be %v, %d, %t", oldC, oldGiven, oldM, c, given, m)
		}
		for _, l := range append(c.Clauses, given) {
			if l = l[len(l) : len(l)+2]; l[0] != 12345 || l[1] != 12345 {
				t.Fatalf("%v, %d: behind a list are %d", c, given, l)
			}
		}
		if all := m[:6]; !slices.Equal(all, []bool{true, false, true, true, false, true}) {
			t.Fatalf("a model came to be %t", all)
		}
	}
}

// TestAnsweredIsNew: answers share no memory, the room behind their ends too.
func TestAnsweredIsNew(t *testing.T) {
	const x = "p cnf 3 4\n1 2 3 0\n-1 0\n0\n2 -3 0\n"
	want := api.Cnf{Vars: 3, Clauses: [][]int{{1, 2, 3}, {-1}, {}, {2, -3}}}
	c, _ := cnf.Get(x)
	for k := range c.Clauses {
		spoilt := c.Clauses[k][:cap(c.Clauses[k])]
		for i := range spoilt {
			spoilt[i] = 99
		}
		_ = append(c.Clauses[k], 99)
		for other := k + 1; other < len(c.Clauses); other++ {
			if !slices.Equal(c.Clauses[other], want.Clauses[other]) {
				t.Errorf("clause %d shares with clause %d", k, other)
			}
		}
	}
	if d, e := cnf.Get(x); !same(d, want) || e != api.OK {
		t.Errorf("Get shares with an answer: %v, %d", d, e)
	}
	given := withRoom([]int{1, -3})
	l, _ := cnf.Units(want, given)
	l = l[:cap(l)]
	for i := range l {
		l[i] = 99
	}
	if !slices.Equal(given, []int{1, -3}) || !slices.Equal(want.Clauses[0], []int{1, 2, 3}) {
		t.Error("Units shares with what it was handed")
	}
	if l, ok := cnf.Units(want, given); !slices.Equal(l, []int{1, -3}) || ok {
		t.Errorf("Units shares with an answer: %d, %t", l, ok)
	}
}
