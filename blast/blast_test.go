package blast_test

import (
	"math"
	"runtime/debug"
	"slices"
	"strconv"
	"testing"

	"augury/api"
	"augury/blast"
	"augury/cnf"
	"augury/term"
	"augury/text"
)

func TestExamples(t *testing.T) {
	m := newMaker(t)
	if c := m.b.Cnf(); !same(c, api.Cnf{Vars: 1, Clauses: [][]int{{1}}}) {
		t.Errorf("Cnf of a new one = %v", c)
	}
	if l := m.bits(m.get("#1:1")); l[0] != 1 {
		t.Errorf("Bits(#1:1) = %d", l)
	}
	if l := m.bits(m.get("#1:0")); l[0] != -1 {
		t.Errorf("Bits(#1:0) = %d", l)
	}
	if l := m.bits(m.get("v0:1")); len(l) != 1 {
		t.Errorf("Bits(v) = %d", l)
	}
}

// TestNone: stores, Blasters that no call made.
func TestNone(t *testing.T) {
	for _, s := range []*term.Store{nil, {}} {
		if b, e := blast.New(s); b != nil || e != api.ErrNil {
			t.Errorf("New of none = %v, %d", b, e)
		}
	}
	for _, b := range []*blast.Blaster{nil, {}} {
		for _, id := range []int{0, -1, 7, math.MaxInt} {
			if l, e := b.Bits(id); len(l) != 0 || e != api.ErrNil {
				t.Errorf("Bits(%d) of none = %d, %d", id, l, e)
			}
			if l := b.Var(id); len(l) != 0 {
				t.Errorf("Var(%d) of none = %d", id, l)
			}
		}
		if c := b.Cnf(); !isNothing(c) {
			t.Errorf("Cnf of none = %v", c)
		}
		if a := b.Model([]bool{true, true, true}); len(a) != 0 {
			t.Errorf("Model of none = %d", a)
		}
	}
}

// TestNoNode: numbers that no node has change nothing.
func TestNoNode(t *testing.T) {
	m := newMaker(t)
	m.refuses(0, api.ErrArg)
	id := m.get("(add v3:8 #8:1)")
	for _, none := range []int{-1, id + 1, math.MinInt, math.MaxInt, api.MaxNodes} {
		m.refuses(none, api.ErrArg)
	}
	if c := m.b.Cnf(); c.Vars != 1 || len(c.Clauses) != 1 {
		t.Errorf("Cnf behind refusals = %v", c)
	}
	m.follows(api.Assign{3: 255}, id)
	c := m.b.Cnf()
	m.refuses(id+1, api.ErrArg)
	if !same(m.b.Cnf(), c) {
		t.Errorf("Cnf = %v behind a refusal, was %v", m.b.Cnf(), c)
	}
	m.follows(api.Assign{3: 254}, m.get("(sub v3:8 v4:8)"))
}

// ofPair is a text of each Op that may stand above one of two texts of w bits, or
// both, where c is one of 1 bit.
func ofPair(w int, x, y, c string) []string {
	l := []string{say("not", x), say("neg", x), say("ite", c, x, y),
		say("zext", w, x), say("zext", min(64, w+3), x), say("sext", w, x), say("sext", min(64, w+3), x), say("sext", 64, x),
		say("extract", 0, w, x), say("extract", w-1, 1, x), say("extract", w/3, w-w/2, x)}
	for _, o := range slices.Concat(ofTwo, oneBit) {
		l = append(l, say(text.Name(o), x, y))
	}
	if 2*w <= 64 {
		l = append(l, say("concat", x, y))
	}
	return l
}

// TestSmall: each Op over all bits of two variables of 1 to 4.
func TestSmall(t *testing.T) {
	for w := 1; w <= 4; w++ {
		bits := ":" + strconv.Itoa(w)
		v, u := "v0"+bits, "v1"+bits
		for _, x := range ofPair(w, v, u, "v2:1") {
			m := newMaker(t)
			id := m.get(x)
			for n := range uint64(1) << (2 * w) {
				m.follows(api.Assign{n & full(w), n >> w, n % 2}, id)
			}
			m.follows(nil, id)
		}
	}
}

// TestSided: each Op over all bits of 1 to 4, where one side is a constant, or
// both are of one variable.
func TestSided(t *testing.T) {
	for w := 1; w <= 4; w++ {
		bits := ":" + strconv.Itoa(w)
		v := "v0" + bits
		with := []string{v, say("not", v), say("neg", v)}
		for n := range 1 << w {
			with = append(with, "#"+strconv.Itoa(w)+":"+strconv.Itoa(n))
		}
		m := newMaker(t)
		var ids []int
		for _, y := range with {
			for _, x := range append(ofPair(w, v, y, "v2:1"), ofPair(w, y, v, "#1:1")...) {
				ids = append(ids, m.get(x))
			}
		}
		for n := range uint64(1) << w {
			m.follows(api.Assign{n, 0, n % 2}, ids...)
		}
	}
}

// TestWide: each Op at widths to 64, at the edges of both sides.
func TestWide(t *testing.T) {
	d := newDrawer(3)
	for _, w := range []int{8, 13, 31, 32, 33, 63, 64} {
		bits := ":" + strconv.Itoa(w)
		m := newMaker(t)
		var ids []int
		for _, x := range ofPair(w, "v0"+bits, "v1"+bits, "v2:1") {
			ids = append(ids, m.get(x))
		}
		edges := []uint64{0, 1, full(w), full(w) - 1, full(w)/2 + 1, full(w) / 2, uint64(w), uint64(w) - 1, uint64(w) + 1, d.Uint64() & full(w), d.Uint64() & full(w/2)}
		for i, x := range edges {
			for j, y := range edges {
				// All pairs of all widths would take long.
				if w == 8 || (i*len(edges)+j+w)%9 == 0 {
					m.follows(api.Assign{x, y, uint64(i) % 2}, ids...)
				}
			}
		}
	}
}

// TestDrawn: drawn terms, several in one Blaster, under drawn assignments.
func TestDrawn(t *testing.T) {
	for seed := range int64(120) {
		d := newDrawer(seed)
		m := newMaker(t)
		var ids []int
		for range 1 + d.Intn(4) {
			ids = append(ids, m.get(d.term(1+d.Intn(12), 5)))
		}
		for range 6 {
			m.follows(d.assign(), ids...)
			m.alone(d.assign(), ids...)
		}
	}
}

// TestConsts: a Const's literals are that of yes and its not; above constants
// alone no clause is needed to say so, but the bits follow all the same.
func TestConsts(t *testing.T) {
	m := newMaker(t)
	for _, c := range []struct {
		text string
		want []int
	}{
		{"#4:5", []int{1, -1, 1, -1}},
		{"#1:1", []int{1}},
		{"#3:0", []int{-1, -1, -1}},
		{"#3:7", []int{1, 1, 1}},
	} {
		if l := m.bits(m.get(c.text)); !slices.Equal(l, c.want) {
			t.Errorf("Bits(%s) = %d, want %d", c.text, l, c.want)
		}
	}
	m.bits(m.get("#64:" + strconv.FormatUint(1<<63+1, 10)))
	m.bits(m.get("(mul #64:3 (udiv #64:100 #64:7))"))
	m.follows(nil, m.get("#64:"+strconv.FormatUint(1<<63+1, 10)), m.get("(mul #64:3 (udiv #64:100 #64:7))"))
	if len(m.all()) != 0 || len(m.b.Model([]bool{true, true})) != 0 {
		t.Errorf("Var, Model of constants: %d, %d", m.all(), m.b.Model([]bool{true, true}))
	}
}

// TestVars: variables' bits are variables of the clauses, each of just one, and
// are asked for with what is above them, even if that doesn't hang on them.
func TestVars(t *testing.T) {
	m := newMaker(t)
	for _, x := range []string{"v0:1", "v255:64", "v7:3", "v8:3"} {
		m.get(x)
	}
	for n := range api.MaxVars {
		if l := m.b.Var(n); len(l) != 0 {
			t.Errorf("Var(%d) = %d, of a new one", n, l)
		}
	}
	m.bits(m.get("(and v7:3 #3:0)"))
	if !slices.Equal(m.all(), []int{7}) || len(m.b.Var(7)) != 3 {
		t.Errorf("Var = %d of %d", m.b.Var(7), m.all())
	}
	m.bits(m.get("(ite #1:1 #3:1 (sub v7:3 v8:3))"))
	m.bits(m.get("(ite v0:1 v255:64 v255:64)"))
	if !slices.Equal(m.all(), []int{0, 7, 8, 255}) {
		t.Errorf("Var of %d", m.all())
	}
	seen := map[int]bool{1: true}
	for _, v := range m.all() {
		l := m.b.Var(v)
		for _, bit := range l {
			if bit <= 0 || seen[bit] {
				t.Errorf("Var(%d) = %d", v, l)
			}
			seen[bit] = true
		}
		if is := m.bits(m.get("v" + strconv.Itoa(v) + ":" + strconv.Itoa(len(l)))); !slices.Equal(is, l) {
			t.Errorf("Bits = %d, Var(%d) = %d", is, v, l)
		}
	}
	for _, n := range []int{-1, 1, 254, 256, math.MinInt, math.MaxInt} {
		if l := m.b.Var(n); len(l) != 0 {
			t.Errorf("Var(%d) = %d", n, l)
		}
	}
}

// TestModel: bits that a model doesn't have are 0; it has as many numbers as the
// greatest variable that was asked for needs.
func TestModel(t *testing.T) {
	m := newMaker(t)
	m.get("v9:8")
	for _, model := range [][]bool{nil, {}, {true}, {true, true, true}} {
		if a := m.b.Model(model); len(a) != 0 {
			t.Errorf("Model(%t) = %d", model, a)
		}
	}
	m.bits(m.get("(concat v2:4 v5:60)"))
	low, high := m.b.Var(2), m.b.Var(5)
	all := slices.Repeat([]bool{true}, m.b.Cnf().Vars+100)
	if a := m.b.Model(all); !slices.Equal(a, api.Assign{0, 0, 15, 0, 0, full(60)}) {
		t.Errorf("Model of yes = %d", a)
	}
	if a := m.b.Model(nil); !slices.Equal(a, api.Assign{0, 0, 0, 0, 0, 0}) {
		t.Errorf("Model of none = %d", a)
	}
	for n := range len(all) {
		is := m.b.Model(all[:n])
		var want [6]uint64
		for i, l := range low {
			if l < n {
				want[2] |= 1 << i
			}
		}
		for i, l := range high {
			if l < n {
				want[5] |= 1 << i
			}
		}
		if !slices.Equal(is, want[:]) {
			t.Errorf("Model of %d = %d, want %d", n, is, want)
		}
	}
}

// TestSame: the same node has the same literals, whatever came between, and
// clauses that are there stay ahead of new ones.
func TestSame(t *testing.T) {
	for seed := range int64(40) {
		d := newDrawer(seed)
		m := newMaker(t)
		var ids []int
		var was [][]int
		for range 8 {
			ids = append(ids, m.get(d.term(1+d.Intn(8), 3)))
			before := m.b.Cnf()
			was = append(was, m.bits(ids[len(ids)-1]))
			after := m.b.Cnf()
			if !same(api.Cnf{Vars: before.Vars, Clauses: after.Clauses[:len(before.Clauses)]}, before) || after.Vars < before.Vars {
				t.Fatalf("Cnf = %v, was %v", after, before)
			}
			for i, id := range ids {
				if l := m.bits(id); !slices.Equal(l, was[i]) {
					t.Errorf("Bits(%d) = %d, were %d", id, l, was[i])
				}
			}
			if !same(m.b.Cnf(), after) {
				t.Errorf("Cnf = %v behind the same nodes, was %v", m.b.Cnf(), after)
			}
		}
	}
}

// TestOthers: behind other nodes' clauses one's bits follow as before.
func TestOthers(t *testing.T) {
	for seed := range int64(40) {
		d := newDrawer(seed)
		m := newMaker(t)
		id := m.get(d.term(1+d.Intn(6), 3))
		bits := m.bits(id)
		vars, _ := m.s.Vars(id)
		first := m.b.Cnf()
		for range 4 {
			m.bits(m.get(d.term(1+d.Intn(6), 4)))
		}
		for range 10 {
			given := m.given(d.assign(), vars)
			was, is := m.units(first, given), m.units(m.b.Cnf(), given)
			for v := 1; v <= first.Vars; v++ {
				if was[v] != is[v] || was[-v] != is[-v] {
					t.Fatalf("variable %d was %t %t, is %t %t", v, was[v], was[-v], is[v], is[-v])
				}
			}
			m.worth(bits, is)
		}
	}
}

// TestAllModels: what a model says is so whichever it is: of few variables, of
// all models that the clauses have.
func TestAllModels(t *testing.T) {
	for _, x := range []string{"(udiv v0:2 v1:2)", "(mul v0:2 v1:2)", "(ite (ult v0:2 v1:2) v0:2 (neg v1:2))", "(srem v0:2 #2:3)"} {
		m := newMaker(t)
		bits := m.bits(m.get(x))
		c := m.b.Cnf()
		if c.Vars > 20 {
			t.Fatalf("%s has %d variables", x, c.Vars)
		}
		seen := 0
		for n := range 1 << c.Vars {
			model := []bool{false}
			var so = map[int]bool{}
			for v := 1; v <= c.Vars; v++ {
				yes := n>>(v-1)&1 == 1
				model = append(model, yes)
				so[v], so[-v] = yes, !yes
			}
			if !cnf.Holds(c, model) {
				continue
			}
			seen++
			a := m.b.Model(model)
			if is, want := m.worth(bits, so), m.worth(bits, m.units(c, m.given(a, m.all()))); is != want {
				t.Errorf("%s is %d under %d, want %d", x, is, a, want)
			}
		}
		if want := 1 << (2 * len(m.all())); seen != want {
			t.Errorf("%s has %d models, want %d", x, seen, want)
		}
	}
}

// nearly is a Blaster with as many clauses as there may be, or as many fewer as
// a node of 1 bit more would be too many for, and such a node. First of all it is
// asked for some Xors.
func nearly(t *testing.T, xors int) (m maker, clauses, node int) {
	t.Helper()
	m = newMaker(t)
	count := func() int { return len(m.b.Cnf().Clauses) }
	a, b := m.get("v0:1"), m.get("v1:1")
	for range xors {
		a, b = b, m.of(api.Xor, a, b)
		m.bits(b)
	}
	was := count()
	x, y := m.get("v2:64"), m.get("v3:64")
	m.bits(m.of(api.And, x, y))
	each := count() - was
	left := api.MaxClauses - count()
	for ; left >= each; left -= each {
		x, y = y, m.of(api.And, x, y)
		m.bits(m.of(api.And, x, y))
	}
	x, y = m.get("v4:1"), m.get("v5:1")
	for ; left >= each/64; left -= each / 64 {
		m.bits(m.of(api.And, x, y))
		x, y = y, m.of(api.And, x, y)
	}
	if each%64 != 0 || count() != api.MaxClauses-left {
		t.Fatalf("%d clauses, want %d", count(), api.MaxClauses-left)
	}
	return m, count(), m.of(api.And, x, y)
}

// TestLimit: as many clauses as there may be, and no more. An And has 3 of them,
// a Xor 4, so that each number of clauses is met at the end.
func TestLimit(t *testing.T) {
	met := map[int]bool{}
	for xors := range 3 {
		m, clauses, node := nearly(t, xors)
		met[api.MaxClauses-clauses] = true
		m.refuses(-1, api.ErrArg)
		m.bits(m.of(api.Not, m.get("v5:1")))
		m.bits(m.get("v6:64"))
		m.follows(api.Assign{1, 1, 5, 6, 1, 0, 7}, m.get("v2:64"), m.get("(and v2:64 v3:64)"))
		m.refuses(node, api.ErrLimit)
		m.refuses(m.get("v6:64"), api.ErrLimit)
	}
	if len(met) != 3 {
		t.Errorf("clauses that were left: %v", met)
	}
}

// TestShared: what was made once is found again: of a quotient the rest is there.
func TestShared(t *testing.T) {
	m := newMaker(t)
	for _, x := range [][2]string{
		{"(udiv v0:16 v1:16)", "(urem v0:16 v1:16)"},
		{"(sub v0:16 v1:16)", "(extract 0 9 (sub v0:16 v1:16))"},
		{"(add v0:16 v1:16)", "(add v1:16 v0:16)"},
		{"(eq v0:16 v1:16)", "(eq v1:16 v0:16)"},
		{"(ite v2:1 v0:16 v1:16)", "(ite (not v2:1) v1:16 v0:16)"},
	} {
		m.bits(m.get(x[0]))
		was := len(m.b.Cnf().Clauses)
		m.bits(m.get(x[1]))
		if is := len(m.b.Cnf().Clauses); is != was {
			t.Errorf("%s takes %d clauses behind %s", x[1], is-was, x[0])
		}
	}
}

// TestBehindLimit: each later call is refused, whatever it asks for.
func TestBehindLimit(t *testing.T) {
	m := newMaker(t)
	x, y := m.get("v0:64"), m.get("v1:64")
	m.bits(m.of(api.Add, x, y))
	z := y
	for m.s.Len() < 200 {
		z = m.of(api.Mul, m.of(api.Udiv, x, z), y)
	}
	long := m.s.Len()
	for range 2 {
		for _, id := range []int{z, x, y, m.get("#1:1"), m.get("v9:1"), -1, 100000} {
			m.refuses(id, api.ErrLimit)
		}
	}
	if c := m.b.Cnf(); !isNothing(c) || len(m.all()) != 0 || len(m.b.Model([]bool{true, true, true})) != 0 {
		t.Errorf("%d variables, %d clauses, %d", c.Vars, len(c.Clauses), m.all())
	}
	if m.s.Len() != long+2 {
		t.Errorf("Len = %d, was %d", m.s.Len(), long)
	}
	// The store is of use still.
	m.b = over(t, m.s)
	m.follows(api.Assign{7, 9}, m.of(api.Add, x, y))
}

// TestOwn: what is answered is nobody else's, and what is handed in stays.
func TestOwn(t *testing.T) {
	m := newMaker(t)
	id := m.get("(mul v0:4 v1:4)")
	bits := m.bits(id)
	c, low := m.b.Cnf(), m.b.Var(0)
	kept, keptBits, keptLow := m.b.Cnf(), slices.Clone(bits), slices.Clone(low)
	for i := range bits {
		bits[i] = 99
	}
	clear(low)
	for i := range c.Clauses {
		_ = append(c.Clauses[i], 77)
		if i > 0 && !slices.Equal(c.Clauses[i], kept.Clauses[i]) {
			t.Fatalf("clause %d = %d, was %d", i, c.Clauses[i], kept.Clauses[i])
		}
		clear(c.Clauses[i])
	}
	c.Clauses[0] = nil
	if l := m.bits(id); !slices.Equal(l, keptBits) {
		t.Errorf("Bits = %d, were %d", l, keptBits)
	}
	if l := m.b.Var(0); !slices.Equal(l, keptLow) || !slices.Equal(m.bits(m.get("v0:4")), keptLow) {
		t.Errorf("Var = %d, was %d", l, keptLow)
	}
	if !same(m.b.Cnf(), kept) {
		t.Errorf("Cnf = %v, was %v", m.b.Cnf(), kept)
	}
	_ = append(m.bits(m.get("(extract 0 2 v0:4)")), 77)
	_ = append(m.b.Var(0)[:1], 77)
	m.follows(api.Assign{5, 7}, id, m.get("v0:4"), m.get("(extract 0 2 v0:4)"))

	model := slices.Repeat([]bool{true, false}, 40)
	was := slices.Clone(model)
	a := m.b.Model(model[:30])
	clear(a)
	if a := m.b.Model(model[:30]); len(a) != 2 || a[0]+a[1] == 0 {
		t.Errorf("Model = %d", a)
	}
	if !slices.Equal(model, was) {
		t.Errorf("the model is %t, was %t", model, was)
	}
}

// TestStore: a Blaster makes no nodes, and knows those that come later.
func TestStore(t *testing.T) {
	m := newMaker(t)
	first := m.get("(sdiv v0:8 v1:8)")
	long := m.s.Len()
	m.follows(api.Assign{200, 3}, first)
	if m.s.Len() != long {
		t.Errorf("Len = %d, was %d", m.s.Len(), long)
	}
	m.refuses(long, api.ErrArg)
	second := m.get("(eq (sdiv v0:8 v1:8) v2:8)")
	m.follows(api.Assign{200, 3, 238}, first, second)
	m.follows(api.Assign{200, 3, 237}, second, first)
	other := maker{t, m.s, over(t, m.s)}
	other.follows(api.Assign{200, 3, 238}, second)
	m.follows(api.Assign{201, 3, 238}, first, second)
}

// TestAgain: the same calls have the same answers.
func TestAgain(t *testing.T) {
	for seed := range int64(20) {
		var was api.Cnf
		var bits [][]int
		for round := range 3 {
			d := newDrawer(seed)
			m := newMaker(t)
			for i := range 4 {
				l := m.bits(m.get(d.term(1+d.Intn(8), 4)))
				if round == 0 {
					bits = append(bits, l)
				} else if !slices.Equal(l, bits[i]) {
					t.Errorf("Bits = %d, were %d", l, bits[i])
				}
			}
			c := m.b.Cnf()
			if round > 0 && !same(c, was) {
				t.Errorf("Cnf = %v, was %v", c, was)
			}
			was = c
		}
	}
}

// TestLong: chains as long as a store may be, and terms whose parts stand in
// them again and again, take no stack, and little time.
func TestLong(t *testing.T) {
	defer debug.SetMaxStack(debug.SetMaxStack(1 << 16))
	m := newMaker(t)
	id := m.get("v0:64")
	for m.s.Len() < 60000 {
		id = m.made(api.Node{Op: api.Sext, W: 64, Kids: [3]int{m.made(api.Node{Op: api.Extract, W: 63, Kids: [3]int{m.of(api.Not, id)}})}})
	}
	flip := m.get("v1:1")
	for i := 0; m.s.Len() < 120000; i++ {
		flip = m.of([]api.Op{api.And, api.Or, api.Xor}[i%3], flip, m.of(api.Not, m.get("v2:1")))
	}
	doubled := m.get("v3:8")
	for m.s.Len() < 125000 {
		doubled = m.of(api.Add, doubled, doubled)
	}
	for m.s.Len() < api.MaxNodes {
		id = m.of(api.Not, id)
	}
	m.follows(api.Assign{1 << 62, 1, 1, 255}, id, flip, doubled)
	for range 1000 {
		m.bits(id)
	}
}
