package decode_test

import (
	"math/rand"
	"testing"

	"augury/api"
	"augury/decode"
)

// agrees holds Get of a word against the patterns, and what is put of it.
func (r *ref) agrees(t *testing.T, w uint32) {
	t.Helper()
	want, ok := r.get(w)
	got, e := decode.Get(w)
	if !ok {
		if got != want || e != api.ErrForm {
			t.Fatalf("Get(%08x) = %+v, %d: want none, ErrForm", w, got, e)
		}
		return
	}
	if got != want || e != api.OK {
		t.Fatalf("Get(%08x) = %+v, %d: want %+v", w, got, e, want)
	}
	least, e := decode.Put(got)
	if e != api.OK || least > w || least != w&r.asks(got.Op) {
		t.Fatalf("Put(%+v) = %08x, %d: %08x is its word, too", got, least, e, w)
	}
	if back, e := decode.Get(least); back != got || e != api.OK {
		t.Fatalf("Get(%08x) = %+v, %d: put was %+v", least, back, e, got)
	}
}

// asks is the bits that hang on an instruction.
func (r *ref) asks(o api.InstrOp) uint32 {
	var asked uint32
	for _, c := range r.l[o].rows {
		asked *= 2
		if c != '-' {
			asked++
		}
	}
	return asked
}

// TestAllFixed: all opcodes with all funct3, funct7 and, about those that ask
// for it, rs2.
func TestAllFixed(t *testing.T) {
	r := newRef()
	for opcode := range uint32(128) {
		for funct3 := range uint32(8) {
			for funct7 := range uint32(128) {
				for _, rest := range []uint32{0, 1 << 20, 2 << 20, 5 << 20, 31 << 20, 1 << 7, 31 << 15, 0x01ff8f80, 0x00a58500} {
					r.agrees(t, funct7<<25|funct3<<12|opcode|rest)
				}
			}
		}
	}
}

// TestDrawnWords: words with nothing in common, and those a bit or a field away
// from an instruction's.
func TestDrawnWords(t *testing.T) {
	r, draw := newRef(), rand.New(rand.NewSource(16))
	var words []uint32
	for _, c := range byHand() {
		words = append(words, c.w)
	}
	for range 200000 {
		w := words[draw.Intn(len(words))]
		switch draw.Intn(4) {
		case 0:
			w = draw.Uint32()
		case 1:
			w = draw.Uint32() | 3
		case 2:
			w ^= 1 << draw.Intn(32)
		case 3:
			w = w&0xfe00707f | draw.Uint32()&^0xfe00707f
		}
		r.agrees(t, w)
	}
}

// TestEachBit: of each word each bit changed.
func TestEachBit(t *testing.T) {
	r := newRef()
	for _, c := range byHand() {
		for a := range 32 {
			for b := range 32 {
				r.agrees(t, c.w^1<<a^1<<b)
			}
		}
	}
}

// drawnInstr is an instruction, one that has no word too.
func (r *ref) drawnInstr(draw *rand.Rand) api.Instr {
	i := api.Instr{Op: api.InstrOp(1 + draw.Intn(int(api.Wfi)))}
	p := r.l[i.Op]
	i = p.read(draw.Uint32())
	l := edges()
	switch draw.Intn(10) {
	case 0:
		i.Imm = l[draw.Intn(len(l))]
	case 1:
		least, greatest, step := p.numbers()
		i.Imm = int32([]int64{least, greatest, least - step, greatest + step, greatest + 1, least + 1}[draw.Intn(6)])
	case 2:
		*[]*uint8{&i.Rd, &i.Rs1, &i.Rs2}[draw.Intn(3)] = uint8(draw.Intn(256))
	case 3:
		i.Csr = uint16(draw.Intn(65536) >> draw.Intn(8))
	case 4:
		i.Op = api.InstrOp(draw.Intn(256))
	case 5:
		i.Imm = int32(draw.Uint32()) >> draw.Intn(32)
	}
	return i
}

// TestDrawnInstrs: what is put is got; and what isn't put, is no word's.
func TestDrawnInstrs(t *testing.T) {
	r, draw := newRef(), rand.New(rand.NewSource(1616))
	put := 0
	for range 200000 {
		i := r.drawnInstr(draw)
		want, ok := r.put(i)
		got, e := decode.Put(i)
		if !ok {
			if got != 0 || e != api.ErrArg {
				t.Fatalf("Put(%+v) = %08x, %d: want none, ErrArg", i, got, e)
			}
			continue
		}
		put++
		if got != want || e != api.OK {
			t.Fatalf("Put(%+v) = %08x, %d: want %08x", i, got, e, want)
		}
		if back, e := decode.Get(got); back != i || e != api.OK {
			t.Fatalf("Get(%08x) = %+v, %d: put was %+v", got, back, e, i)
		}
	}
	if put < 50000 || put > 190000 {
		t.Errorf("%d of the drawn ones were put", put)
	}
}
