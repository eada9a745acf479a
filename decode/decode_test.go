package decode_test

import (
	"math"
	"testing"

	"augury/api"
	"augury/decode"
)

// refused holds that a word is no instruction's.
func refused(t *testing.T, w uint32) {
	t.Helper()
	if got, e := decode.Get(w); got != (api.Instr{}) || e != api.ErrForm {
		t.Errorf("Get(%08x) = %+v, %d: want none, ErrForm", w, got, e)
	}
}

// unput holds that an instruction has no word.
func unput(t *testing.T, i api.Instr) {
	t.Helper()
	if got, e := decode.Put(i); got != 0 || e != api.ErrArg {
		t.Errorf("Put(%+v) = %08x, %d: want 0, ErrArg", i, got, e)
	}
}

// gets holds that a word is an instruction's.
func gets(t *testing.T, w uint32, want api.Instr) {
	t.Helper()
	if got, e := decode.Get(w); got != want || e != api.OK {
		t.Errorf("Get(%08x) = %+v, %d: want %+v", w, got, e, want)
	}
}

// puts holds that a word is the least one of an instruction.
func puts(t *testing.T, i api.Instr, want uint32) {
	t.Helper()
	if got, e := decode.Put(i); got != want || e != api.OK {
		t.Errorf("Put(%+v) = %08x, %d: want %08x", i, got, e, want)
	}
}

func TestExamples(t *testing.T) {
	gets(t, 0x00500093, api.Instr{Op: api.Addi, Rd: 1, Rs1: 0, Imm: 5})
	gets(t, 0xfe208ee3, api.Instr{Op: api.Beq, Rs1: 1, Rs2: 2, Imm: -4})
	gets(t, 0x1005202f, api.Instr{Op: api.LrW, Rd: 0, Rs1: 10})
	refused(t, 0)
	puts(t, api.Instr{Op: api.Addi, Rd: 1, Rs1: 0, Imm: 5}, 0x00500093)
	unput(t, api.Instr{Op: api.Addi, Imm: 2048})
}

// TestLowestBits: a word whose lowest two bits are not both 1 is none, whatever
// else it is.
func TestLowestBits(t *testing.T) {
	for _, c := range byHand() {
		for _, off := range []uint32{1, 2, 3} {
			refused(t, c.w&^off)
		}
	}
	refused(t, math.MaxUint32-1)
}

// TestOtherOpcodes: of no other opcode is anything an instruction.
func TestOtherOpcodes(t *testing.T) {
	had := map[uint32]bool{}
	for _, c := range byHand() {
		had[c.w%128] = true
	}
	if len(had) != 12 {
		t.Errorf("%d opcodes", len(had))
	}
	for opcode := range uint32(128) {
		if had[opcode] {
			continue
		}
		for _, c := range byHand() {
			refused(t, c.w&^127|opcode)
		}
		refused(t, opcode)
		refused(t, math.MaxUint32&^127|opcode)
	}
}

// TestOtherFunct3: of the opcodes that ask for it, the funct3 that are none.
func TestOtherFunct3(t *testing.T) {
	for opcode, l := range map[uint32][]uint32{
		0x67: {1, 2, 3, 4, 5, 6, 7},
		0x03: {3, 6, 7},
		0x23: {3, 4, 5, 6, 7},
		0x63: {2, 3},
		0x2f: {0, 1, 3, 4, 5, 6, 7},
		0x73: {4},
		0x0f: {2, 3, 4, 5, 6, 7},
	} {
		for _, funct3 := range l {
			for funct7 := range uint32(128) {
				for _, rest := range []uint32{0, 31 << 7, 31 << 15, 31 << 20, 0x01ff8f80} {
					refused(t, funct7<<25|rest|funct3<<12|opcode)
				}
			}
		}
	}
}

// TestOtherFunct7: of the opcodes that ask for it, the funct7 that are none.
func TestOtherFunct7(t *testing.T) {
	some := func(opcode, funct3 uint32, are ...uint32) {
		may := map[uint32]bool{}
		for _, funct7 := range are {
			may[funct7] = true
		}
		for funct7 := range uint32(128) {
			for _, rest := range []uint32{0, 31 << 7, 31 << 15, 31 << 20, 0x01ff8f80} {
				w := funct7<<25 | rest | funct3<<12 | opcode
				if _, e := decode.Get(w); may[funct7] != (e == api.OK) {
					t.Errorf("Get(%08x) answers %d", w, e)
				}
				if !may[funct7] {
					refused(t, w)
				}
			}
		}
	}
	some(0x13, 1, 0)
	some(0x13, 5, 0, 0x20)
	some(0x33, 0, 0, 0x20, 1)
	some(0x33, 5, 0, 0x20, 1)
	for _, funct3 := range []uint32{1, 2, 3, 4, 6, 7} {
		some(0x33, funct3, 0, 1)
	}
}

// TestOtherAtomic: the highest five bits tell the instruction; the next two are
// not asked for.
func TestOtherAtomic(t *testing.T) {
	are := map[uint32]api.InstrOp{
		2: api.LrW, 3: api.ScW, 1: api.AmoSwap, 0: api.AmoAdd, 4: api.AmoXor, 0xc: api.AmoAnd,
		8: api.AmoOr, 0x10: api.AmoMin, 0x14: api.AmoMax, 0x18: api.AmoMinu, 0x1c: api.AmoMaxu,
	}
	for five := range uint32(32) {
		for two := range uint32(4) {
			for rs2 := range uint32(32) {
				w := five<<27 | two<<25 | rs2<<20 | 7<<15 | 2<<12 | 9<<7 | 0x2f
				o := are[five]
				if o == api.NoInstr || o == api.LrW && rs2 != 0 {
					refused(t, w)
					continue
				}
				i := api.Instr{Op: o, Rd: 9, Rs1: 7, Rs2: uint8(rs2)}
				gets(t, w, i)
				puts(t, i, w&^(3<<25))
			}
		}
	}
}

// TestFences: nothing beside opcode and funct3 is asked for.
func TestFences(t *testing.T) {
	for bit := range 32 {
		if bit < 7 || bit >= 12 && bit < 15 {
			continue
		}
		gets(t, 0x0f|1<<bit, api.Instr{Op: api.Fence})
		gets(t, 0x100f|1<<bit, api.Instr{Op: api.FenceI})
	}
	gets(t, 0xffff8f8f, api.Instr{Op: api.Fence})
	gets(t, 0xffff9f8f, api.Instr{Op: api.FenceI})
	gets(t, 0x0ff0000f, api.Instr{Op: api.Fence})
	puts(t, api.Instr{Op: api.Fence}, 0x0f)
	puts(t, api.Instr{Op: api.FenceI}, 0x100f)
}

// TestAlone: of those that stand alone each bit is asked for.
func TestAlone(t *testing.T) {
	words := map[uint32]api.InstrOp{0x73: api.Ecall, 0x00100073: api.Ebreak, 0x30200073: api.Mret, 0x10500073: api.Wfi}
	for w, o := range words {
		gets(t, w, api.Instr{Op: o})
		for bit := 7; bit < 32; bit++ {
			other := w ^ 1<<bit
			if bit >= 12 && bit < 15 || words[other] != api.NoInstr {
				continue
			}
			refused(t, other)
		}
	}
	refused(t, 0x00200073)
	refused(t, 0xfff00073)
}

// TestPutRegisters: a register above 31 is none, nor is one that the form
// doesn't have.
func TestPutRegisters(t *testing.T) {
	l := patterns()
	for o := api.Lui; o <= api.Wfi; o++ {
		for k, sign := range []string{"d", "s", "t"} {
			for n := range 256 {
				i := api.Instr{Op: o}
				*[]*uint8{&i.Rd, &i.Rs1, &i.Rs2}[k] = uint8(n)
				if n == 0 || n < 32 && l[o].has(sign) > 0 {
					puts(t, i, l[o].write(i))
				} else {
					unput(t, i)
				}
			}
		}
	}
}

// TestPutCsr: it has 12 bits, of six instructions alone.
func TestPutCsr(t *testing.T) {
	for o := api.Lui; o <= api.Wfi; o++ {
		for n := range 65536 {
			i := api.Instr{Op: o, Csr: uint16(n)}
			_, e := decode.Put(i)
			if may := n == 0 || n < 4096 && o >= api.Csrrw && o <= api.Csrrci; may != (e == api.OK) {
				t.Fatalf("Put(%+v) answers %d", i, e)
			}
		}
	}
	puts(t, api.Instr{Op: api.Csrrc, Csr: 4095}, 0xfff03073)
	puts(t, api.Instr{Op: api.Csrrci, Csr: 2048}, 0x80007073)
	unput(t, api.Instr{Op: api.Csrrc, Csr: 4096})
	unput(t, api.Instr{Op: api.Csrrci, Csr: math.MaxUint16})
}

// TestPutNumbers: numbers just within and just beyond what a form has, and
// between its steps.
func TestPutNumbers(t *testing.T) {
	for _, c := range []struct {
		first, last           api.InstrOp
		least, greatest, step int64
	}{
		{api.Lui, api.Auipc, math.MinInt32, math.MaxInt32 - 4095, 4096},
		{api.Jal, api.Jal, -1 << 20, 1<<20 - 2, 2},
		{api.Jalr, api.Andi, -2048, 2047, 1},
		{api.Slli, api.Srai, 0, 31, 1},
		{api.Sb, api.Sw, -2048, 2047, 1},
		{api.Beq, api.Bgeu, -4096, 4094, 2},
		{api.RAdd, api.Csrrc, 0, 0, 1},
		{api.Csrrwi, api.Csrrci, 0, 31, 1},
		{api.Fence, api.Wfi, 0, 0, 1},
	} {
		for o := c.first; o <= c.last; o++ {
			for _, n := range edges() {
				i := api.Instr{Op: o, Imm: n}
				if v := int64(n); v < c.least || v > c.greatest || v%c.step != 0 {
					unput(t, i)
					continue
				}
				w, e := decode.Put(i)
				if e != api.OK {
					t.Errorf("Put(%+v) answers %d", i, e)
				}
				gets(t, w, i)
			}
		}
	}
}

// edges is all small numbers, and those about each power of two, with either
// sign.
func edges() []int32 {
	var l []int32
	for n := int32(-70); n <= 70; n++ {
		l = append(l, n)
	}
	for bit := 6; bit < 32; bit++ {
		for d := int32(-3); d <= 3; d++ {
			l = append(l, int32(1)<<bit+d, -(int32(1)<<bit)+d)
		}
	}
	for _, n := range []int32{4096, 8192, 1 << 30, math.MaxInt32 - 4095} {
		l = append(l, n, n+2048, n+1, -n)
	}
	return append(l, math.MaxInt32, math.MinInt32, math.MinInt32+4096)
}

// TestPutNone: of no instruction there is no word.
func TestPutNone(t *testing.T) {
	for o := range 256 {
		if api.InstrOp(o) >= api.Lui && api.InstrOp(o) <= api.Wfi {
			continue
		}
		unput(t, api.Instr{Op: api.InstrOp(o)})
		unput(t, api.Instr{Op: api.InstrOp(o), Rd: 1, Rs1: 1, Rs2: 1, Imm: 4, Csr: 0x300})
	}
}

// TestPutOthersFields: what the form doesn't have is 0.
func TestPutOthersFields(t *testing.T) {
	for _, i := range []api.Instr{
		{Op: api.Lui, Rs1: 1}, {Op: api.Lui, Imm: 1}, {Op: api.Lui, Imm: 4095}, {Op: api.Auipc, Csr: 1},
		{Op: api.Jal, Rs2: 1}, {Op: api.Jalr, Rs2: 1}, {Op: api.Addi, Rs2: 5, Imm: 5}, {Op: api.Slli, Rs2: 1, Imm: 1},
		{Op: api.Sw, Rd: 1}, {Op: api.Beq, Rd: 2}, {Op: api.RAdd, Imm: 1}, {Op: api.RMul, Csr: 1},
		{Op: api.LrW, Rs2: 1}, {Op: api.ScW, Imm: 1}, {Op: api.AmoAdd, Csr: 1}, {Op: api.Csrrw, Rs2: 1}, {Op: api.Csrrw, Imm: 1},
		{Op: api.Csrrwi, Rs1: 1}, {Op: api.Csrrwi, Rs1: 1, Imm: 1}, {Op: api.Fence, Imm: 255}, {Op: api.FenceI, Rd: 1},
		{Op: api.Ecall, Rd: 1}, {Op: api.Ebreak, Imm: 1}, {Op: api.Mret, Rs2: 2}, {Op: api.Wfi, Csr: 0x105},
	} {
		unput(t, i)
	}
}

// TestName: each instruction's name, and of none an empty one.
func TestName(t *testing.T) {
	want := "lui auipc jal jalr lb lh lw lbu lhu addi slti sltiu xori ori andi slli srli srai sb sh sw " +
		"beq bne blt bge bltu bgeu add sub sll slt sltu xor srl sra or and " +
		"mul mulh mulhsu mulhu div divu rem remu " +
		"lr.w sc.w amoswap.w amoadd.w amoxor.w amoand.w amoor.w amomin.w amomax.w amominu.w amomaxu.w " +
		"csrrw csrrs csrrc csrrwi csrrsi csrrci fence fence.i ecall ebreak mret wfi"
	got := ""
	for o := api.Lui; o <= api.Wfi; o++ {
		if o > api.Lui {
			got += " "
		}
		got += decode.Name(o)
		if name := patterns()[o].name; decode.Name(o) != name {
			t.Errorf("Name(%d) = %q: want %q", o, decode.Name(o), name)
		}
	}
	if got != want {
		t.Errorf("the names are %q", got)
	}
	for o := range 256 {
		if s := decode.Name(api.InstrOp(o)); (o == 0 || o > int(api.Wfi)) != (s == "") {
			t.Errorf("Name(%d) = %q", o, s)
		}
	}
}
