package decode_test

import (
	"strings"
	"testing"

	"augury/api"
)

// What chapter 16 says, in another way than the package goes: the words of each
// instruction as a row of 32 signs, the highest bit first: 0 and 1; d, s, t for
// the bits of rd, rs1, rs2; c for those of Csr; i for those of the number; - for
// what is not asked for.

// pattern is one instruction's.
type pattern struct {
	op   api.InstrOp
	name string
	rows string
	at   []int // which bit of the number each i is
	sign int   // how many bits a number with a sign has; 0 of one without
}

// The bits of each form's number, from the highest bit of the word down.
var (
	atU     = []int{31, 30, 29, 28, 27, 26, 25, 24, 23, 22, 21, 20, 19, 18, 17, 16, 15, 14, 13, 12}
	atJ     = []int{20, 10, 9, 8, 7, 6, 5, 4, 3, 2, 1, 11, 19, 18, 17, 16, 15, 14, 13, 12}
	at12    = []int{11, 10, 9, 8, 7, 6, 5, 4, 3, 2, 1, 0} // of I and of S
	atB     = []int{12, 10, 9, 8, 7, 6, 5, 4, 3, 2, 1, 11}
	atFive  = []int{4, 3, 2, 1, 0} // of shifts, and of the last three of csr
	rowU    = "iiiiiiiiiiiiiiiiiiii ddddd "
	rowI    = "iiiiiiiiiiii sssss "
	rowS    = "iiiiiii ttttt sssss "
	rowRegs = " ttttt sssss "
	rowCsr  = "cccccccccccc "
)

func patternsOfNumbers() []pattern {
	return []pattern{
		{api.Lui, "lui", rowU + "0110111", atU, 32},
		{api.Auipc, "auipc", rowU + "0010111", atU, 32},
		{api.Jal, "jal", rowU + "1101111", atJ, 21},
		{api.Jalr, "jalr", rowI + "000 ddddd 1100111", at12, 12},
		{api.Lb, "lb", rowI + "000 ddddd 0000011", at12, 12},
		{api.Lh, "lh", rowI + "001 ddddd 0000011", at12, 12},
		{api.Lw, "lw", rowI + "010 ddddd 0000011", at12, 12},
		{api.Lbu, "lbu", rowI + "100 ddddd 0000011", at12, 12},
		{api.Lhu, "lhu", rowI + "101 ddddd 0000011", at12, 12},
		{api.Addi, "addi", rowI + "000 ddddd 0010011", at12, 12},
		{api.Slti, "slti", rowI + "010 ddddd 0010011", at12, 12},
		{api.Sltiu, "sltiu", rowI + "011 ddddd 0010011", at12, 12},
		{api.Xori, "xori", rowI + "100 ddddd 0010011", at12, 12},
		{api.Ori, "ori", rowI + "110 ddddd 0010011", at12, 12},
		{api.Andi, "andi", rowI + "111 ddddd 0010011", at12, 12},
		{api.Slli, "slli", "0000000 iiiii sssss 001 ddddd 0010011", atFive, 0},
		{api.Srli, "srli", "0000000 iiiii sssss 101 ddddd 0010011", atFive, 0},
		{api.Srai, "srai", "0100000 iiiii sssss 101 ddddd 0010011", atFive, 0},
		{api.Sb, "sb", rowS + "000 iiiii 0100011", at12, 12},
		{api.Sh, "sh", rowS + "001 iiiii 0100011", at12, 12},
		{api.Sw, "sw", rowS + "010 iiiii 0100011", at12, 12},
		{api.Beq, "beq", rowS + "000 iiiii 1100011", atB, 13},
		{api.Bne, "bne", rowS + "001 iiiii 1100011", atB, 13},
		{api.Blt, "blt", rowS + "100 iiiii 1100011", atB, 13},
		{api.Bge, "bge", rowS + "101 iiiii 1100011", atB, 13},
		{api.Bltu, "bltu", rowS + "110 iiiii 1100011", atB, 13},
		{api.Bgeu, "bgeu", rowS + "111 iiiii 1100011", atB, 13},
		{api.Csrrwi, "csrrwi", rowCsr + "iiiii 101 ddddd 1110011", atFive, 0},
		{api.Csrrsi, "csrrsi", rowCsr + "iiiii 110 ddddd 1110011", atFive, 0},
		{api.Csrrci, "csrrci", rowCsr + "iiiii 111 ddddd 1110011", atFive, 0},
	}
}

func patternsOfRegisters() []pattern {
	return []pattern{
		{op: api.RAdd, name: "add", rows: "0000000" + rowRegs + "000 ddddd 0110011"},
		{op: api.RSub, name: "sub", rows: "0100000" + rowRegs + "000 ddddd 0110011"},
		{op: api.RSll, name: "sll", rows: "0000000" + rowRegs + "001 ddddd 0110011"},
		{op: api.RSlt, name: "slt", rows: "0000000" + rowRegs + "010 ddddd 0110011"},
		{op: api.RSltu, name: "sltu", rows: "0000000" + rowRegs + "011 ddddd 0110011"},
		{op: api.RXor, name: "xor", rows: "0000000" + rowRegs + "100 ddddd 0110011"},
		{op: api.RSrl, name: "srl", rows: "0000000" + rowRegs + "101 ddddd 0110011"},
		{op: api.RSra, name: "sra", rows: "0100000" + rowRegs + "101 ddddd 0110011"},
		{op: api.ROr, name: "or", rows: "0000000" + rowRegs + "110 ddddd 0110011"},
		{op: api.RAnd, name: "and", rows: "0000000" + rowRegs + "111 ddddd 0110011"},
		{op: api.RMul, name: "mul", rows: "0000001" + rowRegs + "000 ddddd 0110011"},
		{op: api.RMulh, name: "mulh", rows: "0000001" + rowRegs + "001 ddddd 0110011"},
		{op: api.RMulhsu, name: "mulhsu", rows: "0000001" + rowRegs + "010 ddddd 0110011"},
		{op: api.RMulhu, name: "mulhu", rows: "0000001" + rowRegs + "011 ddddd 0110011"},
		{op: api.RDiv, name: "div", rows: "0000001" + rowRegs + "100 ddddd 0110011"},
		{op: api.RDivu, name: "divu", rows: "0000001" + rowRegs + "101 ddddd 0110011"},
		{op: api.RRem, name: "rem", rows: "0000001" + rowRegs + "110 ddddd 0110011"},
		{op: api.RRemu, name: "remu", rows: "0000001" + rowRegs + "111 ddddd 0110011"},
		{op: api.LrW, name: "lr.w", rows: "00010-- 00000 sssss 010 ddddd 0101111"},
		{op: api.ScW, name: "sc.w", rows: "00011--" + rowRegs + "010 ddddd 0101111"},
		{op: api.AmoSwap, name: "amoswap.w", rows: "00001--" + rowRegs + "010 ddddd 0101111"},
		{op: api.AmoAdd, name: "amoadd.w", rows: "00000--" + rowRegs + "010 ddddd 0101111"},
		{op: api.AmoXor, name: "amoxor.w", rows: "00100--" + rowRegs + "010 ddddd 0101111"},
		{op: api.AmoAnd, name: "amoand.w", rows: "01100--" + rowRegs + "010 ddddd 0101111"},
		{op: api.AmoOr, name: "amoor.w", rows: "01000--" + rowRegs + "010 ddddd 0101111"},
		{op: api.AmoMin, name: "amomin.w", rows: "10000--" + rowRegs + "010 ddddd 0101111"},
		{op: api.AmoMax, name: "amomax.w", rows: "10100--" + rowRegs + "010 ddddd 0101111"},
		{op: api.AmoMinu, name: "amominu.w", rows: "11000--" + rowRegs + "010 ddddd 0101111"},
		{op: api.AmoMaxu, name: "amomaxu.w", rows: "11100--" + rowRegs + "010 ddddd 0101111"},
		{op: api.Csrrw, name: "csrrw", rows: rowCsr + "sssss 001 ddddd 1110011"},
		{op: api.Csrrs, name: "csrrs", rows: rowCsr + "sssss 010 ddddd 1110011"},
		{op: api.Csrrc, name: "csrrc", rows: rowCsr + "sssss 011 ddddd 1110011"},
		{op: api.Fence, name: "fence", rows: "------------ ----- 000 ----- 0001111"},
		{op: api.FenceI, name: "fence.i", rows: "------------ ----- 001 ----- 0001111"},
		{op: api.Ecall, name: "ecall", rows: "000000000000 00000 000 00000 1110011"},
		{op: api.Ebreak, name: "ebreak", rows: "000000000001 00000 000 00000 1110011"},
		{op: api.Mret, name: "mret", rows: "001100000010 00000 000 00000 1110011"},
		{op: api.Wfi, name: "wfi", rows: "000100000101 00000 000 00000 1110011"},
	}
}

// patterns is all instructions, by their Op; none at 0.
func patterns() []pattern {
	l := make([]pattern, api.Wfi+1)
	for _, p := range append(patternsOfNumbers(), patternsOfRegisters()...) {
		p.rows = strings.ReplaceAll(p.rows, " ", "")
		l[p.op] = p
	}
	return l
}

// ref reads words, by what the bits of each pattern have to be.
type ref struct {
	l           []pattern
	asked, want []uint32
}

func newRef() *ref {
	r := &ref{l: patterns()}
	for _, p := range r.l {
		var asked, want uint32
		for _, c := range p.rows {
			asked, want = asked*2, want*2
			if c == '0' || c == '1' {
				asked++
				want += uint32(c - '0')
			}
		}
		r.asked, r.want = append(r.asked, asked), append(r.want, want)
	}
	return r
}

// get is the instruction that w is, and whether it is one.
func (r *ref) get(w uint32) (api.Instr, bool) {
	for o := 1; o < len(r.l); o++ {
		if w&r.asked[o] == r.want[o] {
			return r.l[o].read(w), true
		}
	}
	return api.Instr{}, false
}

// read gathers the fields, bit by bit.
func (p pattern) read(w uint32) api.Instr {
	n := api.Instr{Op: p.op}
	var imm int64
	at := p.at
	for k, c := range p.rows {
		bit := w >> (31 - k) & 1
		switch c {
		case 'd':
			n.Rd = n.Rd*2 + uint8(bit)
		case 's':
			n.Rs1 = n.Rs1*2 + uint8(bit)
		case 't':
			n.Rs2 = n.Rs2*2 + uint8(bit)
		case 'c':
			n.Csr = n.Csr*2 + uint16(bit)
		case 'i':
			if p.sign > 0 && at[0] == p.sign-1 {
				imm -= int64(bit) << at[0]
			} else {
				imm += int64(bit) << at[0]
			}
			at = at[1:]
		}
	}
	n.Imm = int32(imm)
	return n
}

// has is how many signs c the pattern has.
func (p pattern) has(c string) int { return strings.Count(p.rows, c) }

// takes is whether the fields of n are such as the pattern has.
func (p pattern) takes(n api.Instr) bool {
	for _, f := range []struct {
		n    uint64
		sign string
	}{{uint64(n.Rd), "d"}, {uint64(n.Rs1), "s"}, {uint64(n.Rs2), "t"}, {uint64(n.Csr), "c"}} {
		if f.n >= 1<<p.has(f.sign) {
			return false
		}
	}
	least, greatest, step := p.numbers()
	return int64(n.Imm) >= least && int64(n.Imm) <= greatest && int64(n.Imm)%step == 0
}

// numbers is what the pattern's number may be: from the least to the greatest,
// in steps.
func (p pattern) numbers() (least, greatest, step int64) {
	if len(p.at) == 0 {
		return 0, 0, 1
	}
	lowest := 31
	for _, b := range p.at {
		lowest = min(lowest, b)
	}
	step = 1 << lowest
	if p.sign == 0 {
		return 0, 1<<len(p.at) - step, step
	}
	half := int64(1) << (p.sign - 1)
	return -half, half - step, step
}

// write is the word of n in which all that is not asked for is 0.
func (p pattern) write(n api.Instr) uint32 {
	var w uint32
	var d, s, t, c, i int
	for _, sign := range p.rows {
		w *= 2
		switch sign {
		case '1':
			w++
		case 'd':
			d++
			w += uint32(n.Rd) >> (5 - d) & 1
		case 's':
			s++
			w += uint32(n.Rs1) >> (5 - s) & 1
		case 't':
			t++
			w += uint32(n.Rs2) >> (5 - t) & 1
		case 'c':
			c++
			w += uint32(n.Csr) >> (12 - c) & 1
		case 'i':
			w += uint32(n.Imm) >> p.at[i] & 1
			i++
		}
	}
	return w
}

// put is the least word of n, and whether there is one.
func (r *ref) put(n api.Instr) (uint32, bool) {
	if n.Op == 0 || int(n.Op) >= len(r.l) || !r.l[n.Op].takes(n) {
		return 0, false
	}
	return r.l[n.Op].write(n), true
}

// TestPatterns: each has 32 signs, and as many of each kind as there are bits.
func TestPatterns(t *testing.T) {
	for o, p := range patterns() {
		if o == 0 {
			continue
		}
		if len(p.rows) != 32 || p.op != api.InstrOp(o) || p.has("i") != len(p.at) {
			t.Errorf("the pattern of %d is %q with %d bits of a number", o, p.rows, len(p.at))
		}
		for _, c := range []string{"d", "s", "t"} {
			if n := p.has(c); n != 0 && n != 5 {
				t.Errorf("the pattern of %d has %d of %s", o, n, c)
			}
		}
	}
}
