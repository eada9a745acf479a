package decode

import "augury/api"

// The forms.
const (
	formU = iota
	formJ
	formI
	formShift
	formS
	formB
	formR
	formLr
	formAtomic
	formCsr
	formCsrNumber
	formFence
	formAlone
)

// What a form may have, beside a number.
const (
	hasRd = 1 << iota
	hasRs1
	hasRs2
	hasCsr
)

// piece is some bits of a number: where the lowest of them stands in the word
// and in the number, and how many they are.
type piece struct{ inWord, inNumber, bits uint8 }

// form is what words of an instruction have in common.
type form struct {
	fixed  uint32 // the bits that tell the instruction
	has    uint8
	spare  uint8 // how many bits of the number are above its sign
	pieces [4]piece
}

// forms is the forms. Where the number has no sign, no bit is spare.
var forms = [...]form{
	formU:         {0x7f, hasRd, 0, [4]piece{{12, 12, 20}}},
	formJ:         {0x7f, hasRd, 11, [4]piece{{31, 20, 1}, {21, 1, 10}, {20, 11, 1}, {12, 12, 8}}},
	formI:         {0x707f, hasRd | hasRs1, 20, [4]piece{{20, 0, 12}}},
	formShift:     {0xfe00707f, hasRd | hasRs1, 0, [4]piece{{20, 0, 5}}},
	formS:         {0x707f, hasRs1 | hasRs2, 20, [4]piece{{25, 5, 7}, {7, 0, 5}}},
	formB:         {0x707f, hasRs1 | hasRs2, 19, [4]piece{{31, 12, 1}, {25, 5, 6}, {8, 1, 4}, {7, 11, 1}}},
	formR:         {0xfe00707f, hasRd | hasRs1 | hasRs2, 0, [4]piece{}},
	formLr:        {0xf9f0707f, hasRd | hasRs1, 0, [4]piece{}},
	formAtomic:    {0xf800707f, hasRd | hasRs1 | hasRs2, 0, [4]piece{}},
	formCsr:       {0x707f, hasRd | hasRs1 | hasCsr, 0, [4]piece{}},
	formCsrNumber: {0x707f, hasRd | hasCsr, 0, [4]piece{{15, 0, 5}}},
	formFence:     {0x707f, 0, 0, [4]piece{}},
	formAlone:     {0xffffffff, 0, 0, [4]piece{}},
}

// fields is what a word has of what the form has.
func (f form) fields(w uint32) api.Instr {
	i := api.Instr{Imm: f.number(w)}
	if f.has&hasRd != 0 {
		i.Rd = uint8(w >> 7 & 31)
	}
	if f.has&hasRs1 != 0 {
		i.Rs1 = uint8(w >> 15 & 31)
	}
	if f.has&hasRs2 != 0 {
		i.Rs2 = uint8(w >> 20 & 31)
	}
	if f.has&hasCsr != 0 {
		i.Csr = uint16(w >> 20)
	}
	return i
}

// bits is the word in which an instruction's fields stand, whether the form has
// them or not.
func (f form) bits(i api.Instr) uint32 {
	regs := uint32(i.Rd)<<7 | uint32(i.Rs1)<<15 | uint32(i.Rs2)<<20
	return regs | uint32(i.Csr)<<20 | f.scattered(uint32(i.Imm))
}

// number is the number that a word has: what is shifted out above its sign
// and back again is as the sign is.
func (f form) number(w uint32) int32 {
	var n uint32
	for _, p := range f.pieces {
		n |= w >> p.inWord & p.ones() << p.inNumber
	}
	return int32(n<<f.spare) >> f.spare
}

// scattered is the word in which the number's bits stand.
func (f form) scattered(n uint32) uint32 {
	var w uint32
	for _, p := range f.pieces {
		w |= n >> p.inNumber & p.ones() << p.inWord
	}
	return w
}

// ones is the number whose lowest bits, as many as the piece has, are 1.
func (p piece) ones() uint32 { return 1<<p.bits - 1 }
