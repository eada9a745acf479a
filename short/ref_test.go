package short_test

import (
	"strings"

	"augury/api"
)

// What chapter 17 says, in another way than the package goes: the words as rows
// of 16 signs, the highest bit first: 0 and 1; d, s, t for the bits of rd, rs1,
// rs2; b for those of both rd and rs1; i for those of the number; - for what is
// not asked for. The first row that fits a word is what it means.

// pattern is one row's.
type pattern struct {
	signs  string
	is     api.Instr // what it has without fields; without Op it means nothing
	eighth bool      // whether registers are those from 8 on
	at     []int32   // what each i is worth; the first one less than 0, if the number has a sign
}

func patterns() []pattern {
	n := []int32{-32, 16, 8, 4, 2, 1}
	place := []int32{32, 16, 8, 4, 64}
	near := []int32{-256, 16, 8, 128, 64, 4, 2, 32}
	return []pattern{
		{"010 iii sss ii ddd 00", api.Instr{Op: api.Lw}, true, place},
		{"110 iii sss ii ttt 00", api.Instr{Op: api.Sw}, true, place},
		{"000 i bbbbb iiiii 01", api.Instr{Op: api.Addi}, false, n},
		{"010 i ddddd iiiii 01", api.Instr{Op: api.Addi}, false, n},
		{"011 - 00000 ----- 01", api.Instr{}, false, nil},
		{"011 - 00010 ----- 01", api.Instr{}, false, nil},
		{"011 0 ----- 00000 01", api.Instr{}, false, nil},
		{"011 i ddddd iiiii 01", api.Instr{Op: api.Lui}, false, []int32{-131072, 65536, 32768, 16384, 8192, 4096}},
		{"101 iiiiiiiiiii 01", api.Instr{Op: api.Jal}, false, []int32{-2048, 16, 512, 256, 1024, 64, 128, 8, 4, 2, 32}},
		{"110 iii sss iiiii 01", api.Instr{Op: api.Beq}, true, near},
		{"111 iii sss iiiii 01", api.Instr{Op: api.Bne}, true, near},
		{"100 0 00000 00000 10", api.Instr{}, false, nil},
		{"100 0 sssss 00000 10", api.Instr{Op: api.Jalr}, false, nil},
		{"100 0 ddddd ttttt 10", api.Instr{Op: api.RAdd}, false, nil},
		{"100 1 00000 00000 10", api.Instr{Op: api.Ebreak}, false, nil},
		{"100 1 sssss 00000 10", api.Instr{Op: api.Jalr, Rd: 1}, false, nil},
		{"100 1 bbbbb ttttt 10", api.Instr{Op: api.RAdd}, false, nil},
		{"000 0 bbbbb iiiii 10", api.Instr{Op: api.Slli}, false, n[1:]},
	}
}

// read is what a word is as the row says, if it fits.
func (p pattern) read(h uint16) (api.Instr, bool) {
	i, at := p.is, p.at
	regs := map[rune]*uint8{'d': &i.Rd, 's': &i.Rs1, 't': &i.Rs2}
	if p.eighth {
		for _, c := range "dst" {
			if strings.ContainsRune(p.signs, c) {
				*regs[c] = 1
			}
		}
	}
	signs := strings.ReplaceAll(p.signs, " ", "")
	for k, c := range signs {
		bit := uint8(h >> (15 - k) % 2)
		switch c {
		case '0', '1':
			if bit != uint8(c-'0') {
				return api.Instr{}, false
			}
		case 'd', 's', 't':
			*regs[c] = *regs[c]*2 + bit
		case 'b':
			i.Rd = i.Rd*2 + bit
			i.Rs1 = i.Rd
		case 'i':
			i.Imm += at[0] * int32(bit)
			at = at[1:]
		}
	}
	return i, true
}

// get is what a word means; false, if it means nothing.
func get(h uint16) (api.Instr, bool) {
	for _, p := range patterns() {
		if i, ok := p.read(h); ok {
			return i, i.Op != api.NoInstr
		}
	}
	return api.Instr{}, false
}
