package short_test

import (
	"testing"

	"augury/api"
	"augury/decode"
	"augury/short"
)

// gets holds that a word means an instruction.
func gets(t *testing.T, h uint16, want api.Instr) {
	t.Helper()
	if got, e := short.Get(h); got != want || e != api.OK {
		t.Errorf("Get(%04x) = %+v, %d: want %+v", h, got, e, want)
	}
}

// refused holds that a word means nothing.
func refused(t *testing.T, h uint16) {
	t.Helper()
	if got, e := short.Get(h); got != (api.Instr{}) || e != api.ErrForm {
		t.Errorf("Get(%04x) = %+v, %d: want none, ErrForm", h, got, e)
	}
}

func TestExamples(t *testing.T) {
	gets(t, 0x0505, api.Instr{Op: api.Addi, Rd: 10, Rs1: 10, Imm: 1})
	gets(t, 0x4505, api.Instr{Op: api.Addi, Rd: 10, Rs1: 0, Imm: 1})
	gets(t, 0x8082, api.Instr{Op: api.Jalr, Rd: 0, Rs1: 1, Imm: 0})
	gets(t, 0x852e, api.Instr{Op: api.RAdd, Rd: 10, Rs1: 0, Rs2: 11})
	refused(t, 0x0000)
	gets(t, 0xa001, api.Instr{Op: api.Jal, Rd: 0, Imm: 0})
	if short.Is(0x0003) {
		t.Error("Is(0003)")
	}
}

// TestIs: all words, by their lowest two bits alone.
func TestIs(t *testing.T) {
	for h := range 65536 {
		if got := short.Is(uint16(h)); got != (h%4 != 3) {
			t.Errorf("Is(%04x) = %v", h, got)
		}
	}
}

// TestAllWords: each against the rows of signs; and what it means, decode puts
// and gets again.
func TestAllWords(t *testing.T) {
	some := 0
	for h := range 65536 {
		want, ok := get(uint16(h))
		if !ok {
			refused(t, uint16(h))
			continue
		}
		some++
		gets(t, uint16(h), want)
		got, _ := short.Get(uint16(h))
		w, e := decode.Put(got)
		if e != api.OK {
			t.Errorf("Put(%+v) of %04x answers %d", got, h, e)
		}
		if back, e := decode.Get(w); back != got || e != api.OK {
			t.Errorf("Get(%08x) = %+v, %d: want %+v of %04x", w, back, e, got, h)
		}
	}
	// 2 rows of 11 bits; 2; 30 registers with 63 numbers; 1; 2; 2048 but for
	// the word without R and S; 1024.
	if all := 2*2048 + 2*2048 + 30*63 + 2048 + 2*2048 + 2047 + 1024; some != all {
		t.Errorf("%d words mean something: want %d", some, all)
	}
}

// TestLong: whose lowest two bits are both 1, means nothing here, whatever else
// it is.
func TestLong(t *testing.T) {
	for h := 3; h < 65536; h += 4 {
		refused(t, uint16(h))
	}
}

// TestNoRow: lowest two and highest three bits that no row has.
func TestNoRow(t *testing.T) {
	for low, l := range [][]int{{0, 1, 3, 4, 5, 7}, {1, 4}, {1, 2, 3, 5, 6, 7}} {
		for _, high := range l {
			for middle := range 2048 {
				refused(t, uint16(high<<13|middle<<2|low))
			}
		}
	}
}

// TestNumbers: each bit of each number alone, and all of them.
func TestNumbers(t *testing.T) {
	n := map[int]int32{12: -32, 6: 16, 5: 8, 4: 4, 3: 2, 2: 1}
	place := map[int]int32{12: 32, 11: 16, 10: 8, 6: 4, 5: 64}
	near := map[int]int32{12: -256, 11: 16, 10: 8, 6: 128, 5: 64, 4: 4, 3: 2, 2: 32}
	far := map[int]int32{12: -2048, 11: 16, 10: 512, 9: 256, 8: 1024, 7: 64, 6: 128, 5: 8, 4: 4, 3: 2, 2: 32}
	for _, c := range []struct {
		h     uint16
		i     api.Instr
		bits  map[int]int32
		times int32
	}{
		{0x4000, api.Instr{Op: api.Lw, Rd: 8, Rs1: 8}, place, 1},
		{0xc000, api.Instr{Op: api.Sw, Rs2: 8, Rs1: 8}, place, 1},
		{0x0001, api.Instr{Op: api.Addi}, n, 1},
		{0x0f81, api.Instr{Op: api.Addi, Rd: 31, Rs1: 31}, n, 1},
		{0x4001, api.Instr{Op: api.Addi}, n, 1},
		{0x6081, api.Instr{Op: api.Lui, Rd: 1}, n, 4096},
		{0xa001, api.Instr{Op: api.Jal}, far, 1},
		{0xc001, api.Instr{Op: api.Beq, Rs1: 8}, near, 1},
		{0xe001, api.Instr{Op: api.Bne, Rs1: 8}, near, 1},
		{0x0002, api.Instr{Op: api.Slli}, map[int]int32{6: 16, 5: 8, 4: 4, 3: 2, 2: 1}, 1},
	} {
		whole := c.i
		h := c.h
		for bit, worth := range c.bits {
			i := c.i
			i.Imm = worth * c.times
			gets(t, c.h|1<<bit, i)
			h |= 1 << bit
			whole.Imm += i.Imm
		}
		gets(t, h, whole)
		if c.i.Op != api.Lui {
			gets(t, c.h, c.i)
		}
	}
}

// TestEdges: the greatest and the least number of each row.
func TestEdges(t *testing.T) {
	gets(t, 0x5c60, api.Instr{Op: api.Lw, Rd: 8, Rs1: 8, Imm: 124})
	gets(t, 0xdffc, api.Instr{Op: api.Sw, Rs1: 15, Rs2: 15, Imm: 124})
	gets(t, 0x00fd, api.Instr{Op: api.Addi, Rd: 1, Rs1: 1, Imm: 31})
	gets(t, 0x1081, api.Instr{Op: api.Addi, Rd: 1, Rs1: 1, Imm: -32})
	gets(t, 0x40fd, api.Instr{Op: api.Addi, Rd: 1, Imm: 31})
	gets(t, 0x5081, api.Instr{Op: api.Addi, Rd: 1, Imm: -32})
	gets(t, 0x60fd, api.Instr{Op: api.Lui, Rd: 1, Imm: 31 * 4096})
	gets(t, 0x7081, api.Instr{Op: api.Lui, Rd: 1, Imm: -32 * 4096})
	gets(t, 0x70fd, api.Instr{Op: api.Lui, Rd: 1, Imm: -4096})
	gets(t, 0xaffd, api.Instr{Op: api.Jal, Imm: 2046})
	gets(t, 0xb001, api.Instr{Op: api.Jal, Imm: -2048})
	gets(t, 0xbffd, api.Instr{Op: api.Jal, Imm: -2})
	gets(t, 0xcc7d, api.Instr{Op: api.Beq, Rs1: 8, Imm: 254})
	gets(t, 0xd001, api.Instr{Op: api.Beq, Rs1: 8, Imm: -256})
	gets(t, 0xef8d, api.Instr{Op: api.Bne, Rs1: 15, Imm: 58})
	gets(t, 0xffad, api.Instr{Op: api.Bne, Rs1: 15, Imm: -134})
	gets(t, 0x00fe, api.Instr{Op: api.Slli, Rd: 1, Rs1: 1, Imm: 31})
}

// TestRegisters: each register in each field.
func TestRegisters(t *testing.T) {
	for r := range uint8(8) {
		a, b, of := uint16(r)<<7, uint16(r)<<2, 8+r
		gets(t, 0x4000|a, api.Instr{Op: api.Lw, Rd: 8, Rs1: of})
		gets(t, 0x4000|b, api.Instr{Op: api.Lw, Rd: of, Rs1: 8})
		gets(t, 0xc000|a, api.Instr{Op: api.Sw, Rs1: of, Rs2: 8})
		gets(t, 0xc000|b, api.Instr{Op: api.Sw, Rs1: 8, Rs2: of})
		gets(t, 0xc001|a, api.Instr{Op: api.Beq, Rs1: of})
		gets(t, 0xe001|a, api.Instr{Op: api.Bne, Rs1: of})
	}
	for r := range uint8(32) {
		a, b := uint16(r)<<7, uint16(r)<<2
		gets(t, 0x0001|a, api.Instr{Op: api.Addi, Rd: r, Rs1: r})
		gets(t, 0x4001|a, api.Instr{Op: api.Addi, Rd: r})
		gets(t, 0x0006|a, api.Instr{Op: api.Slli, Rd: r, Rs1: r, Imm: 1})
		gets(t, 0x8006|a, api.Instr{Op: api.RAdd, Rd: r, Rs2: 1})
		gets(t, 0x9006|a, api.Instr{Op: api.RAdd, Rd: r, Rs1: r, Rs2: 1})
		if r == 0 {
			continue
		}
		gets(t, 0x8002|b, api.Instr{Op: api.RAdd, Rs2: r})
		gets(t, 0x9002|b, api.Instr{Op: api.RAdd, Rs2: r})
		gets(t, 0x8002|a, api.Instr{Op: api.Jalr, Rs1: r})
		gets(t, 0x9002|a, api.Instr{Op: api.Jalr, Rd: 1, Rs1: r})
	}
}

// TestRefused: what rows with a word's lowest two and highest three bits don't
// have.
func TestRefused(t *testing.T) {
	refused(t, 0x8002) // Jalr of the register 0
	gets(t, 0x9002, api.Instr{Op: api.Ebreak})
	for r := range uint16(32) {
		refused(t, 0x6001|r<<7) // Lui, and the number is 0
		for n := range uint16(32) {
			refused(t, 0x6001|n<<2) // to the register 0
			refused(t, 0x7001|n<<2)
			refused(t, 0x6101|n<<2) // to the register 2
			refused(t, 0x7101|n<<2)
			refused(t, 0x1002|r<<7|n<<2) // Slli with bit 12
		}
	}
	gets(t, 0x7081, api.Instr{Op: api.Lui, Rd: 1, Imm: -131072})
	gets(t, 0x6185, api.Instr{Op: api.Lui, Rd: 3, Imm: 4096})
}
