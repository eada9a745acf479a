package decode_test

import (
	"slices"
	"testing"

	"augury/api"
	"augury/decode"
)

// Words put together by hand: each instruction, its fields at their least and
// greatest, its number with either sign.

// worded is an instruction and its least word.
type worded struct {
	w uint32
	i api.Instr
}

func handNumbers() []worded {
	return []worded{
		{0x00000037, api.Instr{Op: api.Lui}},
		{0x7fffffb7, api.Instr{Op: api.Lui, Rd: 31, Imm: 2147479552}},
		{0x800000b7, api.Instr{Op: api.Lui, Rd: 1, Imm: -2147483648}},
		{0xfffff2b7, api.Instr{Op: api.Lui, Rd: 5, Imm: -4096}},
		{0x00001337, api.Instr{Op: api.Lui, Rd: 6, Imm: 4096}},
		{0x00000017, api.Instr{Op: api.Auipc}},
		{0x7fffff97, api.Instr{Op: api.Auipc, Rd: 31, Imm: 2147479552}},
		{0x80000097, api.Instr{Op: api.Auipc, Rd: 1, Imm: -2147483648}},
		{0xfffff297, api.Instr{Op: api.Auipc, Rd: 5, Imm: -4096}},
		{0x00001317, api.Instr{Op: api.Auipc, Rd: 6, Imm: 4096}},
		{0x0000006f, api.Instr{Op: api.Jal}},
		{0x7fffffef, api.Instr{Op: api.Jal, Rd: 31, Imm: 1048574}},
		{0x800000ef, api.Instr{Op: api.Jal, Rd: 1, Imm: -1048576}},
		{0xfffff2ef, api.Instr{Op: api.Jal, Rd: 5, Imm: -2}},
		{0x0020036f, api.Instr{Op: api.Jal, Rd: 6, Imm: 2}},
		{0x001003ef, api.Instr{Op: api.Jal, Rd: 7, Imm: 2048}},
		{0x0000146f, api.Instr{Op: api.Jal, Rd: 8, Imm: 4096}},
		{0x00000067, api.Instr{Op: api.Jalr}},
		{0x7fff8fe7, api.Instr{Op: api.Jalr, Rd: 31, Rs1: 31, Imm: 2047}},
		{0x800100e7, api.Instr{Op: api.Jalr, Rd: 1, Rs1: 2, Imm: -2048}},
		{0xfff302e7, api.Instr{Op: api.Jalr, Rd: 5, Rs1: 6, Imm: -1}},
		{0x00000013, api.Instr{Op: api.Addi}},
		{0x7fff8f93, api.Instr{Op: api.Addi, Rd: 31, Rs1: 31, Imm: 2047}},
		{0x80010093, api.Instr{Op: api.Addi, Rd: 1, Rs1: 2, Imm: -2048}},
		{0xfff30293, api.Instr{Op: api.Addi, Rd: 5, Rs1: 6, Imm: -1}},
		{0x00002013, api.Instr{Op: api.Slti}},
		{0x7fffaf93, api.Instr{Op: api.Slti, Rd: 31, Rs1: 31, Imm: 2047}},
		{0x80012093, api.Instr{Op: api.Slti, Rd: 1, Rs1: 2, Imm: -2048}},
		{0xfff32293, api.Instr{Op: api.Slti, Rd: 5, Rs1: 6, Imm: -1}},
		{0x00003013, api.Instr{Op: api.Sltiu}},
		{0x7fffbf93, api.Instr{Op: api.Sltiu, Rd: 31, Rs1: 31, Imm: 2047}},
		{0x80013093, api.Instr{Op: api.Sltiu, Rd: 1, Rs1: 2, Imm: -2048}},
		{0xfff33293, api.Instr{Op: api.Sltiu, Rd: 5, Rs1: 6, Imm: -1}},
		{0x00004013, api.Instr{Op: api.Xori}},
		{0x7fffcf93, api.Instr{Op: api.Xori, Rd: 31, Rs1: 31, Imm: 2047}},
		{0x80014093, api.Instr{Op: api.Xori, Rd: 1, Rs1: 2, Imm: -2048}},
		{0xfff34293, api.Instr{Op: api.Xori, Rd: 5, Rs1: 6, Imm: -1}},
		{0x00006013, api.Instr{Op: api.Ori}},
		{0x7fffef93, api.Instr{Op: api.Ori, Rd: 31, Rs1: 31, Imm: 2047}},
		{0x80016093, api.Instr{Op: api.Ori, Rd: 1, Rs1: 2, Imm: -2048}},
		{0xfff36293, api.Instr{Op: api.Ori, Rd: 5, Rs1: 6, Imm: -1}},
		{0x00007013, api.Instr{Op: api.Andi}},
		{0x7fffff93, api.Instr{Op: api.Andi, Rd: 31, Rs1: 31, Imm: 2047}},
		{0x80017093, api.Instr{Op: api.Andi, Rd: 1, Rs1: 2, Imm: -2048}},
		{0xfff37293, api.Instr{Op: api.Andi, Rd: 5, Rs1: 6, Imm: -1}},
		{0x00001013, api.Instr{Op: api.Slli}},
		{0x01ff9f93, api.Instr{Op: api.Slli, Rd: 31, Rs1: 31, Imm: 31}},
		{0x01011093, api.Instr{Op: api.Slli, Rd: 1, Rs1: 2, Imm: 16}},
		{0x00005013, api.Instr{Op: api.Srli}},
		{0x01ffdf93, api.Instr{Op: api.Srli, Rd: 31, Rs1: 31, Imm: 31}},
		{0x01015093, api.Instr{Op: api.Srli, Rd: 1, Rs1: 2, Imm: 16}},
		{0x40005013, api.Instr{Op: api.Srai}},
		{0x41ffdf93, api.Instr{Op: api.Srai, Rd: 31, Rs1: 31, Imm: 31}},
		{0x41015093, api.Instr{Op: api.Srai, Rd: 1, Rs1: 2, Imm: 16}},
	}
}

func handReaches() []worded {
	return []worded{
		{0x00000003, api.Instr{Op: api.Lb}},
		{0x7fff8f83, api.Instr{Op: api.Lb, Rd: 31, Rs1: 31, Imm: 2047}},
		{0x80010083, api.Instr{Op: api.Lb, Rd: 1, Rs1: 2, Imm: -2048}},
		{0xfff30283, api.Instr{Op: api.Lb, Rd: 5, Rs1: 6, Imm: -1}},
		{0x00001003, api.Instr{Op: api.Lh}},
		{0x7fff9f83, api.Instr{Op: api.Lh, Rd: 31, Rs1: 31, Imm: 2047}},
		{0x80011083, api.Instr{Op: api.Lh, Rd: 1, Rs1: 2, Imm: -2048}},
		{0xfff31283, api.Instr{Op: api.Lh, Rd: 5, Rs1: 6, Imm: -1}},
		{0x00002003, api.Instr{Op: api.Lw}},
		{0x7fffaf83, api.Instr{Op: api.Lw, Rd: 31, Rs1: 31, Imm: 2047}},
		{0x80012083, api.Instr{Op: api.Lw, Rd: 1, Rs1: 2, Imm: -2048}},
		{0xfff32283, api.Instr{Op: api.Lw, Rd: 5, Rs1: 6, Imm: -1}},
		{0x00004003, api.Instr{Op: api.Lbu}},
		{0x7fffcf83, api.Instr{Op: api.Lbu, Rd: 31, Rs1: 31, Imm: 2047}},
		{0x80014083, api.Instr{Op: api.Lbu, Rd: 1, Rs1: 2, Imm: -2048}},
		{0xfff34283, api.Instr{Op: api.Lbu, Rd: 5, Rs1: 6, Imm: -1}},
		{0x00005003, api.Instr{Op: api.Lhu}},
		{0x7fffdf83, api.Instr{Op: api.Lhu, Rd: 31, Rs1: 31, Imm: 2047}},
		{0x80015083, api.Instr{Op: api.Lhu, Rd: 1, Rs1: 2, Imm: -2048}},
		{0xfff35283, api.Instr{Op: api.Lhu, Rd: 5, Rs1: 6, Imm: -1}},
		{0x00000023, api.Instr{Op: api.Sb}},
		{0x7fff8fa3, api.Instr{Op: api.Sb, Rs1: 31, Rs2: 31, Imm: 2047}},
		{0x80208023, api.Instr{Op: api.Sb, Rs1: 1, Rs2: 2, Imm: -2048}},
		{0xfe628fa3, api.Instr{Op: api.Sb, Rs1: 5, Rs2: 6, Imm: -1}},
		{0x00001023, api.Instr{Op: api.Sh}},
		{0x7fff9fa3, api.Instr{Op: api.Sh, Rs1: 31, Rs2: 31, Imm: 2047}},
		{0x80209023, api.Instr{Op: api.Sh, Rs1: 1, Rs2: 2, Imm: -2048}},
		{0xfe629fa3, api.Instr{Op: api.Sh, Rs1: 5, Rs2: 6, Imm: -1}},
		{0x00002023, api.Instr{Op: api.Sw}},
		{0x7fffafa3, api.Instr{Op: api.Sw, Rs1: 31, Rs2: 31, Imm: 2047}},
		{0x8020a023, api.Instr{Op: api.Sw, Rs1: 1, Rs2: 2, Imm: -2048}},
		{0xfe62afa3, api.Instr{Op: api.Sw, Rs1: 5, Rs2: 6, Imm: -1}},
		{0x00000063, api.Instr{Op: api.Beq}},
		{0x7fff8fe3, api.Instr{Op: api.Beq, Rs1: 31, Rs2: 31, Imm: 4094}},
		{0x80208063, api.Instr{Op: api.Beq, Rs1: 1, Rs2: 2, Imm: -4096}},
		{0xfe628fe3, api.Instr{Op: api.Beq, Rs1: 5, Rs2: 6, Imm: -2}},
		{0x008380e3, api.Instr{Op: api.Beq, Rs1: 7, Rs2: 8, Imm: 2048}},
		{0x00001063, api.Instr{Op: api.Bne}},
		{0x7fff9fe3, api.Instr{Op: api.Bne, Rs1: 31, Rs2: 31, Imm: 4094}},
		{0x80209063, api.Instr{Op: api.Bne, Rs1: 1, Rs2: 2, Imm: -4096}},
		{0xfe629fe3, api.Instr{Op: api.Bne, Rs1: 5, Rs2: 6, Imm: -2}},
		{0x008390e3, api.Instr{Op: api.Bne, Rs1: 7, Rs2: 8, Imm: 2048}},
		{0x00004063, api.Instr{Op: api.Blt}},
		{0x7fffcfe3, api.Instr{Op: api.Blt, Rs1: 31, Rs2: 31, Imm: 4094}},
		{0x8020c063, api.Instr{Op: api.Blt, Rs1: 1, Rs2: 2, Imm: -4096}},
		{0xfe62cfe3, api.Instr{Op: api.Blt, Rs1: 5, Rs2: 6, Imm: -2}},
		{0x0083c0e3, api.Instr{Op: api.Blt, Rs1: 7, Rs2: 8, Imm: 2048}},
		{0x00005063, api.Instr{Op: api.Bge}},
		{0x7fffdfe3, api.Instr{Op: api.Bge, Rs1: 31, Rs2: 31, Imm: 4094}},
		{0x8020d063, api.Instr{Op: api.Bge, Rs1: 1, Rs2: 2, Imm: -4096}},
		{0xfe62dfe3, api.Instr{Op: api.Bge, Rs1: 5, Rs2: 6, Imm: -2}},
		{0x0083d0e3, api.Instr{Op: api.Bge, Rs1: 7, Rs2: 8, Imm: 2048}},
		{0x00006063, api.Instr{Op: api.Bltu}},
		{0x7fffefe3, api.Instr{Op: api.Bltu, Rs1: 31, Rs2: 31, Imm: 4094}},
		{0x8020e063, api.Instr{Op: api.Bltu, Rs1: 1, Rs2: 2, Imm: -4096}},
		{0xfe62efe3, api.Instr{Op: api.Bltu, Rs1: 5, Rs2: 6, Imm: -2}},
		{0x0083e0e3, api.Instr{Op: api.Bltu, Rs1: 7, Rs2: 8, Imm: 2048}},
		{0x00007063, api.Instr{Op: api.Bgeu}},
		{0x7fffffe3, api.Instr{Op: api.Bgeu, Rs1: 31, Rs2: 31, Imm: 4094}},
		{0x8020f063, api.Instr{Op: api.Bgeu, Rs1: 1, Rs2: 2, Imm: -4096}},
		{0xfe62ffe3, api.Instr{Op: api.Bgeu, Rs1: 5, Rs2: 6, Imm: -2}},
		{0x0083f0e3, api.Instr{Op: api.Bgeu, Rs1: 7, Rs2: 8, Imm: 2048}},
	}
}

func handRegisters() []worded {
	return []worded{
		{0x00000033, api.Instr{Op: api.RAdd}},
		{0x01ff8fb3, api.Instr{Op: api.RAdd, Rd: 31, Rs1: 31, Rs2: 31}},
		{0x003100b3, api.Instr{Op: api.RAdd, Rd: 1, Rs1: 2, Rs2: 3}},
		{0x40000033, api.Instr{Op: api.RSub}},
		{0x41ff8fb3, api.Instr{Op: api.RSub, Rd: 31, Rs1: 31, Rs2: 31}},
		{0x403100b3, api.Instr{Op: api.RSub, Rd: 1, Rs1: 2, Rs2: 3}},
		{0x00001033, api.Instr{Op: api.RSll}},
		{0x01ff9fb3, api.Instr{Op: api.RSll, Rd: 31, Rs1: 31, Rs2: 31}},
		{0x003110b3, api.Instr{Op: api.RSll, Rd: 1, Rs1: 2, Rs2: 3}},
		{0x00002033, api.Instr{Op: api.RSlt}},
		{0x01ffafb3, api.Instr{Op: api.RSlt, Rd: 31, Rs1: 31, Rs2: 31}},
		{0x003120b3, api.Instr{Op: api.RSlt, Rd: 1, Rs1: 2, Rs2: 3}},
		{0x00003033, api.Instr{Op: api.RSltu}},
		{0x01ffbfb3, api.Instr{Op: api.RSltu, Rd: 31, Rs1: 31, Rs2: 31}},
		{0x003130b3, api.Instr{Op: api.RSltu, Rd: 1, Rs1: 2, Rs2: 3}},
		{0x00004033, api.Instr{Op: api.RXor}},
		{0x01ffcfb3, api.Instr{Op: api.RXor, Rd: 31, Rs1: 31, Rs2: 31}},
		{0x003140b3, api.Instr{Op: api.RXor, Rd: 1, Rs1: 2, Rs2: 3}},
		{0x00005033, api.Instr{Op: api.RSrl}},
		{0x01ffdfb3, api.Instr{Op: api.RSrl, Rd: 31, Rs1: 31, Rs2: 31}},
		{0x003150b3, api.Instr{Op: api.RSrl, Rd: 1, Rs1: 2, Rs2: 3}},
		{0x40005033, api.Instr{Op: api.RSra}},
		{0x41ffdfb3, api.Instr{Op: api.RSra, Rd: 31, Rs1: 31, Rs2: 31}},
		{0x403150b3, api.Instr{Op: api.RSra, Rd: 1, Rs1: 2, Rs2: 3}},
		{0x00006033, api.Instr{Op: api.ROr}},
		{0x01ffefb3, api.Instr{Op: api.ROr, Rd: 31, Rs1: 31, Rs2: 31}},
		{0x003160b3, api.Instr{Op: api.ROr, Rd: 1, Rs1: 2, Rs2: 3}},
		{0x00007033, api.Instr{Op: api.RAnd}},
		{0x01ffffb3, api.Instr{Op: api.RAnd, Rd: 31, Rs1: 31, Rs2: 31}},
		{0x003170b3, api.Instr{Op: api.RAnd, Rd: 1, Rs1: 2, Rs2: 3}},
		{0x02000033, api.Instr{Op: api.RMul}},
		{0x03ff8fb3, api.Instr{Op: api.RMul, Rd: 31, Rs1: 31, Rs2: 31}},
		{0x023100b3, api.Instr{Op: api.RMul, Rd: 1, Rs1: 2, Rs2: 3}},
		{0x02001033, api.Instr{Op: api.RMulh}},
		{0x03ff9fb3, api.Instr{Op: api.RMulh, Rd: 31, Rs1: 31, Rs2: 31}},
		{0x023110b3, api.Instr{Op: api.RMulh, Rd: 1, Rs1: 2, Rs2: 3}},
		{0x02002033, api.Instr{Op: api.RMulhsu}},
		{0x03ffafb3, api.Instr{Op: api.RMulhsu, Rd: 31, Rs1: 31, Rs2: 31}},
		{0x023120b3, api.Instr{Op: api.RMulhsu, Rd: 1, Rs1: 2, Rs2: 3}},
		{0x02003033, api.Instr{Op: api.RMulhu}},
		{0x03ffbfb3, api.Instr{Op: api.RMulhu, Rd: 31, Rs1: 31, Rs2: 31}},
		{0x023130b3, api.Instr{Op: api.RMulhu, Rd: 1, Rs1: 2, Rs2: 3}},
		{0x02004033, api.Instr{Op: api.RDiv}},
		{0x03ffcfb3, api.Instr{Op: api.RDiv, Rd: 31, Rs1: 31, Rs2: 31}},
		{0x023140b3, api.Instr{Op: api.RDiv, Rd: 1, Rs1: 2, Rs2: 3}},
		{0x02005033, api.Instr{Op: api.RDivu}},
		{0x03ffdfb3, api.Instr{Op: api.RDivu, Rd: 31, Rs1: 31, Rs2: 31}},
		{0x023150b3, api.Instr{Op: api.RDivu, Rd: 1, Rs1: 2, Rs2: 3}},
		{0x02006033, api.Instr{Op: api.RRem}},
		{0x03ffefb3, api.Instr{Op: api.RRem, Rd: 31, Rs1: 31, Rs2: 31}},
		{0x023160b3, api.Instr{Op: api.RRem, Rd: 1, Rs1: 2, Rs2: 3}},
		{0x02007033, api.Instr{Op: api.RRemu}},
		{0x03ffffb3, api.Instr{Op: api.RRemu, Rd: 31, Rs1: 31, Rs2: 31}},
		{0x023170b3, api.Instr{Op: api.RRemu, Rd: 1, Rs1: 2, Rs2: 3}},
	}
}

func handOthers() []worded {
	return []worded{
		{0x1000202f, api.Instr{Op: api.LrW}},
		{0x100fafaf, api.Instr{Op: api.LrW, Rd: 31, Rs1: 31}},
		{0x100120af, api.Instr{Op: api.LrW, Rd: 1, Rs1: 2}},
		{0x1800202f, api.Instr{Op: api.ScW}},
		{0x19ffafaf, api.Instr{Op: api.ScW, Rd: 31, Rs1: 31, Rs2: 31}},
		{0x183120af, api.Instr{Op: api.ScW, Rd: 1, Rs1: 2, Rs2: 3}},
		{0x0800202f, api.Instr{Op: api.AmoSwap}},
		{0x09ffafaf, api.Instr{Op: api.AmoSwap, Rd: 31, Rs1: 31, Rs2: 31}},
		{0x083120af, api.Instr{Op: api.AmoSwap, Rd: 1, Rs1: 2, Rs2: 3}},
		{0x0000202f, api.Instr{Op: api.AmoAdd}},
		{0x01ffafaf, api.Instr{Op: api.AmoAdd, Rd: 31, Rs1: 31, Rs2: 31}},
		{0x003120af, api.Instr{Op: api.AmoAdd, Rd: 1, Rs1: 2, Rs2: 3}},
		{0x2000202f, api.Instr{Op: api.AmoXor}},
		{0x21ffafaf, api.Instr{Op: api.AmoXor, Rd: 31, Rs1: 31, Rs2: 31}},
		{0x203120af, api.Instr{Op: api.AmoXor, Rd: 1, Rs1: 2, Rs2: 3}},
		{0x6000202f, api.Instr{Op: api.AmoAnd}},
		{0x61ffafaf, api.Instr{Op: api.AmoAnd, Rd: 31, Rs1: 31, Rs2: 31}},
		{0x603120af, api.Instr{Op: api.AmoAnd, Rd: 1, Rs1: 2, Rs2: 3}},
		{0x4000202f, api.Instr{Op: api.AmoOr}},
		{0x41ffafaf, api.Instr{Op: api.AmoOr, Rd: 31, Rs1: 31, Rs2: 31}},
		{0x403120af, api.Instr{Op: api.AmoOr, Rd: 1, Rs1: 2, Rs2: 3}},
		{0x8000202f, api.Instr{Op: api.AmoMin}},
		{0x81ffafaf, api.Instr{Op: api.AmoMin, Rd: 31, Rs1: 31, Rs2: 31}},
		{0x803120af, api.Instr{Op: api.AmoMin, Rd: 1, Rs1: 2, Rs2: 3}},
		{0xa000202f, api.Instr{Op: api.AmoMax}},
		{0xa1ffafaf, api.Instr{Op: api.AmoMax, Rd: 31, Rs1: 31, Rs2: 31}},
		{0xa03120af, api.Instr{Op: api.AmoMax, Rd: 1, Rs1: 2, Rs2: 3}},
		{0xc000202f, api.Instr{Op: api.AmoMinu}},
		{0xc1ffafaf, api.Instr{Op: api.AmoMinu, Rd: 31, Rs1: 31, Rs2: 31}},
		{0xc03120af, api.Instr{Op: api.AmoMinu, Rd: 1, Rs1: 2, Rs2: 3}},
		{0xe000202f, api.Instr{Op: api.AmoMaxu}},
		{0xe1ffafaf, api.Instr{Op: api.AmoMaxu, Rd: 31, Rs1: 31, Rs2: 31}},
		{0xe03120af, api.Instr{Op: api.AmoMaxu, Rd: 1, Rs1: 2, Rs2: 3}},
		{0x00001073, api.Instr{Op: api.Csrrw}},
		{0xffff9ff3, api.Instr{Op: api.Csrrw, Rd: 31, Rs1: 31, Csr: 4095}},
		{0x300110f3, api.Instr{Op: api.Csrrw, Rd: 1, Rs1: 2, Csr: 768}},
		{0x00002073, api.Instr{Op: api.Csrrs}},
		{0xffffaff3, api.Instr{Op: api.Csrrs, Rd: 31, Rs1: 31, Csr: 4095}},
		{0x300120f3, api.Instr{Op: api.Csrrs, Rd: 1, Rs1: 2, Csr: 768}},
		{0x00003073, api.Instr{Op: api.Csrrc}},
		{0xffffbff3, api.Instr{Op: api.Csrrc, Rd: 31, Rs1: 31, Csr: 4095}},
		{0x300130f3, api.Instr{Op: api.Csrrc, Rd: 1, Rs1: 2, Csr: 768}},
		{0x00005073, api.Instr{Op: api.Csrrwi}},
		{0xffffdff3, api.Instr{Op: api.Csrrwi, Rd: 31, Imm: 31, Csr: 4095}},
		{0x300150f3, api.Instr{Op: api.Csrrwi, Rd: 1, Imm: 2, Csr: 768}},
		{0x00006073, api.Instr{Op: api.Csrrsi}},
		{0xffffeff3, api.Instr{Op: api.Csrrsi, Rd: 31, Imm: 31, Csr: 4095}},
		{0x300160f3, api.Instr{Op: api.Csrrsi, Rd: 1, Imm: 2, Csr: 768}},
		{0x00007073, api.Instr{Op: api.Csrrci}},
		{0xfffffff3, api.Instr{Op: api.Csrrci, Rd: 31, Imm: 31, Csr: 4095}},
		{0x300170f3, api.Instr{Op: api.Csrrci, Rd: 1, Imm: 2, Csr: 768}},
		{0x0000000f, api.Instr{Op: api.Fence}},
		{0x0000100f, api.Instr{Op: api.FenceI}},
		{0x00000073, api.Instr{Op: api.Ecall}},
		{0x00100073, api.Instr{Op: api.Ebreak}},
		{0x30200073, api.Instr{Op: api.Mret}},
		{0x10500073, api.Instr{Op: api.Wfi}},
	}
}

// byHand is all of them.
func byHand() []worded {
	return slices.Concat(handNumbers(), handReaches(), handRegisters(), handOthers())
}

// TestByHand: each word's instruction, and each instruction's word.
func TestByHand(t *testing.T) {
	had := map[api.InstrOp]int{}
	for _, c := range byHand() {
		had[c.i.Op]++
		if got, e := decode.Get(c.w); got != c.i || e != api.OK {
			t.Errorf("Get(%08x) = %+v, %d: want %+v", c.w, got, e, c.i)
		}
		if got, e := decode.Put(c.i); got != c.w || e != api.OK {
			t.Errorf("Put(%+v) = %08x, %d: want %08x", c.i, got, e, c.w)
		}
	}
	for o := api.Lui; o <= api.Wfi; o++ {
		if had[o] == 0 {
			t.Errorf("none of %d", o)
		}
	}
	if had[api.NoInstr] != 0 || len(had) != int(api.Wfi) {
		t.Errorf("%d instructions", len(had))
	}
}
