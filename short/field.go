package short

// pair is some bits of a word, by the highest and the lowest of them.
type pair struct{ high, low uint8 }

// gather is the number that bits of a word make, those of the first pair the
// highest of it.
func gather(h uint16, pairs ...pair) uint32 {
	var n uint32
	for _, p := range pairs {
		bits := p.high - p.low + 1
		n = n<<bits | uint32(h)>>p.low&(1<<bits-1)
	}
	return n
}

// signed is the number of so many bits with its sign: what is shifted out above
// the sign and back again is as the sign is.
func signed(n uint32, bits uint8) int32 {
	above := 32 - bits
	return int32(n<<above) >> above
}

// register is the first register of 0 to 31.
func register(h uint16) uint8 { return uint8(gather(h, pair{11, 7})) }

// second is the second one.
func second(h uint16) uint8 { return uint8(gather(h, pair{6, 2})) }

// highEighth is the register of 8 to 15 in the higher bits.
func highEighth(h uint16) uint8 { return 8 + uint8(gather(h, pair{9, 7})) }

// lowEighth is the one in the lower bits.
func lowEighth(h uint16) uint8 { return 8 + uint8(gather(h, pair{4, 2})) }

// number is the number with its sign.
func number(h uint16) int32 { return signed(gather(h, pair{12, 12}, pair{6, 2}), 6) }

// place is the offset at which bytes are loaded and stored: a multiple of 4,
// without a sign.
func place(h uint16) int32 {
	return int32(gather(h, pair{5, 5}, pair{12, 10}, pair{6, 6}) << 2)
}

// near is the offset of Beq and Bne: an even one, with its sign.
func near(h uint16) int32 {
	half := gather(h, pair{12, 12}, pair{6, 5}, pair{2, 2}, pair{11, 10}, pair{4, 3})
	return signed(half<<1, 9)
}

// far is the offset of Jal: likewise.
func far(h uint16) int32 {
	half := gather(h, pair{12, 12}, pair{8, 8}, pair{10, 9}, pair{6, 6},
		pair{7, 7}, pair{2, 2}, pair{11, 11}, pair{5, 3})
	return signed(half<<1, 12)
}
