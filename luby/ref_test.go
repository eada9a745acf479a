package luby_test

// What chapter 11 says, once more: powers are products here, nothing goes by
// shifts or by bits.

// power is 2^k.
func power(k int) int {
	p := 1
	for range k {
		p *= 2
	}
	return p
}

// wantLuby is the one of n, by the chapter's words.
func wantLuby(n int) int {
	greatest := 0
	for k := 1; power(k)-1 <= n; k++ {
		if power(k)-1 == n {
			return power(k - 1)
		}
		greatest = k
	}
	return wantLuby(n - (power(greatest) - 1))
}

// wantSequence is the first 2^k - 1: those of k-1 twice, and 2^(k-1) behind
// them.
func wantSequence(k int) []int {
	l := []int{0} // what stands at a number's place is its own
	for i := range k {
		l = append(l, l[1:]...)
		l = append(l, power(i))
	}
	return l
}

// wantLevels is how many of a list stand for the first time in it.
func wantLevels(l []int) int {
	count := 0
next:
	for i, n := range l {
		for _, m := range l[:i] {
			if m == n {
				continue next
			}
		}
		count++
	}
	return count
}
