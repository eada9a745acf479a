package luby_test

import (
	"math"
	"math/rand"
	"slices"
	"testing"

	"augury/api"
	"augury/luby"
)

const (
	leastInt    = math.MinInt
	greatestInt = math.MaxInt
	most        = 1 << 40
	mostSum     = 1000000
)

// lubyIs reports a Luby of n that isn't want.
func lubyIs(t *testing.T, n, want int) {
	t.Helper()
	if one, e := luby.Luby(n); one != want || e != api.OK {
		t.Errorf("Luby(%d) = %d, %d: want %d", n, one, e, want)
	}
}

// sumIs reports a Sum of n that isn't want.
func sumIs(t *testing.T, n, want int) {
	t.Helper()
	if sum, e := luby.Sum(n); sum != want || e != api.OK {
		t.Errorf("Sum(%d) = %d, %d: want %d", n, sum, e, want)
	}
}

// levelsAre reports Levels of a list that aren't want, or a list that has
// changed, or the room behind its end.
func levelsAre(t *testing.T, l []int, want int) {
	t.Helper()
	room := append(slices.Clone(l), 7, leastInt, 7)
	before := slices.Clone(room)
	for range 2 {
		if n := luby.Levels(room[:len(l)]); n != want {
			t.Errorf("Levels(%v) = %d: want %d", l, n, want)
		}
		if !slices.Equal(room, before) {
			t.Errorf("Levels(%v): it is %v", before, room)
		}
	}
}

func TestExamples(t *testing.T) {
	lubyIs(t, 1, 1)
	lubyIs(t, 3, 2)
	lubyIs(t, 6, 2)
	lubyIs(t, 7, 4)
	if n, e := luby.Luby(0); n != 0 || e != api.ErrArg {
		t.Errorf("Luby(0) = %d, %d", n, e)
	}
	sumIs(t, 7, 12)
	for i, want := range []int{1, 1, 2, 1, 1, 2, 4, 1, 1, 2, 1, 1, 2, 4, 8, 1, 1, 2, 1} {
		lubyIs(t, i+1, want)
	}
}

func TestLubyRefused(t *testing.T) {
	for _, n := range []int{
		leastInt, leastInt + 1, leastInt + 2, -most - 1, -most, -1 << 32, -1<<31 - 1, -7, -3, -2, -1, 0,
		most + 1, most + 2, most + 3, 2*most - 1, 2 * most, 1<<62 - 1, 1 << 62, greatestInt - 1, greatestInt,
	} {
		if one, e := luby.Luby(n); one != 0 || e != api.ErrArg {
			t.Errorf("Luby(%d) = %d, %d", n, one, e)
		}
	}
}

func TestSumRefused(t *testing.T) {
	for _, n := range []int{
		leastInt, leastInt + 1, -1 << 40, -mostSum - 1, -mostSum, -7, -2, -1,
		mostSum + 1, mostSum + 2, 1<<20 - 1, 1 << 31, 1<<32 + 1, most - 1, most, most + 1, greatestInt - 1, greatestInt,
	} {
		if sum, e := luby.Sum(n); sum != 0 || e != api.ErrArg {
			t.Errorf("Sum(%d) = %d, %d", n, sum, e)
		}
	}
}

// TestLubyAtPowers: of 2^k - 1 and its neighbours for each k.
func TestLubyAtPowers(t *testing.T) {
	lubyIs(t, 1, 1)
	lubyIs(t, 2, 1)
	lubyIs(t, 3, 2)
	lubyIs(t, 4, 1)
	lubyIs(t, 5, 1)
	for k := 2; k <= 40; k++ {
		lubyIs(t, power(k)-2, power(k-2))
		lubyIs(t, power(k)-1, power(k-1))
		lubyIs(t, power(k), 1)
		if k < 40 {
			lubyIs(t, power(k)+1, 1)
			lubyIs(t, power(k)+2, 2)
		}
	}
	lubyIs(t, most-1, 1<<39)
	lubyIs(t, most, 1)
}

// TestSequence: each one up to 2^20 - 1 and a bit beyond.
func TestSequence(t *testing.T) {
	want := wantSequence(21)
	for n := 1; n < 1<<20+1000; n++ {
		if one, e := luby.Luby(n); one != want[n] || e != api.OK {
			t.Fatalf("Luby(%d) = %d, %d: want %d", n, one, e, want[n])
		}
	}
}

// TestPowers: each is a power of two, at most twice the greatest one ahead of
// it.
func TestPowers(t *testing.T) {
	greatest := 0
	for n := 1; n <= mostSum; n++ {
		one, e := luby.Luby(n)
		if e != api.OK || one < 1 || one&(one-1) != 0 {
			t.Fatalf("Luby(%d) = %d, %d", n, one, e)
		}
		if n > 1 && one > 2*greatest {
			t.Fatalf("Luby(%d) = %d: the greatest one ahead of it is %d", n, one, greatest)
		}
		greatest = max(greatest, one)
	}
	if greatest != 1<<18 {
		t.Errorf("the greatest one is %d", greatest)
	}
	// Of the far ones: 2^(k-1) comes for the first time at 2^k - 1, of which
	// all ahead are less.
	r := rand.New(rand.NewSource(112))
	for k := 2; k <= 40; k++ {
		for range 1000 {
			n := 1 + r.Intn(power(k)-2)
			one, e := luby.Luby(n)
			if e != api.OK || one < 1 || one&(one-1) != 0 || one > power(k-2) {
				t.Fatalf("Luby(%d) = %d, %d", n, one, e)
			}
		}
	}
}

// TestComesAgain: behind 2^k - 1 the sequence comes again, up to 2^k - 1 of it.
func TestComesAgain(t *testing.T) {
	r := rand.New(rand.NewSource(11))
	for k := 1; k < 40; k++ {
		last := power(k) - 1
		ns := []int{1, last, (last + 1) / 2, 1 + last/2}
		for range 500 {
			ns = append(ns, 1+r.Intn(last))
		}
		for _, n := range ns {
			one, e := luby.Luby(n)
			again, eAgain := luby.Luby(last + n)
			if one != again || e != api.OK || eAgain != api.OK {
				t.Errorf("Luby(%d) = %d, %d; Luby(%d) = %d, %d", n, one, e, last+n, again, eAgain)
			}
		}
	}
}

// TestDrawnNumbers: against the chapter's words, with numbers of all sizes.
func TestDrawnNumbers(t *testing.T) {
	r := rand.New(rand.NewSource(1111))
	for range 50000 {
		n := 1 + r.Intn(power(1+r.Intn(40)))
		lubyIs(t, n, wantLuby(n))
		lubyIs(t, n, wantLuby(n))
	}
}

func TestSum(t *testing.T) {
	sumIs(t, 0, 0)
	sumIs(t, 1, 1)
	sumIs(t, 2, 2)
	sumIs(t, 3, 4)
	for n, want := 0, 0; n < 2500; n++ {
		if n > 0 {
			one, e := luby.Luby(n)
			if e != api.OK {
				t.Fatalf("Luby(%d): %d", n, e)
			}
			want += one
		}
		sumIs(t, n, want)
	}
}

// TestSumAtPowers: the first 2^k - 1 are k times 2^(k-1).
func TestSumAtPowers(t *testing.T) {
	for k := 1; k <= 19; k++ {
		want := k * power(k-1)
		sumIs(t, power(k)-2, want-power(k-1))
		sumIs(t, power(k)-1, want)
		sumIs(t, power(k), want+1)
	}
}

// TestSumOfMany: as Luby's are one by one, up to the greatest number.
func TestSumOfMany(t *testing.T) {
	r := rand.New(rand.NewSource(1000000))
	want := make([]int, mostSum+1)
	for n := 1; n <= mostSum; n++ {
		one, _ := luby.Luby(n)
		want[n] = want[n-1] + one
	}
	for _, n := range []int{mostSum - 2, mostSum - 1, mostSum, 999, 1000, 65536, 500000} {
		sumIs(t, n, want[n])
		sumIs(t, n, want[n])
	}
	for range 200 {
		n := r.Intn(mostSum + 1)
		sumIs(t, n, want[n])
	}
	plain := 0
	for _, one := range wantSequence(20)[1 : mostSum+1] {
		plain += one
	}
	sumIs(t, mostSum, plain)
}

func TestLevels(t *testing.T) {
	levelsAre(t, nil, 0)
	levelsAre(t, []int{}, 0)
	for _, c := range []struct {
		l    []int
		want int
	}{
		{[]int{0}, 1},
		{[]int{-1}, 1},
		{[]int{5, 5}, 1},
		{[]int{5, 6}, 2},
		{[]int{6, 5}, 2},
		{[]int{3, 1, 3, 2}, 3},
		{[]int{1, 2, 1, 2, 1, 2}, 2},
		{[]int{2, 0, 0, 2, 0}, 2},
		{[]int{0, 0, 0, 0, 0, 0, 0}, 1},
		{[]int{9, 8, 7, 6, 5, 4, 3, 2, 1, 0}, 10},
		{[]int{1, -1, 2, -2, 1, -1}, 4},
		{[]int{-3, -1, -3, -2, 0, 3}, 5},
		{[]int{leastInt}, 1},
		{[]int{greatestInt, leastInt}, 2},
		{[]int{leastInt, greatestInt, leastInt, greatestInt}, 2},
		{[]int{leastInt, leastInt + 1, -1, 0, 1, greatestInt - 1, greatestInt}, 7},
		{[]int{0, 1 << 32, 1 << 33, 1 << 32, 0, -1 << 32}, 4},
		{[]int{1, 1<<32 + 1, 1<<62 + 1, leastInt + 1}, 4},
	} {
		levelsAre(t, c.l, c.want)
	}
}

// TestLevelsOfLong: one number many times, and as many numbers as places.
func TestLevelsOfLong(t *testing.T) {
	const long = 1000000
	for _, c := range []struct{ step, want int }{{0, 1}, {1, long}, {-3, long}, {1 << 40, long}} {
		l := make([]int, long)
		for i := range l {
			l[i] = i * c.step
		}
		before := slices.Clone(l)
		if n := luby.Levels(l); n != c.want || !slices.Equal(l, before) {
			t.Errorf("by %d: Levels = %d: want %d", c.step, n, c.want)
		}
	}
}

// TestDrawnLists: against the chapter's words.
func TestDrawnLists(t *testing.T) {
	r := rand.New(rand.NewSource(113))
	edges := []int{leastInt, leastInt + 1, -1 << 32, -1, 0, 1, 1 << 31, 1 << 32, greatestInt}
	for range 5000 {
		l, among := make([]int, r.Intn(40)), 1+r.Intn(60)
		for i := range l {
			if r.Intn(5) == 0 {
				l[i] = edges[r.Intn(len(edges))]
			} else {
				l[i] = r.Intn(among) - among/2
			}
		}
		levelsAre(t, l, wantLevels(l))
	}
}
