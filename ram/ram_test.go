package ram_test

import (
	"bytes"
	"math"
	"slices"
	"testing"

	"augury/api"
	"augury/ram"
)

const (
	leastInt    = math.MinInt
	greatestInt = math.MaxInt
	greatest    = math.MaxUint32
)

// counts are those that may be, and some that may not.
var counts = []int{1, 2, 4, 3, 0, -1, -2, -4, 5, 6, 7, 8, 16, 256, leastInt, leastInt + 1, leastInt + 4, 1<<32 + 1, 1<<32 + 4, 1<<8 + 2, greatestInt - 3, greatestInt}

// made is a memory of a size.
func made(t *testing.T, size int) *ram.Ram {
	t.Helper()
	r, e := ram.New(size)
	if e != api.OK || r == nil {
		t.Fatalf("New(%d): %d", size, e)
	}
	return r
}

// filled is a memory of a size, no byte of which is like its neighbours, and
// what it has.
func filled(t *testing.T, size int) (*ram.Ram, []byte) {
	t.Helper()
	r, want := made(t, size), make([]byte, size)
	for i := range want {
		want[i] = byte(i*37 + i/256 + 129)
		store(t, r, uint32(api.RamBase+i), 1, uint32(want[i]))
	}
	return r, want
}

func store(t *testing.T, r *ram.Ram, at uint32, n int, v uint32) {
	t.Helper()
	if e := r.Store(at, n, v); e != api.OK {
		t.Errorf("Store(%d, %d, %#x) = %d", at, n, v, e)
	}
}

// loads reports a Load that isn't want.
func loads(t *testing.T, r *ram.Ram, at uint32, n int, want uint32) {
	t.Helper()
	if v, e := r.Load(at, n); v != want || e != api.OK {
		t.Errorf("Load(%d, %d) = %#x, %d: want %#x", at, n, v, e, want)
	}
}

// has reports a memory whose bytes are not these.
func has(t *testing.T, r *ram.Ram, want []byte) {
	t.Helper()
	if b := r.Bytes(); !bytes.Equal(b, want) || r.Size() != len(want) {
		t.Errorf("Size = %d, Bytes = %x: want %d, %x", r.Size(), b, len(want), want)
	}
}

// refuses reports a Load or a Store that is not refused so.
func refuses(t *testing.T, r *ram.Ram, at uint32, n int, want api.Errno) {
	t.Helper()
	if v, e := r.Load(at, n); v != 0 || e != want {
		t.Errorf("Load(%d, %d) = %#x, %d: want 0, %d", at, n, v, e, want)
	}
	for _, v := range []uint32{0, 1, 0x5a5a5a5a, greatest} {
		if e := r.Store(at, n, v); e != want {
			t.Errorf("Store(%d, %d, %#x) = %d: want %d", at, n, v, e, want)
		}
	}
}

func TestExamples(t *testing.T) {
	r := made(t, 256)
	store(t, r, 4350, 2, 66051)
	loads(t, r, 4351, 1, 2)
	refuses(t, r, 4351, 2, api.ErrOut)
	refuses(t, r, 0, 1, api.ErrOut)
	if r, e := ram.New(100); r != nil || e != api.ErrArg {
		t.Errorf("New(100) = %v, %d", r, e)
	}
}

// TestNew: of each size about those that may be; its bytes are 0.
func TestNew(t *testing.T) {
	sizes := []int{
		leastInt, leastInt + 256, -1 << 32, -4096, 1 << 15, 1 << 16, 1<<31 - 256, 1 << 31,
		1<<32 + 256, 1<<32 + 4096, 1<<62 + 512, greatestInt - 255, greatestInt,
	}
	for size := -600; size < 9000; size++ {
		sizes = append(sizes, size)
	}
	fine := []int{256, 512, 768, 1024, 1280, 1536, 1792, 2048, 2304, 2560, 2816, 3072, 3328, 3584, 3840, 4096}
	for _, size := range sizes {
		if !slices.Contains(fine, size) {
			if r, e := ram.New(size); r != nil || e != api.ErrArg {
				t.Errorf("New(%d) = %v, %d", size, r, e)
			}
			continue
		}
		r := made(t, size)
		has(t, r, make([]byte, size))
		loads(t, r, 4096, 4, 0)
		loads(t, r, uint32(4096+size-4), 4, 0)
	}
}

// TestNone: what no call made has nothing; that comes ahead of all else.
func TestNone(t *testing.T) {
	for _, r := range []*ram.Ram{nil, {}} {
		for range 2 {
			for _, n := range counts {
				for _, at := range []uint32{0, 4095, 4096, 4097, 4351, greatest} {
					refuses(t, r, at, n, api.ErrNil)
				}
			}
			if b, c := r.Bytes(), r.Copy(); len(b) > 0 || r.Size() != 0 || c != nil {
				t.Errorf("Bytes = %x, Size = %d, Copy = %v", b, r.Size(), c)
			}
		}
	}
}

// TestCounts: of another number of bytes than 1, 2, 4 nothing is done; that
// comes ahead of bytes that are not there.
func TestCounts(t *testing.T) {
	r, want := filled(t, 512)
	for _, n := range counts[3:] {
		for _, at := range []uint32{0, 1, 4092, 4095, 4096, 4097, 4100, 4600, 4607, 4608, 4609, 1 << 31, greatest} {
			refuses(t, r, at, n, api.ErrArg)
		}
	}
	has(t, r, want)
}

// TestOut: there must be each byte from the address on; none stands behind the
// greatest address.
func TestOut(t *testing.T) {
	for _, size := range []int{256, 512, 4096} {
		r, want := filled(t, size)
		end := uint32(4096 + size)
		for _, n := range []uint32{1, 2, 4} {
			var out []uint32
			for at := uint32(0); at < 4096; at++ {
				out = append(out, at)
			}
			for at := end - n + 1; at < end+5000; at++ {
				out = append(out, at)
			}
			for k := uint32(1); k <= 4; k++ {
				out = append(out, greatest-k+1, greatest-4096+k, 1<<31-k, 1<<31+4096-k, 1<<16+4096+k, 1<<31+4096+k, 1<<24+4096+k)
			}
			for _, at := range out {
				refuses(t, r, at, int(n), api.ErrOut)
			}
			for _, at := range []uint32{4096, end - n} {
				if _, e := r.Load(at, int(n)); e != api.OK {
					t.Errorf("Load(%d, %d): %d", at, n, e)
				}
			}
		}
		has(t, r, want)
	}
}

// TestLoad: the lowest byte first, at each address, a multiple of n or not.
func TestLoad(t *testing.T) {
	r := made(t, 256)
	for i, b := range []uint32{0x80, 0xff, 0x7f, 0x01, 0xfe} {
		store(t, r, uint32(4100+i), 1, b)
	}
	loads(t, r, 4096, 4, 0)
	loads(t, r, 4097, 4, 0x80000000)
	loads(t, r, 4098, 4, 0xff800000)
	loads(t, r, 4099, 4, 0x7fff8000)
	loads(t, r, 4100, 4, 0x017fff80)
	loads(t, r, 4101, 4, 0xfe017fff)
	loads(t, r, 4102, 4, 0x00fe017f)
	loads(t, r, 4099, 2, 0x8000)
	loads(t, r, 4100, 2, 0xff80)
	loads(t, r, 4101, 2, 0x7fff)
	loads(t, r, 4104, 2, 0x00fe)
	loads(t, r, 4099, 1, 0)
	loads(t, r, 4100, 1, 0x80)
	loads(t, r, 4101, 1, 0xff)
	loads(t, r, 4105, 1, 0)
}

// TestStore: the lowest n bytes of the number, and no byte beside them, at each
// address.
func TestStore(t *testing.T) {
	for _, size := range []int{256, 768, 4096} {
		r, before := filled(t, size)
		for _, n := range []int{1, 2, 4} {
			for i := 0; i+n <= size; i++ {
				at, old := uint32(4096+i), before[i]
				want := slices.Clone(before)
				copy(want[i:], []byte{0x83 ^ old, 0x72, 0xf1, 0x60}[:n])
				v := 0x60f17283 ^ uint32(old)
				store(t, r, at, n, v)
				if b := r.Bytes(); !bytes.Equal(b, want) {
					t.Fatalf("of %d: behind Store(%d, %d, %#x) it is %x: want %x", size, at, n, v, b, want)
				}
				loads(t, r, at, n, v&uint32(1<<(8*n)-1))
				before = want
			}
		}
	}
}

// TestNumbers: those of 32 bits at their edges.
func TestNumbers(t *testing.T) {
	r := made(t, 256)
	for _, v := range []uint32{0, 1, 127, 128, 255, 256, 1<<15 - 1, 1 << 15, 1<<16 - 1, 1 << 16, 1<<31 - 1, 1 << 31, greatest - 1, greatest} {
		for _, at := range []uint32{4096, 4099, 4348} {
			store(t, r, at, 4, v)
			loads(t, r, at, 4, v)
			loads(t, r, at, 2, v%(1<<16))
			loads(t, r, at+2, 2, v/(1<<16))
			loads(t, r, at+3, 1, v/(1<<24))
		}
	}
}

// TestApart: what is answered is new memory, and no two memories share any.
func TestApart(t *testing.T) {
	r, want := filled(t, 256)
	b, c := r.Bytes(), r.Bytes()
	for i := range b {
		b[i] = 0
	}
	clear(append(b, 1, 2, 3)[:cap(b)])
	has(t, r, want)
	if !bytes.Equal(c, want) {
		t.Errorf("Bytes share memory: %x", c)
	}
	store(t, r, 4096, 4, 0)
	if !bytes.Equal(c, want) {
		t.Errorf("Bytes are the memory's own: %x", c)
	}
	other := made(t, 256)
	has(t, other, make([]byte, 256))
}

// TestCopy: a copy has the same bytes, and goes its own way; so does a copy of
// that.
func TestCopy(t *testing.T) {
	for _, size := range []int{256, 512, 4096} {
		r, want := filled(t, size)
		c := r.Copy()
		if c == nil || c == r {
			t.Fatalf("Copy = %v", c)
		}
		has(t, c, want)
		d := c.Copy()
		mine, others, last := slices.Clone(want), slices.Clone(want), slices.Clone(want)
		copy(mine, []byte{1, 2, 3, 4})
		copy(others[2:], []byte{5, 6, 7, 8})
		copy(last[size-2:], []byte{9, 10})
		store(t, r, 4096, 4, 0x04030201)
		store(t, c, 4098, 4, 0x08070605)
		store(t, d, uint32(4096+size-2), 2, 0x0a09)
		refuses(t, c, uint32(4096+size-1), 2, api.ErrOut)
		has(t, r, mine)
		has(t, c, others)
		has(t, d, last)
	}
}
