package ram_test

import (
	"bytes"
	"math/rand"
	"testing"

	"augury/api"
	"augury/ram"
)

// plain is a memory as the chapter's words have it: a byte for each address
// that there is.
type plain map[uint64]byte

// newPlain is one of a size.
func newPlain(size int) plain {
	p := plain{}
	for i := range size {
		p[uint64(4096+i)] = 0
	}
	return p
}

// refusal is why n bytes from an address on are refused, or OK.
func (p plain) refusal(at uint32, n int) api.Errno {
	switch n {
	case 1, 2, 4:
	default:
		return api.ErrArg
	}
	for i := range n {
		if _, ok := p[uint64(at)+uint64(i)]; !ok {
			return api.ErrOut
		}
	}
	return api.OK
}

func (p plain) load(at uint32, n int) (uint32, api.Errno) {
	if e := p.refusal(at, n); e != api.OK {
		return 0, e
	}
	v, times := uint32(0), uint32(1)
	for i := range n {
		v += times * uint32(p[uint64(at)+uint64(i)])
		times *= 256
	}
	return v, api.OK
}

func (p plain) store(at uint32, n int, v uint32) api.Errno {
	if e := p.refusal(at, n); e != api.OK {
		return e
	}
	for i := range n {
		p[uint64(at)+uint64(i)] = byte(v % 256)
		v /= 256
	}
	return api.OK
}

func (p plain) bytes() []byte {
	b := make([]byte, len(p))
	for i := range b {
		b[i] = p[uint64(4096+i)]
	}
	return b
}

// drawnPlace is an address, now and then at an edge or out of all, and how many
// bytes.
func drawnPlace(r *rand.Rand, size int) (uint32, int) {
	n := []int{1, 2, 4}[r.Intn(3)]
	switch r.Intn(10) {
	case 0:
		return uint32(4096 - 5 + r.Intn(10)), n
	case 1:
		return uint32(4096 + size - 5 + r.Intn(10)), n
	case 2:
		return r.Uint32(), counts[r.Intn(len(counts))]
	case 3:
		return uint32(4096 + r.Intn(size)), counts[r.Intn(len(counts))]
	case 4:
		return greatest - uint32(r.Intn(5)), n
	case 5:
		return uint32(4096 + 8 + r.Intn(8)), n
	}
	return uint32(4096 + r.Intn(size)), n
}

// TestDrawn: drawn loads and stores, in memories that were copied on the way.
func TestDrawn(t *testing.T) {
	r := rand.New(rand.NewSource(15))
	for round := range 200 {
		size := 256 * (1 + r.Intn(16))
		if round%2 == 0 {
			size = 256
		}
		type both struct {
			m *ram.Ram
			p plain
		}
		l := []both{{made(t, size), newPlain(size)}}
		for i := range 400 {
			b := l[r.Intn(len(l))]
			at, n := drawnPlace(r, size)
			v := r.Uint32()
			if e, want := b.m.Store(at, n, v), b.p.store(at, n, v); e != want {
				t.Errorf("Store(%d, %d, %#x) = %d: want %d", at, n, v, e, want)
			}
			at, n = drawnPlace(r, size)
			got, e := b.m.Load(at, n)
			if want, wantE := b.p.load(at, n); got != want || e != wantE {
				t.Errorf("Load(%d, %d) = %#x, %d: want %#x, %d", at, n, got, e, want, wantE)
			}
			if i%100 == 50 {
				p := newPlain(size)
				for at, x := range b.p {
					p[at] = x
				}
				l = append(l, both{b.m.Copy(), p})
			}
			if t.Failed() {
				t.Fatalf("of %d, act %d of round %d", size, i, round)
			}
		}
		for i, b := range l {
			if got := b.m.Bytes(); !bytes.Equal(got, b.p.bytes()) || b.m.Size() != size {
				t.Fatalf("of %d, memory %d of round %d: Size = %d, Bytes = %x", size, i, round, b.m.Size(), got)
			}
		}
	}
}
