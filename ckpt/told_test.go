package ckpt

import (
	"bytes"
	"fmt"
	"testing"

	"daybook/api"
)

// turned: bytes with the bits of a pattern turned, its lowest one at bit number at, counted from the lowest bit of the first byte on.
func turned(b []byte, at int, pattern uint32) []byte {
	b = bytes.Clone(b)
	for i := range 32 {
		if pattern>>i&1 == 1 {
			b[(at+i)/8] ^= 1 << ((at + i) % 8)
		}
	}
	return b
}

// spoilable: Snaps of some lengths, the greatest of which go over many bytes with the same sum's bits.
func spoilable() []api.Snap {
	return []api.Snap{{}, byHand(), full(1), allSame(0, "", false, 3), allSame(-1<<63, "\xff\xff", true, 1)}
}

func TestP11_9EveryBit(t *testing.T) {
	for _, s := range append(spoilable(), full(3)) {
		b := encoding(t, s)
		for bit := range 8 * len(b) {
			refuses(t, fmt.Sprint("bit ", bit), turned(b, bit, 1), api.ErrCkpt)
		}
	}
	long := encoding(t, sized(api.MaxCkpt))
	for _, bit := range []int{0, 63, 64, 95, 96, 127, 128, 4000000, 8*len(long) - 33, 8*len(long) - 32, 8*len(long) - 1} {
		refuses(t, fmt.Sprint("bit ", bit), turned(long, bit, 1), api.ErrCkpt)
	}
}

// Behind the first sixteen bytes, within 32 bits side by side: at every place patterns of every width, with the first and the last bit turned.
func TestP11_9Within32Bits(t *testing.T) {
	r := source(9)
	for _, s := range spoilable() {
		b := encoding(t, s)
		for bit := 8 * 16; bit < 8*len(b); bit++ {
			for width := 1; width <= min(32, 8*len(b)-bit); width++ {
				ends := uint32(1) | 1<<(width-1)
				all := uint32(1<<width - 1)
				for _, pattern := range []uint32{ends, all, ends | all&r.Uint32(), ends | all&r.Uint32()} {
					if _, e := Decode(turned(b, bit, pattern)); e != api.ErrCkpt {
						t.Fatalf("at %d the bits %x turned: error %d", bit, pattern, int(e))
					}
				}
			}
		}
	}
}

// The patterns that are most like the sum's own: what it turns by, either way round, and moved.
func TestP11_9TheSumsOwnBits(t *testing.T) {
	for _, s := range spoilable() {
		b := encoding(t, s)
		for bit := 8 * 16; bit+32 <= 8*len(b); bit++ {
			for _, pattern := range []uint32{0xedb88320, 0x04c11db7, 0xdb710641, 0x82608edb, 0xffffffff, 0x80000000, 0x7fffffff} {
				for moved := range 3 {
					refuses(t, fmt.Sprintf("at %d the bits %x", bit, pattern>>moved), turned(b, bit, pattern>>moved), api.ErrCkpt)
				}
			}
		}
	}
}

func TestP11_9CutOff(t *testing.T) {
	for _, s := range append(spoilable(), full(2)) {
		b := encoding(t, s)
		for n := range b {
			refuses(t, fmt.Sprint("cut at ", n), b[:n], api.ErrCkpt)
			refuses(t, fmt.Sprint("cut at ", n), bytes.Clone(b[:n]), api.ErrCkpt)
		}
	}
	long := encoding(t, sized(api.MaxCkpt))
	for _, n := range []int{0, 1, 15, 16, 20, 1000, len(long) - 5, len(long) - 4, len(long) - 1} {
		refuses(t, fmt.Sprint("cut at ", n), long[:n], api.ErrCkpt)
	}
}

func TestP11_9PutBehind(t *testing.T) {
	for _, s := range append(spoilable(), full(2)) {
		b := encoding(t, s)
		for value := range 256 {
			refuses(t, "one behind", append(bytes.Clone(b), byte(value)), api.ErrCkpt)
			refuses(t, "two behind", append(bytes.Clone(b), 0, byte(value)), api.ErrCkpt)
		}
		for n := 1; n < 60; n++ {
			refuses(t, "zeros behind", append(bytes.Clone(b), make([]byte, n)...), api.ErrCkpt)
			refuses(t, "a sum's zeros behind", append(bytes.Clone(b), bytes.Repeat([]byte{0xff}, n)...), api.ErrCkpt)
		}
		refuses(t, "itself behind", append(bytes.Clone(b), b...), api.ErrCkpt)
		refuses(t, "another one behind", append(bytes.Clone(b), plainEncode(full(4))...), api.ErrCkpt)
		refuses(t, "as many as may be behind", append(bytes.Clone(b), make([]byte, api.MaxCkpt-len(b))...), api.ErrCkpt)
		refuses(t, "one more", append(bytes.Clone(b), make([]byte, api.MaxCkpt-len(b)+1)...), api.ErrLong)
	}
}
