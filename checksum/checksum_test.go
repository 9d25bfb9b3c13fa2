package checksum

import (
	"hash/crc32"
	"math/rand/v2"
	"testing"
)

// byWords: the sum as 11.1 tells it, one bit after the other.
func byWords(b []byte) uint32 {
	sum := uint32(0xffffffff)
	for _, x := range b {
		sum ^= uint32(x)
		for range 8 {
			if low := sum & 1; low == 1 {
				sum = sum>>1 ^ 0xedb88320
			} else {
				sum = sum >> 1
			}
		}
	}
	return sum ^ 0xffffffff
}

func check(t *testing.T, b []byte) {
	t.Helper()
	if got, want := Of(b), byWords(b); got != want || got != crc32.ChecksumIEEE(b) {
		t.Errorf("Of(% x): %08x, want %08x", b, got, want)
	}
}

func TestP4_1SumOfTheDocument(t *testing.T) {
	if got := Of(nil); got != 0 {
		t.Errorf("of no bytes: %08x", got)
	}
	if got := Of([]byte("123456789")); got != 0xcbf43926 {
		t.Errorf("of 123456789: %08x", got)
	}
	if got := Of([]byte("1\n")); got != 0x6751fc53 {
		t.Errorf("of the first line: %08x", got)
	}
}

func TestP4_1SumOfEveryTwoBytes(t *testing.T) {
	for a := range 256 {
		check(t, []byte{byte(a)})
		for b := range 256 {
			check(t, []byte{byte(a), byte(b)})
		}
	}
}

func TestP4_1SumOfAnyBytes(t *testing.T) {
	r := rand.New(rand.NewPCG(11, 1))
	for range 2000 {
		b := make([]byte, r.IntN(300))
		for i := range b {
			b[i] = byte(r.IntN(256))
		}
		check(t, b)
	}
}
