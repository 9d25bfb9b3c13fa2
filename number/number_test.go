package number

import (
	"bytes"
	"encoding/binary"
	"math"
	"math/big"
	"math/rand/v2"
	"testing"
)

// some: the numbers about every power of two, and others.
func some() []uint64 {
	l := []uint64{0, math.MaxUint64}
	for bit := range 64 {
		l = append(l, 1<<bit-1, 1<<bit, 1<<bit+1)
	}
	r := rand.New(rand.NewPCG(11, 5))
	for range 20000 {
		l = append(l, r.Uint64()>>r.IntN(64))
	}
	return l
}

func wantNone(t *testing.T, b []byte) {
	t.Helper()
	if n, size := First(b); n != 0 || size != 0 {
		t.Errorf("First(% x): %d, %d bytes", b, n, size)
	}
}

func TestP5_2ThereAndBack(t *testing.T) {
	for _, n := range some() {
		b := Append(nil, n)
		if want := binary.AppendUvarint(nil, n); !bytes.Equal(b, want) {
			t.Fatalf("Append of %d: % x, want % x", n, b, want)
		}
		if Size(n) != len(b) {
			t.Fatalf("Size of %d: %d, want %d", n, Size(n), len(b))
		}
		for _, behind := range []string{"", "\x00", "\x01", "\x80", "\xff\xff"} {
			if got, size := First(append(bytes.Clone(b), behind...)); got != n || size != len(b) {
				t.Fatalf("First(% x): %d, %d bytes, want %d", b, got, size, n)
			}
		}
		for cut := range b {
			wantNone(t, b[:cut])
		}
	}
}

func TestP5_2Append(t *testing.T) {
	b := append(make([]byte, 0, 20), "ab"...)
	if got := Append(b, 300); string(got) != "ab\xac\x02" || string(b) != "ab" {
		t.Errorf("% x", got)
	}
}

func TestP5_3OneForm(t *testing.T) {
	for _, n := range some() {
		b := Append(nil, n)
		b[len(b)-1] += 128
		for zeros := range 12 { // with zeros ahead of its highest digit
			longer := append(append(bytes.Clone(b), bytes.Repeat([]byte{0x80}, zeros)...), 0)
			wantNone(t, longer)
		}
	}
	wantNone(t, nil)
	wantNone(t, bytes.Repeat([]byte{0x80}, 100))
	wantNone(t, bytes.Repeat([]byte{0xff}, 100))
	for _, digit := range []byte{0x80, 0x81, 0xff} {
		nine := bytes.Repeat([]byte{digit}, 9)
		for last := range 256 { // the tenth digit
			b := append(bytes.Clone(nine), byte(last))
			if last == 1 {
				if n, size := First(b); size != 10 || n>>63 != 1 {
					t.Errorf("First(% x): %d, %d bytes", b, n, size)
				}
				continue
			}
			wantNone(t, b)
			wantNone(t, append(b, 0))
			wantNone(t, append(b, 1))
		}
	}
}

// Any bytes that are taken are what Append makes.
func TestP5_6AnyBytes(t *testing.T) {
	r := rand.New(rand.NewPCG(11, 6))
	taken := 0
	for range 200000 {
		b := make([]byte, r.IntN(13))
		for i := range b {
			b[i] = []byte{0, 1, 2, 0x7f, 0x80, 0x80, 0x81, 0xff, 0xff, byte(r.IntN(256))}[r.IntN(10)]
		}
		n, size := First(b)
		if size == 0 {
			wantNone(t, b)
			if other, n := binary.Uvarint(b); n > 0 && bytes.HasPrefix(b, binary.AppendUvarint(nil, other)) {
				t.Fatalf("First(% x) is not %d", b, other)
			}
			continue
		}
		taken++
		if !bytes.HasPrefix(b, Append(nil, n)) || len(Append(nil, n)) != size {
			t.Fatalf("First(% x): %d, %d bytes", b, n, size)
		}
	}
	if taken < 50000 {
		t.Errorf("only %d were taken", taken)
	}
}

// Ints stand as the numbers that the chapters tell, worked out as whole numbers.
func TestP5_2And11_1Ints(t *testing.T) {
	for _, u := range some() {
		n := int64(u)
		want := new(big.Int).Lsh(big.NewInt(n), 1)
		if n < 0 {
			want.Neg(want).Sub(want, big.NewInt(1))
		}
		if got := OfInt(n); new(big.Int).SetUint64(got).Cmp(want) != 0 {
			t.Fatalf("OfInt(%d): %d, want %v", n, got, want)
		}
		if ToInt(OfInt(n)) != n || OfInt(ToInt(u)) != u {
			t.Fatalf("%d and back: %d; %d and back: %d", n, ToInt(OfInt(n)), u, OfInt(ToInt(u)))
		}
	}
	for n, want := range map[int64]uint64{0: 0, -1: 1, 1: 2, -500: 999, math.MaxInt64: math.MaxUint64 - 1, math.MinInt64: math.MaxUint64} {
		if OfInt(n) != want || ToInt(want) != n {
			t.Errorf("%d: %d, back: %d", n, OfInt(n), ToInt(want))
		}
	}
}
