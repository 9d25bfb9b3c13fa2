// Package number: whole numbers as bytes, each in one form: see doc/05-event.md, 5.2. The events' bytes have them, and the checkpoints'.
package number

import "math/bits"

const (
	base      = 128 // of the digits; a byte below it is the last one
	places    = 7   // how many bits a digit has
	most      = 10  // so many digits 64 bits have at the most
	lastDigit = 1   // the greatest tenth digit: of 64 bits one is left there
)

// Append puts a number's bytes behind b.
func Append(b []byte, n uint64) []byte {
	for n >= base {
		b = append(b, byte(n%base+base))
		n /= base
	}
	return append(b, byte(n))
}

// Size is how many bytes a number has.
func Size(n uint64) int { return (bits.Len64(n|1) + places - 1) / places } // 0 has a digit too

// First is the number at the beginning of b, and how many bytes it has: none, if no number stands there in its one form.
func First(b []byte) (n uint64, size int) {
	for i, digit := range b[:min(len(b), most)] {
		n += uint64(digit%base) << (places * i)
		if digit >= base {
			continue
		}
		if i > 0 && digit == 0 || i == most-1 && digit > lastDigit {
			break
		}
		return n, i + 1
	}
	return 0, 0
}

// OfInt is the number that stands for an int: the double of one that is 0 or more; of the others the odd numbers.
func OfInt(n int64) uint64 {
	if n < 0 {
		return uint64(^n)*2 + 1 // ^n is -n - 1, which even the least one has
	}
	return uint64(n) * 2
}

// ToInt is the int that a number stands for.
func ToInt(n uint64) int64 {
	if n%2 == 1 {
		return ^int64(n / 2)
	}
	return int64(n / 2)
}
