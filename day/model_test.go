package day

import (
	"fmt"
	"iter"
	"math"
	"math/rand/v2"
	"testing"

	"daybook/api"
)

const (
	most  = math.MaxInt
	least = math.MinInt
)

// noDays is numbers that are no days, the edges of int among them.
func noDays() []int {
	return []int{0, -1, -2, api.MaxDay + 1, api.MaxDay + 2, math.MaxInt32, math.MinInt32, most, most - 1, least, least + 1}
}

// source gives the same numbers in every run.
func source() *rand.Rand {
	return rand.New(rand.NewPCG(2, 12))
}

func anyDay(r *rand.Rand) int {
	return api.MinDay + r.IntN(api.MaxDay)
}

// plainLeap and plainDays are 2.1's words, in another shape than the program's.
func plainLeap(year int) bool {
	switch {
	case year%400 == 0:
		return true
	case year%100 == 0:
		return false
	}
	return year%4 == 0
}

func plainDays(year, month int) int {
	switch month {
	case 4, 6, 9, 11:
		return 30
	case 2:
		if plainLeap(year) {
			return 29
		}
		return 28
	}
	return 31
}

// calendar is every day with its date, by going on from the first as 2.1 says.
func calendar() iter.Seq2[int, Date] {
	return func(yield func(int, Date) bool) {
		n := 0
		for year := 1; year <= 9999; year++ {
			for month := 1; month <= 12; month++ {
				for inMonth := range plainDays(year, month) {
					n++
					if !yield(n, Date{year, month, inMonth + 1}) {
						return
					}
				}
			}
		}
	}
}

// plainText is P2.6's ten bytes.
func plainText(d Date) string {
	return fmt.Sprintf("%04d-%02d-%02d", d.Year, d.Month, d.Day)
}

func wantDay(t *testing.T, got int, e api.Errno, want int, wantErr api.Errno, what string, args ...any) {
	t.Helper()
	if got != want || e != wantErr {
		t.Errorf("%s: %d, %d; want %d, %d", fmt.Sprintf(what, args...), got, int(e), want, int(wantErr))
	}
}

// on is the day of a date that is one.
func on(t *testing.T, year, month, inMonth int) int {
	t.Helper()
	n, e := From(Date{year, month, inMonth})
	if e != api.OK {
		t.Fatalf("From(%d-%d-%d): %d", year, month, inMonth, int(e))
	}
	return n
}
