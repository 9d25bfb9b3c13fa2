package paper

import (
	"slices"
	"strings"
	"testing"
	"unsafe"

	"daybook/api"
)

// P16.2: events that are handed in stay as they are, the spare room of their lists too.
func TestP16_2EventsAreNotChanged(t *testing.T) {
	spare := api.Line{Account: "spare", Amount: 9, Tag: "s"}
	r := source(20)
	for range 200 {
		l := slices.Concat(kinds(), anyEvents(r, 5), invalid()[:r.IntN(2)])
		l = append(slices.Clip(l), api.Event{Kind: 7}, api.Event{Kind: 8})[:len(l)]
		for i := range l {
			n := len(l[i].Lines)
			l[i].Lines = append(slices.Clip(l[i].Lines), spare, spare)[:n]
		}
		before := copied(l)
		for digits := -1; digits <= api.MaxDigits+1; digits++ {
			Print(l, digits)
		}
		if !alike(l, before) || l[:len(l)+1][len(l)].Kind != 7 || l[:len(l)+2][len(l)+1].Kind != 8 {
			t.Fatalf("%+v was changed to %+v", before, l)
		}
		for _, e := range l {
			if n := len(e.Lines); e.Lines[:n+2][n] != spare || e.Lines[:n+2][n+1] != spare {
				t.Fatalf("the spare room of %+v was changed", e)
			}
		}
	}
}

// What was printed stays, whatever becomes of the events.
func TestP16_2EventsAreNotKept(t *testing.T) {
	l := copied(kinds())
	text, _ := Print(l, 2)
	for _, e := range l {
		clear(e.Lines)
	}
	clear(l)
	if text != plainPrint(kinds(), 2) {
		t.Errorf("%q", text)
	}
}

// What was read stays, whatever becomes of the text's bytes: nothing of it is kept.
func TestP16_1TextsAreNotKept(t *testing.T) {
	r := source(21)
	for range 500 {
		digits := r.IntN(api.MaxDigits + 1)
		lines, want := anyJournal(r, digits, 6)
		b := []byte(joined(lines...) + " ")
		got, err := Parse(unsafe.String(&b[0], len(b)), digits)
		clear(b)
		if err != nil || !alike(got, want) {
			t.Fatalf("%q: %+v, %v; want %+v", lines, got, err, want)
		}
	}
}

// filth fills a list, with its spare room.
func filth(l []api.Line) {
	for i := range l[:cap(l)] {
		l[:cap(l)][i] = api.Line{Account: "filth", Amount: 7}
	}
}

// What is handed out is nobody else's: not another answer's, and no two lists of one answer share anything, their spare room neither.
func TestP16_1AnswersAreNobodyElses(t *testing.T) {
	r := source(22)
	for range 300 {
		digits := r.IntN(api.MaxDigits + 1)
		lines, want := anyJournal(r, digits, 6)
		text := joined(lines...)
		one, _ := parsing(t, text, digits)
		two, _ := parsing(t, text, digits)
		for i := range one {
			filth(one[i].Lines)
			for j := i + 1; j < len(one); j++ {
				if !alike(one[j:j+1], want[j:j+1]) {
					t.Fatalf("%q: the lists of the events %d and %d share memory", lines, i, j)
				}
			}
		}
		clear(one[:cap(one)])
		if !alike(two, want) {
			t.Fatalf("%q: two answers share memory", lines)
		}
		reads(t, text, digits, want...)
	}
}

// A fault is the caller's own too.
func TestP16_1FaultsAreNobodyElses(t *testing.T) {
	for _, text := range []string{"x", " A", headLine, strings.Repeat("x", api.MaxLine+1), strings.Repeat("x", api.MaxText+1)} {
		_, one := parsing(t, text, 2)
		_, two := parsing(t, text, 2)
		want := *two
		*one = api.Fault{Line: 77, At: 77, Why: 77}
		if *two != want {
			t.Fatalf("two faults of %q are one", short(text))
		}
		refuses(t, text, 2, want.Line, want.At, want.Why)
	}
}
