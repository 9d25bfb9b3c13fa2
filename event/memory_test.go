package event

import (
	"bytes"
	"slices"
	"testing"

	"daybook/api"
)

// P5.2, P5.4: an event that is handed in stays as it is, its list's spare room too.
func TestP5_2And5_4EventsAreNotChanged(t *testing.T) {
	spare := api.Line{Account: "spare", Amount: 9, Tag: "s"}
	for _, e := range slices.Concat(ordinary(), corners(), []api.Event{{Kind: 9}, {Kind: api.KLock, Day: 1, Lines: []api.Line{{}}}, {Kind: api.KPost, Lines: make([]api.Line, 20)}}) {
		n := len(e.Lines)
		e.Lines = append(slices.Clip(e.Lines), spare, spare)[:n]
		before := copied(e)
		Check(e)
		Encode(e)
		Print(e, 2)
		if !alike(e, before) || e.Lines[:n+2][n] != spare || e.Lines[:n+2][n+1] != spare {
			t.Errorf("%+v was changed to %+v", before, e)
		}
	}
}

// What was answered stays, whatever becomes of what was handed in.
func TestP5_6NothingIsKept(t *testing.T) {
	for _, e := range someEvents(source(30), 50) {
		want := copied(e)
		bytesOf, lineOf := plainEncode(want), plainPrint(want, 2)
		b, _ := Encode(e)
		s, _ := Print(e, 2)
		clear(e.Lines)
		if !bytes.Equal(b, bytesOf) || s != lineOf {
			t.Fatalf("% x, %q; want % x, %q", b, s, bytesOf, lineOf)
		}
		in := bytes.Clone(b)
		decoded, why := Decode(in)
		clear(in)
		wantEvent(t, "Decode, its bytes cleared", decoded, why, want)
	}
}

// Two answers share nothing, their spare room neither.
func TestP5_6AnswersAreNobodyElses(t *testing.T) {
	for _, e := range someEvents(source(31), 50) {
		want := copied(e)
		b, _ := Encode(e)
		c, _ := Encode(e)
		clear(b[:cap(b)])
		if !bytes.Equal(c, plainEncode(want)) {
			t.Fatalf("two answers of Encode share memory: % x", c)
		}
		if !alike(e, want) {
			t.Fatalf("an answer of Encode shares memory with its event: %+v", e)
		}
		one, _ := Decode(c)
		two, why := Decode(c)
		clear(one.Lines[:cap(one.Lines)])
		wantEvent(t, "the other answer of Decode", two, why, want)
		s := plainPrint(want, 2)
		one, _ = Parse(s, 2)
		two, why = Parse(s, 2)
		clear(one.Lines[:cap(one.Lines)])
		wantEvent(t, "the other answer of Parse", two, why, want)
		three, why := Parse(s, 2)
		wantEvent(t, "Parse once more", three, why, want)
	}
}
