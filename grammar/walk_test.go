package grammar

import (
	"math/rand/v2"
	"slices"
	"strings"
	"testing"

	"daybook/api"
)

// thereAndBack: what a text is read as is printed, and that is read as the same.
func thereAndBack(t *testing.T, s string) {
	t.Helper()
	q, _, why := Parse(s)
	if why != api.OK {
		return
	}
	p, why := Print(q)
	if why == api.ErrLong {
		printsAsPlain(t, q)
		return
	}
	if again, at, readWhy := Parse(p); why != api.OK || readWhy != api.OK || at != 0 || !same(again, q) {
		t.Fatalf("%q is printed %q, %d; that is read as %+v, %d, %d", s, p, int(why), again, at, int(readWhy))
	}
	again, _, _ := Parse(p)
	if twice, why := Print(again); why != api.OK || twice != p {
		t.Fatalf("%q, and then %q, %d", p, twice, int(why))
	}
	for _, b := range []byte(p) {
		if b < 32 || b > 126 {
			t.Fatalf("%q has a byte %d", p, b)
		}
	}
}

// From queries: all that Print writes is read as they are, and has no brackets that it does not need.
func TestP13_3FromQueries(t *testing.T) {
	r := source(3)
	answers := map[api.Errno]int{}
	for range 1500 {
		w := anyWhole(r, 1+r.IntN(14))
		if r.IntN(30) == 0 {
			w = anyWhole(r, 80)
		}
		q := w.query()
		s, why := printsAsPlain(t, q)
		if answers[why]++; why == api.OK {
			parses(t, s, q)
			bracketsAreNeeded(t, s, q)
			thereAndBack(t, s)
		}
	}
	if answers[api.OK] < 1000 || answers[api.ErrDeep] == 0 || answers[api.ErrLong] == 0 || answers[api.ErrSyntax] > 0 {
		t.Errorf("%v", answers)
	}
}

// From texts: with blanks, leading zeros and brackets in them.
func TestP13_3FromTexts(t *testing.T) {
	r := source(4)
	for range 1000 {
		l := anyWhole(r, 1+r.IntN(10)).tokens()
		for i := range l {
			if l[i][0] >= '0' && l[i][0] <= '9' && !strings.Contains(l[i], "-") && r.IntN(3) == 0 {
				l[i] = strings.Repeat("0", r.IntN(5)) + l[i]
			}
		}
		s := joined(r, l, r.IntN(3))
		parsesAsPlain(t, s)
		thereAndBack(t, s)
	}
}

// Texts that are read, and whose printed ones are longer than MaxQuery: spaces are put in.
func TestP13_3Long(t *testing.T) {
	for _, s := range []string{
		"where day" + strings.Repeat("+day", 99) + " show count",
		"show count" + strings.Repeat(",max(1)", 84),
		"show count order 1" + strings.Repeat(",1", 280),
		"by day" + strings.Repeat(",day", 100) + " show count" + strings.Repeat(",count", 30),
	} {
		q, at, why := Parse(s)
		if why != api.OK || len(s) > api.MaxQuery {
			t.Fatalf("%q, %d bytes: %d, %d", s, len(s), at, int(why))
		}
		refuses(t, s, q, api.ErrLong)
	}
}

// known: a token, and what the model reads it as (of what is none: nothing).
type known struct {
	token string
	as    []plain
}

func knownTokens() (l []known) {
	for _, token := range vocabulary() {
		k := known{token: token}
		if cut := plainCut(token); len(cut) == 2 {
			k.as = cut[:1]
		}
		l = append(l, k)
	}
	return l
}

// goesOn: the stack behind a token, if one may stand there.
func goesOn(now *stack, k known) *step {
	for _, t := range k.as {
		if l := now.steps(theGrammar, t); len(l) == 1 {
			return &l[0]
		}
	}
	return nil
}

// randomText: tokens that mostly go on, as the grammar takes them.
func randomText(r *rand.Rand, all []known) string {
	s := ""
	now := atFirst()
	for range 5 + r.IntN(30) {
		good := slices.DeleteFunc(slices.Clone(all), func(k known) bool { return goesOn(now, k) == nil })
		if len(good) == 0 || r.IntN(60) == 0 {
			good = all
		}
		k := pick(r, good...)
		if step := goesOn(now, k); step != nil {
			now = step.behind
		}
		s += pick(r, " ", " ", "\t", "\n", "\r", "  ", "") + k.token
	}
	return s
}

// Tokens that come at random, most of them where they may.
func TestP13_1AnyTokens(t *testing.T) {
	r := source(5)
	all := knownTokens()
	answers := map[api.Errno]int{}
	for range 1000 {
		s := randomText(r, all)
		_, why := parsesAsPlain(t, s)
		answers[why]++
		thereAndBack(t, s)
	}
	if answers[api.OK] < 10 || answers[api.ErrSyntax] < 100 {
		t.Errorf("%v", answers)
	}
}

// Single bytes of texts that are read changed, put in and left out.
func TestP13_1AnyBytes(t *testing.T) {
	r := source(6)
	bytes := []byte("()',+-*=<> \t\n\r019azAZ_.\"\x00\x1f\x7f\x80\xff")
	for range 300 {
		s := joined(r, anyWhole(r, 5).tokens(), 1)
		for range 12 {
			at := r.IntN(len(s) + 1)
			b := string([]byte{bytes[r.IntN(len(bytes))]})
			if r.IntN(4) == 0 {
				b = string([]byte{byte(r.IntN(256))})
			}
			parsesAsPlain(t, s[:at]+b+s[at:])
			if at < len(s) {
				parsesAsPlain(t, s[:at]+b+s[at+1:])
				parsesAsPlain(t, s[:at]+s[at+1:])
			}
		}
	}
}

// faulty: texts of all sorts, some that are read and some that are not.
func faulty(n int) (l []string) {
	r := source(7)
	all := knownTokens()
	l = append(samples(), "", "where", "show count count", "where 1 = 2 = 3 show count", "where "+strings.Repeat("(", 17)+"1", "where 1"+strings.Repeat("+1", 100)+" show count")
	for range n {
		l = append(l, joined(r, anyWhole(r, 6).tokens(), 1), randomText(r, all))
	}
	return l
}

// Blanks between two tokens, ahead of the first and behind the last.
func TestP13_4Blanks(t *testing.T) {
	r := source(8)
	for _, s := range faulty(150) {
		q, at, why := Parse(s)
		if why == api.ErrLong {
			continue
		}
		for _, k := range plainCut(s) {
			blank := pick(r, " ", "\t", "\n", "\r", "\r\n", " \t ")
			wider := s[:k.at] + blank + s[k.at:]
			if len(wider) > api.MaxQuery {
				continue
			}
			wantAt := at
			if why != api.OK && at >= k.at {
				wantAt += len(blank)
			}
			if got, gotAt, gotWhy := Parse(wider); !same(got, q) || gotAt != wantAt || gotWhy != why {
				t.Fatalf("%q: %+v, %d, %d; %q: %+v, %d, %d", s, q, at, int(why), wider, got, gotAt, int(gotWhy))
			}
		}
	}
}

// Brackets round an atom.
func TestP13_4BracketsRoundAtoms(t *testing.T) {
	all := map[api.Errno]int{}
	for _, s := range faulty(150) {
		q, at, why := Parse(s)
		if why != api.OK && why != api.ErrSyntax {
			continue
		}
		for _, k := range atomsOf(s, at, why) {
			end := k.at + len(k.as)
			wider := s[:k.at] + "(" + k.as + ")" + s[end:]
			r := runOf(t, wider)
			if len(wider) > api.MaxQuery || r.deepAt >= 0 {
				continue
			}
			wantAt := at
			if why != api.OK && at >= end {
				wantAt += 2
			}
			got, gotAt, gotWhy := Parse(wider)
			if !same(got, q) || gotAt != wantAt || gotWhy != why {
				t.Fatalf("%q: %+v, %d, %d; %q: %+v, %d, %d", s, q, at, int(why), wider, got, gotAt, int(gotWhy))
			}
			all[why]++
		}
	}
	if all[api.OK] < 500 || all[api.ErrSyntax] < 100 {
		t.Errorf("%v", all)
	}
}

// atomsOf: the tokens of a text ahead of its fault that the row atom takes.
func atomsOf(s string, at int, why api.Errno) (l []plain) {
	now := atFirst()
	for _, k := range plainCut(s) {
		if k.kind == "#end" || why != api.OK && k.at >= at {
			return l
		}
		step := now.steps(theGrammar, k)[0]
		now = step.behind
		if step.row == "atom" && k.kind != "(" && k.kind != ")" {
			l = append(l, k)
		}
	}
	return l
}

// The place of a fault does not hang on what stands behind the token.
func TestP13_5Behind(t *testing.T) {
	r := source(9)
	all := vocabulary()
	seen := map[api.Errno]int{}
	fronts := []string{"where " + strings.Repeat("(", 16), "where -1" + strings.Repeat("+1", 99) + " "}
	for _, s := range samples() {
		for _, k := range plainCut(s) {
			fronts = append(fronts, s[:k.at]+" ")
		}
	}
	for _, front := range fronts {
		for range 20 {
			s := front + pick(r, all...)
			_, at, why := Parse(s)
			if at != len(front) || s[at:] == "'" {
				continue // a text that does not end has nothing behind it
			}
			seen[why]++
			for range 5 {
				other := s + pick(r, " ", "\t", "\n", "\r") + pick(r, all...) + pick(r, "", " ", ",", "(") + pick(r, all...)
				if q, gotAt, got := Parse(other); gotAt != at || got != why || !same(q, api.Query{}) {
					t.Fatalf("%q: %d, %d; %q: %d, %d", s, at, int(why), other, gotAt, int(got))
				}
			}
		}
	}
	if seen[api.ErrSyntax] < 100 || seen[api.ErrDeep] == 0 {
		t.Errorf("%v", seen)
	}
	for _, none := range []string{"wher", "a", "Where", "9223372036854775808", "2024-02-30", "day1", "1a", "#", "\x00"} {
		for _, end := range []string{"", " ", " show count", "\n(", " \xff", " '"} {
			fails(t, "where "+none+end, 6, api.ErrSyntax)
			fails(t, "where not -(1 + "+none+end, 16, api.ErrSyntax)
		}
	}
}

// Each beginning of a text that is read, if it ends with a token, is read, or more must come at its end.
func TestP13_5Beginnings(t *testing.T) {
	n := 0
	for _, s := range faulty(120) {
		_, _, why := Parse(s)
		if why != api.OK {
			continue
		}
		n++
		read := 0
		for _, k := range plainCut(s) {
			beginning := s[:k.at+len(k.as)]
			q, at, why := Parse(beginning)
			if why == api.OK {
				read++
			} else if why != api.ErrSyntax || at != len(beginning) || !same(q, api.Query{}) {
				t.Fatalf("%q of %q: %+v, %d, %d", beginning, s, q, at, int(why))
			}
			parsesAsPlain(t, beginning)
		}
		if read == 0 {
			t.Fatalf("%q is not read", s)
		}
		for i := range s {
			parsesAsPlain(t, s[:i])
		}
	}
	if n < 100 {
		t.Errorf("%d texts are read", n)
	}
}
