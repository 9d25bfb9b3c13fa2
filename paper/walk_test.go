package paper

import (
	"fmt"
	"math/rand/v2"
	"slices"
	"strings"
	"testing"

	"daybook/api"
	"daybook/money"
)

// TestP16_1EveryFewLines: all texts of up to five lines of some, up to four of some more.
func TestP16_1EveryFewLines(t *testing.T) {
	some := []string{"", ";", headLine, " A 5", " B", lockLine, "x"}
	more := append(slices.Clone(some), "\t; r", ` B -5 #t`, ` a`, headLine+` "m"`, "post 2024-02-01 x2 A 5, B -5", filled(";", api.MaxLine+1), filled("", api.MaxLine+1), filled(" A 5", api.MaxLine+1))
	var every func(of []string, text string, left int)
	every = func(of []string, text string, left int) {
		asPlain(t, text, 0)
		if left == 0 {
			return
		}
		for _, line := range of {
			every(of, text+line+"\n", left-1)
			if left == 1 {
				asPlain(t, text+line, 0)
			}
		}
	}
	every(some, "", 5)
	every(more, "", 3)
}

// TestP16_1EveryByte: each byte in the place of each byte of a journal, and ahead of it.
func TestP16_1EveryByte(t *testing.T) {
	text := joined(lockLine, headLine+` "a"`, " A 5.00 #t", "\t;", "  B:C", "", "post 2024-02-01 x2 A 1, B -1")
	for at := range len(text) + 1 {
		for b := range 256 {
			c := string([]byte{byte(b)})
			asPlain(t, text[:at]+c+text[min(at+1, len(text)):], 2)
			asPlain(t, text[:at]+c+text[at:], 2)
		}
		asPlain(t, text[:at], 2)
		asPlain(t, text[at:], 2)
	}
}

// TestP16_1AnyLines: journals, as they are and spoilt.
func TestP16_1AnyLines(t *testing.T) {
	taken, refused := 0, 0
	walk(t, 1, 6000, 6, func(r *rand.Rand, l []string, digits int) {
		for range 4 {
			_, f := asPlain(t, strings.Join(l, "\n")+pick(r, "", "\n"), digits)
			if f == nil {
				taken++
			} else {
				refused++
			}
			l = spoilt(r, l)
		}
	})
	if taken < 5000 || refused < 5000 {
		t.Errorf("%d texts were taken, %d were not", taken, refused)
	}
}

// TestP16_1AnyPieces: lines of any pieces that lines are made of.
func TestP16_1AnyPieces(t *testing.T) {
	r := source(2)
	some := []string{"post", "lock", "2024-02-01", "2024-02-30", "x1", `"m"`, `"`, "A", "B:C", "a", "5", "-5", "0", "1.5", "#t", "#", ",", ";", " ", "\t", "  ", "\n", "\n ", "\n\t", "\n\n", "\r", headLine, "\n" + headLine + "\n", "\n A 5", "\n B", "\n" + lockLine + "\n"}
	for range 200000 {
		text := ""
		for range r.IntN(14) {
			text += pick(r, "", " ") + pick(r, some...)
		}
		asPlain(t, text, pick(r, 0, 2))
	}
}

// there: the events there and back by Print and Parse.
func there(t *testing.T, l []api.Event, digits int) {
	t.Helper()
	text, why := Print(l, digits)
	if why == api.ErrLong {
		return
	}
	if why != api.OK || text != plainPrint(l, digits) {
		t.Fatalf("Print(%+v, %d): error %d, %q", l, digits, int(why), short(text))
	}
	if bad := strings.Trim(text, "\n"+signs+`"`+uppers+lowers+figures); bad != "" {
		t.Fatalf("%q stands in a text", bad)
	}
	reads(t, text, digits, l...)
	again, _ := parsing(t, text, digits)
	prints(t, again, digits, text)
}

func TestP16_3ThereAndBack(t *testing.T) {
	for digits := range api.MaxDigits + 1 {
		there(t, kinds(), digits)
		for _, one := range kinds() {
			there(t, []api.Event{one}, digits)
			for _, two := range kinds() {
				there(t, []api.Event{one, two}, digits)
			}
		}
	}
	r := source(3)
	for range 3000 {
		there(t, anyEvents(r, 8), r.IntN(api.MaxDigits+1))
	}
}

func TestP16_3TextsThatAreTaken(t *testing.T) {
	walk(t, 4, 5000, 6, func(r *rand.Rand, l []string, digits int) {
		if events, f := parsing(t, joined(l...), digits); f == nil {
			there(t, events, digits)
		}
	})
	for text, amount := range amountTexts {
		events, _ := parsing(t, joined("post 2024-02-01 x1 A "+text+",B 1", headLine, " A "+text, " B"), 2)
		if len(events) != 2 || events[1].Lines[1].Amount != -amount {
			t.Fatalf("%q: %+v", text, events)
		}
		there(t, events, 2)
	}
}

// TestP16_3LongerWhenPrinted: a text that is taken, and whose events have a longer one than a text may be.
func TestP16_3LongerWhenPrinted(t *testing.T) {
	one := "post 2024-02-01 x A 1,B 1\n"
	text := strings.Repeat(one, api.MaxText/len(one))
	events, f := parsing(t, text, 6)
	if f != nil || len(events) != api.MaxText/len(one) {
		t.Fatalf("%d events, %v", len(events), f)
	}
	refusesEvents(t, events, 6, api.ErrLong)
	there(t, events[:1000], 6)
}

// moved: a fault, with a line put in ahead of the one at a place (from 0 on).
func moved(f *api.Fault, at int) *api.Fault {
	if f == nil || f.Line <= at {
		return f
	}
	return &api.Fault{Line: f.Line + 1, At: f.At, Why: f.Why}
}

// isLegNext: whether the first line from a place on that is no remark is a leg.
func isLegNext(l []string, at int) bool {
	for _, line := range l[at:] {
		if sortOf(line) != 'r' {
			return sortOf(line) == 'l'
		}
	}
	return false
}

// TestP16_4Remarks: what is put in at each place of journals and of spoilt ones.
func TestP16_4Remarks(t *testing.T) {
	walk(t, 5, 2000, 4, func(r *rand.Rand, l []string, digits int) {
		events, f := parsing(t, strings.Join(l, "\n"), digits)
		for at := range len(l) + 1 {
			for _, remark := range []string{";", anyRemark(r), filled(";", api.MaxLine)} {
				parsesAs(t, strings.Join(put(l, at, remark), "\n"), digits, events, moved(f, at))
				parsesAs(t, joined(put(l, at, remark)...), digits, events, moved(f, at))
			}
		}
	})
}

func TestP16_4EmptyLines(t *testing.T) {
	walk(t, 6, 2000, 4, func(r *rand.Rand, l []string, digits int) {
		events, f := parsing(t, strings.Join(l, "\n"), digits)
		for at := range len(l) + 1 {
			for _, empty := range []string{"", anyBlanks(r), filled("", api.MaxLine)} {
				if !isLegNext(l, at) {
					parsesAs(t, joined(put(l, at, empty)...), digits, events, moved(f, at))
				} else if f == nil {
					_, f := asPlain(t, joined(put(l, at, empty)...), digits)
					if f == nil {
						t.Fatalf("an empty line was put ahead of a leg: %q", put(l, at, empty))
					}
				}
			}
		}
	})
}

func TestP16_4Blanks(t *testing.T) {
	walk(t, 7, 2000, 4, func(r *rand.Rand, l []string, digits int) {
		events, f := parsing(t, strings.Join(l, "\n"), digits)
		for at, line := range l {
			if sortOf(line) == 'r' {
				continue
			}
			for _, more := range []string{" ", "\t", anyBlanks(r) + anyBlanks(r), strings.Repeat(" ", max(0, api.MaxLine-len(line)))} {
				changed := slices.Clone(l)
				changed[at] += more
				parsesAs(t, strings.Join(changed, "\n"), digits, events, f)
			}
		}
	})
}

// TestP16_5EndToEnd: two texts that are taken, laid end to end; the second one begins with remarks, empty lines, heads, entries.
func TestP16_5EndToEnd(t *testing.T) {
	r := source(8)
	for range 5000 {
		digits := r.IntN(api.MaxDigits + 1)
		one, first := anyJournal(r, digits, 4)
		two, second := anyJournal(r, digits, 4)
		for _, end := range []string{"", "\n"} {
			text := strings.Join(two, "\n") + end
			reads(t, text, digits, second...)
			reads(t, joined(one...)+text, digits, slices.Concat(first, second)...)
		}
	}
	// What begins with a leg is not taken, so that no leg of the second text belongs to a head of the first one.
	for _, two := range [][]string{{" A 5"}, {";", " A"}, {" ;", ";", "\tA 5 #t", lockLine}} {
		refuses(t, joined(two...), 0, slices.IndexFunc(two, func(s string) bool { return sortOf(s) == 'l' })+1, 1, api.ErrPaper)
	}
}

// TestP16_6Cut: cut behind each line that no leg follows.
func TestP16_6Cut(t *testing.T) {
	cuts := 0
	walk(t, 9, 4000, 5, func(r *rand.Rand, l []string, digits int) {
		all, f := parsing(t, joined(l...), digits)
		if f != nil {
			return
		}
		last := 0
		for at := range len(l) + 1 {
			if isLegNext(l, at) {
				continue
			}
			some, f := parsing(t, joined(l[:at]...), digits)
			if f != nil || len(some) < last || len(some) > len(all) || !alike(some, all[:len(some)]) {
				t.Fatalf("%q, cut behind line %d: %+v, %v; all: %+v", l, at, some, f, all)
			}
			parsesAs(t, strings.TrimSuffix(joined(l[:at]...), "\n"), digits, some, nil)
			last = len(some)
			cuts++
		}
		if last != len(all) {
			t.Fatalf("%q: %d of %d events", l, last, len(all))
		}
	})
	if cuts < 10000 {
		t.Errorf("%d cuts", cuts)
	}
}

// TestP16_7OpenLegs: an open leg at each place, and what it comes to in its place.
func TestP16_7OpenLegs(t *testing.T) {
	r := source(10)
	opens := 0
	for range 5000 {
		digits := r.IntN(api.MaxDigits + 1)
		e := anyPost(r)
		for open := range e.Lines {
			even, is := balanced(e, open)
			legs := anyLegs(r, e.Lines, digits, open)
			text := joined(append([]string{anyHead(r, e)}, legs...)...)
			if !is {
				refuses(t, text, digits, 1, 0, api.ErrPaper)
				continue
			}
			opens++
			reads(t, text, digits, even)
			amount, _ := money.Print(even.Lines[open].Amount, digits)
			told := 0
			for i, leg := range legs {
				if sortOf(leg) != 'l' {
					continue
				}
				if told == open {
					name := e.Lines[open].Account
					legs[i] = strings.Replace(leg, name, fmt.Sprint(name, anyBlanks(r), amount), 1)
				}
				told++
			}
			reads(t, joined(append([]string{anyHead(r, e)}, legs...)...), digits, even)
		}
	}
	if opens < 5000 {
		t.Errorf("%d open legs", opens)
	}
}
