package paper

import (
	"cmp"
	"errors"
	"fmt"
	"math/big"
	"math/rand/v2"
	"reflect"
	"regexp"
	"slices"
	"strings"
	"testing"

	"daybook/api"
	"daybook/day"
	"daybook/event"
	"daybook/money"
)

var (
	emptyForm  = regexp.MustCompile(`\A[ \t]*\z`)
	remarkForm = regexp.MustCompile(`\A[ \t]*;`)
	blankForm  = regexp.MustCompile(`\A[ \t]`)
	headForm   = regexp.MustCompile(`\Apost[ \t]+([0-9-]{10})[ \t]+([A-Za-z0-9._-]{1,24})[ \t]*(?:"([ !#-~]{0,80})")?[ \t]*\z`)
	legForm    = regexp.MustCompile(`\A[ \t]+([A-Z][A-Za-z0-9-]{0,15}(?::[A-Z][A-Za-z0-9-]{0,15}){0,5})(?:[ \t]+(-?[0-9]+(?:\.[0-9]+)?))?(?:[ \t]+#([a-z][a-z0-9-]{0,15}))?[ \t]*\z`)
)

// What a line is: e empty, r a remark, l a leg, n an entry.
func sortOf(line string) byte {
	switch {
	case emptyForm.MatchString(line):
		return 'e'
	case remarkForm.MatchString(line):
		return 'r'
	case blankForm.MatchString(line):
		return 'l'
	}
	return 'n'
}

func plainPlace(line string) int { return len(line) - len(strings.TrimLeft(line, " \t")) }

// plainLines: a text's lines.
func plainLines(text string) []string {
	l := strings.Split(text, "\n")
	if l[len(l)-1] == "" {
		l = l[:len(l)-1]
	}
	return l
}

// plainHead: the Day, Key and Memo that a head tells.
func plainHead(line string) (api.Event, bool) {
	m := headForm.FindStringSubmatch(line)
	if m == nil {
		return api.Event{}, false
	}
	on, why := day.Parse(m[1])
	return api.Event{Kind: api.KPost, Day: on, Key: m[2], Memo: m[3]}, why == api.OK
}

// plainLeg: an open one has no amount.
func plainLeg(line string, digits int) (l api.Line, open, is bool) {
	m := legForm.FindStringSubmatch(line)
	if m == nil {
		return api.Line{}, false, false
	}
	l = api.Line{Account: m[1], Tag: m[3]}
	if m[2] == "" {
		return l, true, true
	}
	amount, why := money.Parse(m[2], digits)
	l.Amount = amount
	return l, false, why == api.OK && amount != 0
}

// plainPosting: a head with the legs of some lines; false, if it is no posting.
func plainPosting(e api.Event, lines []string, digits int) (api.Event, bool) {
	rest, opens, place := new(big.Int), 0, 0
	for _, line := range lines {
		if sortOf(line) != 'l' {
			continue
		}
		l, open, _ := plainLeg(line, digits)
		if open {
			opens++
			place = len(e.Lines)
		}
		rest.Sub(rest, big.NewInt(l.Amount))
		e.Lines = append(e.Lines, l)
	}
	if opens == 1 {
		if rest.CmpAbs(big.NewInt(api.MaxAmount)) > 0 || rest.Sign() == 0 {
			return api.Event{}, false
		}
		e.Lines[place].Amount = rest.Int64()
	}
	return e, opens <= 1 && event.Check(e) == api.OK
}

// found: a fault, and when it is found: behind so many lines, a posting's ahead of the next line's own.
type found struct {
	behind, rank int
	fault        api.Fault
}

// plainParse: P16.1, by all faults that a text has and all events that its lines tell, whatever the other lines are.
func plainParse(text string, digits int) ([]api.Event, *api.Fault) {
	if digits < 0 || digits > 6 {
		return nil, &api.Fault{Why: api.ErrArg}
	}
	if len(text) > 400000 {
		return nil, &api.Fault{Why: api.ErrLong}
	}
	var faults []found
	var events []api.Event
	lines := plainLines(text)
	headed := false // whether a leg would belong to a head
	for i, line := range lines {
		own := func(at int, why api.Errno) {
			faults = append(faults, found{i, 1, api.Fault{Line: i + 1, At: at, Why: why}})
		}
		e, isHead := plainHead(line)
		_, _, isLeg := plainLeg(line, digits)
		sort := sortOf(line)
		if sort == 'e' || sort == 'n' {
			headed = isHead
		}
		if len(line) > 2000 {
			own(2000, api.ErrLong)
		} else if sort == 'l' && !(headed && isLeg) {
			own(plainPlace(line), api.ErrPaper)
		} else if isHead {
			end := i + 1
			for end < len(lines) && (sortOf(lines[end]) == 'l' || sortOf(lines[end]) == 'r') {
				end++
			}
			whole, is := plainPosting(e, lines[i+1:end], digits)
			if !is {
				faults = append(faults, found{end, 0, api.Fault{Line: i + 1, Why: api.ErrPaper}})
			}
			events = append(events, whole)
		} else if sort == 'n' {
			told, why := event.Parse(line, digits)
			if why != api.OK {
				own(0, api.ErrPaper)
			}
			events = append(events, told)
		}
	}
	if len(faults) > 0 {
		first := slices.MinFunc(faults, func(a, b found) int {
			return cmp.Or(cmp.Compare(a.behind, b.behind), cmp.Compare(a.rank, b.rank))
		})
		return nil, &first.fault
	}
	return events, nil
}

// plainPrint: the lines of valid events, set by the library.
func plainPrint(l []api.Event, digits int) string {
	text := ""
	for _, e := range l {
		if e.Kind != api.KPost {
			line, _ := event.Print(e, digits)
			text += line + "\n"
			continue
		}
		date, _ := day.Print(e.Day)
		text += "post " + date + " " + e.Key
		if e.Memo != "" {
			text += ` "` + e.Memo + `"`
		}
		text += "\n"
		names, sizes := 0, 0
		for _, l := range e.Lines {
			amount, _ := money.Print(l.Amount, digits)
			names, sizes = max(names, len(l.Account)), max(sizes, len(amount))
		}
		for _, l := range e.Lines {
			amount, _ := money.Print(l.Amount, digits)
			text += fmt.Sprintf("  %-*s  %*s", names, l.Account, sizes, amount)
			if l.Tag != "" {
				text += " #" + l.Tag
			}
			text += "\n"
		}
	}
	return text
}

// alike: the same events; nil and empty lists are.
func alike(a, b []api.Event) bool {
	return slices.EqualFunc(a, b, func(a, b api.Event) bool {
		if !slices.Equal(a.Lines, b.Lines) {
			return false
		}
		a.Lines, b.Lines = nil, nil
		return reflect.DeepEqual(a, b)
	})
}

// copied: the events with lists of their own.
func copied(l []api.Event) []api.Event {
	l = slices.Clone(l)
	for i := range l {
		l[i].Lines = slices.Clone(l[i].Lines)
	}
	return l
}

// short: of a text as much as a test's failure should tell.
func short(text string) string {
	if len(text) > 600 {
		return text[:300] + " .. " + text[len(text)-300:]
	}
	return text
}

// parsing: what Parse answers, of which an error is an *api.Fault, and its Unwrap the reason.
func parsing(t *testing.T, text string, digits int) ([]api.Event, *api.Fault) {
	t.Helper()
	l, err := Parse(text, digits)
	if err == nil {
		return l, nil
	}
	f, is := err.(*api.Fault)
	if !is || f == nil {
		t.Fatalf("Parse(%q, %d): the error %v is no fault", short(text), digits, err)
	}
	if errors.Unwrap(err) != error(f.Why) || !errors.Is(err, f.Why) || f.Why == api.OK {
		t.Fatalf("Parse(%q, %d): the reason of %v is %v", short(text), digits, err, errors.Unwrap(err))
	}
	if len(l) > 0 {
		t.Fatalf("Parse(%q, %d): %v, and events beside it", short(text), digits, err)
	}
	return nil, f
}

// reads: Parse takes a text, as these events.
func reads(t *testing.T, text string, digits int, want ...api.Event) {
	t.Helper()
	l, f := parsing(t, text, digits)
	if f != nil || !alike(l, want) {
		t.Fatalf("Parse(%q, %d): %+v, %v; want %+v", short(text), digits, l, f, want)
	}
}

// refuses: Parse does not take a text.
func refuses(t *testing.T, text string, digits, line, at int, why api.Errno) {
	t.Helper()
	l, f := parsing(t, text, digits)
	if want := (api.Fault{Line: line, At: at, Why: why}); f == nil || *f != want {
		t.Fatalf("Parse(%q, %d): %+v, %v; want %v", short(text), digits, l, f, &want)
	}
}

// parsesAs: Parse answers so.
func parsesAs(t *testing.T, text string, digits int, want []api.Event, fault *api.Fault) {
	t.Helper()
	if fault != nil {
		refuses(t, text, digits, fault.Line, fault.At, fault.Why)
		return
	}
	reads(t, text, digits, want...)
}

// asPlain: Parse answers as the plain model; these answers.
func asPlain(t *testing.T, text string, digits int) ([]api.Event, *api.Fault) {
	t.Helper()
	want, fault := plainParse(text, digits)
	parsesAs(t, text, digits, want, fault)
	return want, fault
}

// prints: Print takes events, as this text.
func prints(t *testing.T, l []api.Event, digits int, want string) {
	t.Helper()
	if text, why := Print(l, digits); why != api.OK || text != want {
		t.Fatalf("Print(%+v, %d): error %d, %q; want %q", l, digits, int(why), short(text), short(want))
	}
}

// refusesEvents: Print does not take events.
func refusesEvents(t *testing.T, l []api.Event, digits int, want api.Errno) {
	t.Helper()
	if text, why := Print(l, digits); why != want || text != "" {
		t.Fatalf("Print of %d events with %d: error %d, %q; want error %d", len(l), digits, int(why), short(text), int(want))
	}
}

// source gives the same numbers in every run.
func source(n uint64) *rand.Rand { return rand.New(rand.NewPCG(16, n)) }

// pick is one of some.
func pick[T any](r *rand.Rand, from ...T) T { return from[r.IntN(len(from))] }

// joined: lines, each with its byte 10.
func joined(lines ...string) string {
	text := ""
	for _, line := range lines {
		text += line + "\n"
	}
	return text
}
