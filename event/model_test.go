package event

import (
	"encoding/binary"
	"math/rand/v2"
	"reflect"
	"regexp"
	"slices"
	"strings"
	"testing"

	"daybook/api"
	"daybook/day"
	"daybook/money"
)

// kindRow is a kind's row in the chapter's tables: of each field behind Day what it is, and its name.
// Of bytes: t a text, n a number, a an amount, b one byte, l Lines. Of a line: as there, ? what may be left out, w a word that stands so.
type kindRow struct {
	word        string
	bytes, line [][2]string
}

var kindRows = map[int]kindRow{
	api.KOpen:    {"open", parts("t:Account b:Type"), parts("A:Account ?T:Type")},
	api.KClose:   {"close", parts("t:Account"), parts("A:Account")},
	api.KPost:    {"post", parts("t:Key t:Memo l:Lines"), parts("K:Key ?M:Memo L:Lines")},
	api.KVoid:    {"void", parts("t:Key t:Ref t:Memo"), parts("K:Key K:Ref ?M:Memo")},
	api.KInvoice: {"invoice", parts("t:Key t:Account t:Other n:Due a:Amount t:Memo"), parts("K:Key A:Account A:Other w:due D:Due N:Amount ?M:Memo")},
	api.KPay:     {"pay", parts("t:Key t:Account t:Other a:Amount t:Memo"), parts("K:Key A:Account A:Other N:Amount ?M:Memo")},
	api.KAllot:   {"allot", parts("t:Key t:Ref t:Ref2 a:Amount"), parts("K:Key K:Ref K:Ref2 N:Amount")},
	api.KLock:    {"lock", nil, nil},
}

var (
	accountForm = regexp.MustCompile(`\A[A-Z][A-Za-z0-9-]{0,15}(:[A-Z][A-Za-z0-9-]{0,15}){0,5}\z`)
	keyForm     = regexp.MustCompile(`\A[A-Za-z0-9._-]{1,24}\z`)
	tagForm     = regexp.MustCompile(`\A([a-z][a-z0-9-]{0,15})?\z`)
	memoForm    = regexp.MustCompile(`\A[ !#-~]{0,80}\z`)
	pieceForm   = regexp.MustCompile(`\A(?:,|"[ !#-~]*"|[^ \t,"]+)`)
)

func typeNames() []string {
	return []string{"", "asset", "liability", "equity", "income", "expense"}
}

// parts: what each of a row's fields is, and its name.
func parts(row string) (l [][2]string) {
	for _, f := range strings.Fields(row) {
		what, name, _ := strings.Cut(f, ":")
		l = append(l, [2]string{what, name})
	}
	return l
}

func field(e *api.Event, name string) reflect.Value {
	return reflect.ValueOf(e).Elem().FieldByName(name)
}

// fieldsOf: the names of a kind's fields.
func fieldsOf(kind int) []string {
	l := []string{"Kind", "Day"}
	for _, p := range kindRows[kind].bytes {
		l = append(l, p[1])
	}
	return l
}

// plainDay: whether a number is a day.
func plainDay(n int64) bool { return n >= 1 && n <= 3652059 }

// plainField: whether a field by itself is as its kind's row tells.
func plainField(what string, v reflect.Value) bool {
	switch strings.TrimPrefix(what, "?") {
	case "A":
		return accountForm.MatchString(v.String())
	case "K":
		return keyForm.MatchString(v.String())
	case "M":
		return memoForm.MatchString(v.String())
	case "D":
		return plainDay(v.Int())
	case "N":
		return v.Int() > 0
	case "T":
		return v.Int() >= 0 && v.Int() <= 5
	case "L":
		for i := range v.Len() {
			l := v.Index(i).Interface().(api.Line)
			if !accountForm.MatchString(l.Account) || l.Amount == 0 || l.Amount == -1<<63 || !tagForm.MatchString(l.Tag) {
				return false
			}
		}
		return v.Len() >= 2 && v.Len() <= 12
	}
	return true
}

// plainCheck: whether an event is valid, by the words of DOC.md, "Events".
func plainCheck(e api.Event) bool {
	row, known := kindRows[e.Kind]
	if !known || !plainDay(int64(e.Day)) {
		return false
	}
	for _, p := range row.line {
		if p[0] != "w" && !plainField(p[0], field(&e, p[1])) {
			return false
		}
	}
	for f := range reflect.TypeFor[api.Event]().Fields() {
		v := field(&e, f.Name)
		if !slices.Contains(fieldsOf(e.Kind), f.Name) && !v.IsZero() && !(f.Name == "Lines" && v.Len() == 0) {
			return false
		}
	}
	switch e.Kind {
	case api.KOpen:
		return strings.Contains(e.Account, ":") == (e.Type == 0)
	case api.KInvoice:
		return e.Account != e.Other && e.Due >= e.Day
	case api.KPay:
		return e.Account != e.Other
	}
	return true
}

func appendText(b []byte, s string) []byte {
	return append(binary.AppendUvarint(b, uint64(len(s))), s...)
}

// plainEncode: a valid event's bytes; the library's numbers are 5.2's.
func plainEncode(e api.Event) []byte {
	b := binary.AppendUvarint([]byte{byte(e.Kind)}, uint64(e.Day))
	for _, p := range kindRows[e.Kind].bytes {
		v := field(&e, p[1])
		switch p[0] {
		case "t":
			b = appendText(b, v.String())
		case "n":
			b = binary.AppendUvarint(b, uint64(v.Int()))
		case "a":
			b = binary.AppendVarint(b, v.Int())
		case "b":
			b = append(b, byte(v.Int()))
		case "l":
			b = append(b, byte(v.Len()))
			for _, l := range e.Lines {
				b = appendText(binary.AppendVarint(appendText(b, l.Account), l.Amount), l.Tag)
			}
		}
	}
	return b
}

// taker takes 5.2's things from the beginning of bytes; short: they were not there, or in no good form.
type taker struct {
	b     []byte
	short bool
}

func (t *taker) cut(n int) []byte {
	if n < 0 || n > len(t.b) {
		t.b, t.short = nil, true
		return nil
	}
	head := t.b[:n]
	t.b = t.b[n:]
	return head
}

func (t *taker) byte() int64 {
	if head := t.cut(1); head != nil {
		return int64(head[0])
	}
	return 0
}

func (t *taker) number() uint64 {
	n, size := binary.Uvarint(t.b)
	if size <= 0 || size != len(binary.AppendUvarint(nil, n)) {
		t.cut(-1)
		return 0
	}
	t.cut(size)
	return n
}

func (t *taker) amount() int64 {
	n := t.number()
	a, _ := binary.Varint(binary.AppendUvarint(nil, n))
	return a
}

func (t *taker) text() string { return string(t.cut(int(min(t.number(), 1<<40)))) }

// plainDecode: the valid event whose bytes b are.
func plainDecode(b []byte) (api.Event, bool) {
	t := &taker{b: b}
	e := api.Event{Kind: int(t.byte()), Day: int(min(t.number(), 1<<40))}
	for _, p := range kindRows[e.Kind].bytes {
		v := field(&e, p[1])
		switch p[0] {
		case "t":
			v.SetString(t.text())
		case "n":
			v.SetInt(int64(min(t.number(), 1<<40)))
		case "a":
			v.SetInt(t.amount())
		case "b":
			v.SetInt(t.byte())
		case "l":
			for range t.byte() {
				e.Lines = append(e.Lines, api.Line{Account: t.text(), Amount: t.amount(), Tag: t.text()})
			}
		}
	}
	if t.short || len(t.b) > 0 || !plainCheck(e) {
		return api.Event{}, false
	}
	return e, true
}

// plainPrint: a valid event's line.
func plainPrint(e api.Event, digits int) string {
	on, _ := day.Print(e.Day)
	s := kindRows[e.Kind].word + " " + on
	for _, p := range kindRows[e.Kind].line {
		if p[0] == "w" {
			s += " " + p[1]
			continue
		}
		v := field(&e, p[1])
		if p[0][0] == '?' && v.IsZero() {
			continue
		}
		switch strings.TrimPrefix(p[0], "?") {
		case "A", "K":
			s += " " + v.String()
		case "M":
			s += ` "` + v.String() + `"`
		case "D":
			text, _ := day.Print(int(v.Int()))
			s += " " + text
		case "N":
			text, _ := money.Print(v.Int(), digits)
			s += " " + text
		case "T":
			s += " " + typeNames()[v.Int()]
		case "L":
			s += " " + plainLines(e.Lines, digits)
		}
	}
	return s
}

func plainLines(lines []api.Line, digits int) string {
	var l []string
	for _, line := range lines {
		text, _ := money.Print(line.Amount, digits)
		s := line.Account + " " + text
		if line.Tag != "" {
			s += " #" + line.Tag
		}
		l = append(l, s)
	}
	return strings.Join(l, ", ")
}

// pieces: a line cut as 5.3 says; false, if it can't be.
func pieces(s string) (l []string, whole bool) {
	for {
		s = strings.TrimLeft(s, " \t")
		if s == "" {
			return l, true
		}
		piece := pieceForm.FindString(s)
		if piece == "" {
			return nil, false
		}
		l = append(l, piece)
		s = s[len(piece):]
	}
}

func isWord(piece string) bool { return piece[0] != ',' && piece[0] != '"' }

// plainParse: the valid event whose line s is.
func plainParse(s string, digits int) (api.Event, bool) {
	left, whole := pieces(s)
	if !whole || len(left) == 0 {
		return api.Event{}, false
	}
	e := api.Event{}
	for kind, row := range kindRows {
		if row.word == left[0] {
			e.Kind = kind
		}
	}
	left = left[1:]
	for _, p := range append([][2]string{{"D", "Day"}}, kindRows[e.Kind].line...) {
		var good bool
		if left, good = plainTake(&e, p, left, digits); !good {
			return api.Event{}, false
		}
	}
	if len(left) > 0 || !plainCheck(e) {
		return api.Event{}, false
	}
	return e, true
}

// plainTake takes one field from the pieces that are left.
func plainTake(e *api.Event, p [2]string, left []string, digits int) ([]string, bool) {
	what, free := strings.CutPrefix(p[0], "?")
	if what == "L" {
		return plainTakeLines(e, left, digits)
	}
	if free && (len(left) == 0 || what == "M" && left[0][0] != '"') {
		return left, true
	}
	if len(left) == 0 || isWord(left[0]) == (what == "M") {
		return nil, false
	}
	why := api.OK
	number := 0
	switch what {
	case "w":
		return left[1:], left[0] == p[1]
	case "A", "K":
		field(e, p[1]).SetString(left[0])
	case "M":
		if left[0][0] == ',' {
			return nil, false
		}
		field(e, p[1]).SetString(strings.Trim(left[0], `"`))
	case "T":
		number = slices.Index(typeNames(), left[0])
		field(e, p[1]).SetInt(int64(number))
	case "D":
		number, why = day.Parse(left[0])
		field(e, p[1]).SetInt(int64(number))
	case "N":
		var amount int64
		amount, why = money.Parse(left[0], digits)
		field(e, p[1]).SetInt(amount)
	}
	return left[1:], why == api.OK
}

func plainTakeLines(e *api.Event, left []string, digits int) ([]string, bool) {
	for {
		if len(left) < 2 || !isWord(left[0]) || !isWord(left[1]) {
			return nil, false
		}
		amount, why := money.Parse(left[1], digits)
		line := api.Line{Account: left[0], Amount: amount}
		left = left[2:]
		if len(left) > 0 && left[0][0] == '#' {
			if line.Tag = left[0][1:]; line.Tag == "" {
				return nil, false
			}
			left = left[1:]
		}
		e.Lines = append(e.Lines, line)
		if why != api.OK {
			return nil, false
		}
		if len(left) == 0 || left[0] != "," {
			return left, true
		}
		left = left[1:]
	}
}

// source gives the same numbers in every run.
func source(n uint64) *rand.Rand { return rand.New(rand.NewPCG(5, n)) }

// alike: the same events; nil and empty Lines are.
func alike(a, b api.Event) bool {
	if !slices.Equal(a.Lines, b.Lines) {
		return false
	}
	a.Lines, b.Lines = nil, nil
	return reflect.DeepEqual(a, b)
}

// copied: the event with Lines of its own.
func copied(e api.Event) api.Event {
	e.Lines = slices.Clone(e.Lines)
	return e
}

func wantEvent(t *testing.T, what string, got api.Event, why api.Errno, want api.Event) {
	t.Helper()
	if why != api.OK || !alike(got, want) {
		t.Fatalf("%s: %+v, error %d; want %+v", what, got, int(why), want)
	}
}

func wantNone(t *testing.T, what string, got api.Event, why, want api.Errno) {
	t.Helper()
	if why != want || !alike(got, api.Event{}) {
		t.Fatalf("%s: %+v, error %d; want error %d", what, got, int(why), int(want))
	}
}

// wantInvalid: no call takes it.
func wantInvalid(t *testing.T, e api.Event) {
	t.Helper()
	if why := Check(e); why != api.ErrEvent {
		t.Fatalf("Check(%+v): error %d", e, int(why))
	}
	if b, why := Encode(e); len(b) != 0 || why != api.ErrEvent {
		t.Fatalf("Encode(%+v): % x, error %d", e, b, int(why))
	}
	if s, why := Print(e, 2); s != "" || why != api.ErrEvent {
		t.Fatalf("Print(%+v): %q, error %d", e, s, int(why))
	}
}
