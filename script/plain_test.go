package script

import (
	"cmp"
	"fmt"
	"slices"
	"strings"
	"testing"

	asked "daybook/answer"
	"daybook/api"
	"daybook/book"
	"daybook/event"
	"daybook/grammar"
	"daybook/paper"
	"daybook/sheet"
)

// plain is DOC.md's model (P12): it keeps the list of events, and works out each answer of it anew. It has no disk: what is told of room and files it does not know, nor does the power fail.
type plain struct {
	digits  int
	events  []api.Event
	base    api.Base
	closed  bool
	gen, at int
	busy    bool
	ckpts   []int // the checkpoints' events, spoilt ones too
}

// unknown: an answer that the model does not know.
const unknown = "?"

// playPlain: the model's trace; of an answer that it does not know its line's number and unknown.
func playPlain(commands []api.Command) string {
	var p plain
	var b strings.Builder
	for _, c := range commands {
		fmt.Fprintf(&b, "%d %s\n", c.Line, p.answer(c))
	}
	return b.String()
}

// takes: the books behind the list must take it.
func (p *plain) takes(e api.Event) api.Errno {
	books := book.New()
	for _, one := range p.events {
		books.Apply(one)
	}
	_, why := books.Apply(e)
	if why == api.OK {
		p.events = append(p.events, e)
		p.base = books.Base()
	}
	return why
}

func (p *plain) m(a int64) string { return moneyText(a, p.digits) }

func (p *plain) answer(c api.Command) string {
	switch c.Word {
	case "daybook":
		p.digits = num(c.Args[2])
		return "ok 0"
	case "reopen":
		p.closed, p.gen, p.at, p.busy = false, 0, 0, false
		return fmt.Sprintf("ok %d", len(p.events))
	case "crash":
		p.closed = true
		return "ok"
	case "lose", "turn":
		n := num(c.Args[0])
		if n < 0 || n >= len(p.ckpts) {
			return "error 31"
		}
		p.closed = true
		i := len(p.ckpts) - 1 - n
		name := fmt.Sprintf("ok ckpt-%06d", p.ckpts[i])
		if c.Word == "lose" {
			p.ckpts = slices.Delete(p.ckpts, i, i+1)
		}
		return name
	case "fuse", "free", "files":
		return unknown
	}
	if p.closed {
		return "closed"
	}
	return p.onLedger(c)
}

func (p *plain) onLedger(c api.Command) string {
	switch c.Word {
	case "submit":
		e, why := event.Parse(c.Text, p.digits)
		if why == api.OK {
			why = p.takes(e)
		}
		return or(why, "%d", len(p.events))
	case "import":
		l, err := paper.Parse(c.Text, p.digits)
		if err != nil {
			f := err.(*api.Fault)
			return fmt.Sprintf("error %d 0 %d %d", int(f.Why), f.Line, f.At)
		}
		for i, e := range l {
			if why := p.takes(e); why != api.OK {
				return fmt.Sprintf("error %d %d 0 0", int(why), i)
			}
		}
		return fmt.Sprintf("ok %d", len(l))
	case "len":
		return fmt.Sprintf("ok %d", len(p.events))
	case "event":
		n := num(c.Args[0])
		if n < 1 || n > len(p.events) {
			return "error 41"
		}
		s, why := event.Print(p.events[n-1], p.digits)
		return or(why, "%s", s)
	case "export":
		return quote(paper.Print(p.events, p.digits))
	case "snapshot":
		p.ckpts = append(p.ckpts, len(p.events))
		slices.Sort(p.ckpts)
		p.ckpts = slices.Compact(p.ckpts)
		return "ok"
	case "trim":
		keep := num(c.Args[0])
		if keep < 0 {
			return "error 1"
		}
		gone := max(0, len(p.ckpts)-keep)
		p.ckpts = p.ckpts[gone:]
		return fmt.Sprintf("ok %d", gone)
	case "rebuild", "status":
		return p.progress(c)
	}
	return p.report(c)
}

func (p *plain) progress(c api.Command) string {
	n := len(p.events)
	if c.Word == "status" {
		return fmt.Sprintf("ok %d %d %d %d 0", p.gen, bit(p.busy), p.at, n)
	}
	k := num(c.Args[0])
	if k < 1 {
		return "error 1"
	}
	if p.at == n {
		p.gen, p.busy, p.at = p.gen+1, false, 0
	} else {
		p.busy, p.at = true, min(p.at+k, n)
	}
	return fmt.Sprintf("ok %d %d %d %d", p.gen, bit(p.busy), p.at, n)
}

// sum: of the rows on an account (and on those below it) up to a day.
func (p *plain) sum(name string, below bool, to int) int64 {
	var sum int64
	for _, r := range p.base.Rows {
		if (r.Account == name || below && strings.HasPrefix(r.Account, name+":")) && r.Day <= to {
			sum += r.Amount
		}
	}
	return sum
}

func (p *plain) has(name string) bool {
	return slices.ContainsFunc(p.base.Accounts, func(a api.Account) bool { return a.Name == name })
}

// openAt: what is open of an account's invoices at a day.
func (p *plain) openAt(name string, day int) []api.Claim {
	var l []api.Claim
	for _, c := range p.base.Invoices {
		if c.Account != name || c.Day > day {
			continue
		}
		for _, a := range p.base.Allots {
			if a.Invoice == c.Key && a.Day <= day {
				c.Amount -= a.Amount
			}
		}
		if c.Amount > 0 {
			l = append(l, c)
		}
	}
	slices.SortFunc(l, func(a, b api.Claim) int {
		return cmp.Or(cmp.Compare(a.Due, b.Due), cmp.Compare(a.Day, b.Day), cmp.Compare(a.Key, b.Key))
	})
	return l
}

// agesAt: the same by age.
func (p *plain) agesAt(name string, day int) api.Ages {
	var ages api.Ages
	for _, c := range p.openAt(name, day) {
		late, i := day-c.Due, 0
		for _, from := range []int{1, 31, 61, 91} {
			if late >= from {
				i++
			}
		}
		ages[i] += c.Amount
	}
	return ages
}

func (p *plain) trial() []api.Column {
	var l []api.Column
	for _, a := range p.base.Accounts {
		switch own := p.sum(a.Name, false, api.MaxDay); {
		case own > 0:
			l = append(l, api.Column{Account: a.Name, Debit: own})
		case own < 0:
			l = append(l, api.Column{Account: a.Name, Credit: -own})
		}
	}
	return l
}

func (p *plain) report(c api.Command) string {
	s := ""
	switch c.Word {
	case "trial":
		l := p.trial()
		for _, a := range l {
			s += fmt.Sprintf("\n  %s %s %s", a.Account, p.m(a.Debit), p.m(a.Credit))
		}
		return fmt.Sprintf("ok %d%s", len(l), s)
	case "accounts":
		for _, a := range p.base.Accounts {
			s += fmt.Sprintf("\n  %s %d %s %s", a.Name, a.Type, dateText(a.Opened), map[bool]string{false: "open", true: "closed"}[a.Closed])
		}
		return fmt.Sprintf("ok %d%s", len(p.base.Accounts), s)
	case "left":
		for i, c2 := range slices.Concat(p.base.Invoices, p.base.Payments) {
			if c2.Key != c.Args[0] {
				continue
			}
			left := c2.Amount
			for _, a := range p.base.Allots {
				if i < len(p.base.Invoices) && a.Invoice == c2.Key || i >= len(p.base.Invoices) && a.Pay == c2.Key {
					left -= a.Amount
				}
			}
			return "ok " + p.m(left)
		}
		return "error 73"
	case "query":
		q, at, why := grammar.Parse(c.Text)
		if why != api.OK {
			return fmt.Sprintf("error %d %d", int(why), at)
		}
		table, why := asked.Scan(q, p.base.Rows)
		if why != api.OK {
			return fmt.Sprintf("error %d 0", int(why))
		}
		return tableText(table, p.digits)
	case "sheet":
		return quote(p.sheet(c.Args))
	}
	return p.ofAccount(c)
}

func (p *plain) ofAccount(c api.Command) string {
	name, s, n := c.Args[0], "", 0
	var days []int
	for _, a := range c.Args[1:] {
		days = append(days, dayNumber(a))
	}
	if c.Word == "daily" && days[1] < days[0] {
		return "error 1"
	}
	if !p.has(name) {
		return "error 61"
	}
	switch c.Word {
	case "rollup":
		return "ok " + p.m(p.sum(name, false, api.MaxDay)) + " " + p.m(p.sum(name, true, api.MaxDay))
	case "aged":
		for _, a := range p.agesAt(name, days[0]) {
			s += " " + p.m(a)
		}
		return "ok" + s
	case "open":
		l := p.openAt(name, days[0])
		for _, a := range l {
			s += fmt.Sprintf("\n  %s %s %s %s", a.Key, dateText(a.Day), dateText(a.Due), p.m(a.Amount))
		}
		return fmt.Sprintf("ok %d%s", len(l), s)
	}
	var moved []int
	for _, r := range p.base.Rows {
		if r.Account == name && r.Day >= days[0] && r.Day <= days[1] {
			moved = append(moved, r.Day)
		}
	}
	slices.Sort(moved)
	for _, day := range slices.Compact(moved) {
		if end := p.sum(name, false, day); end != p.sum(name, false, day-1) {
			s += fmt.Sprintf("\n  %s %s %s", dateText(day), p.m(end-p.sum(name, false, day-1)), p.m(end))
			n++
		}
	}
	return fmt.Sprintf("ok %d%s", n, s)
}

func (p *plain) sheet(args []string) (string, api.Errno) {
	switch args[0] {
	case "trial":
		return sheet.Trial(p.trial(), p.digits)
	case "tree":
		var l []api.Balance
		for _, a := range p.base.Accounts {
			l = append(l, api.Balance{Account: a.Name, Own: p.sum(a.Name, false, api.MaxDay), Rollup: p.sum(a.Name, true, api.MaxDay)})
		}
		return sheet.Tree(p.base.Accounts, l, p.digits)
	case "income":
		return sheet.Income(p.base.Accounts, p.base.Rows, dayNumber(args[1]), dayNumber(args[2]), p.digits)
	case "position":
		return sheet.Position(p.base.Accounts, p.base.Rows, dayNumber(args[1]), p.digits)
	}
	if !p.has(args[1]) {
		return "", api.ErrUnknown
	}
	day := dayNumber(args[2])
	return sheet.Statement(args[1], p.openAt(args[1], day), p.agesAt(args[1], day), day, p.digits)
}

// playsByList: the trace of a script must be that of the list of events, where the model knows it.
func playsByList(t *testing.T, in string) {
	t.Helper()
	commands, fault := modelParse(in)
	if fault != (api.Fault{}) {
		t.Fatalf("%s: %+v", short(in), fault)
	}
	got, want := answersOf(traceOf(t, in)), answersOf(playPlain(commands))
	same(t, "how many answers", len(got), len(want))
	for i := range got {
		if got[i] != want[i] && !strings.HasSuffix(want[i], " "+unknown+"\n") {
			t.Fatalf("%s\n%s", in, firstUnlike(got[i], want[i]))
		}
	}
}

// answersOf: a trace cut into its answers, each with its rows.
func answersOf(trace string) []string {
	var l []string
	for line := range strings.Lines(trace) {
		if line[0] == ' ' {
			l[len(l)-1] += line
		} else {
			l = append(l, line)
		}
	}
	return l
}
