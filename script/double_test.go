package script

import (
	"errors"
	"fmt"
	"slices"
	"strconv"
	"strings"
	"testing"

	"daybook/api"
	"daybook/book"
	"daybook/disk"
	"daybook/event"
	"daybook/ledger"
	"daybook/sheet"
)

// double plays a script once more, by the table of 19.3, straight on a disk and a ledger.
type double struct {
	disk     *disk.Disk
	ledger   *ledger.Ledger
	settings api.Settings
}

// playDouble: the double's trace of commands that were read.
func playDouble(commands []api.Command) string {
	var x double
	var b strings.Builder
	for _, c := range commands {
		fmt.Fprintf(&b, "%d %s\n", c.Line, x.answer(c))
	}
	return b.String()
}

// playsAlike: the trace of a script must be the double's.
func playsAlike(t *testing.T, in string) string {
	t.Helper()
	commands, fault := modelParse(in)
	if fault != (api.Fault{}) {
		t.Fatalf("%s: %+v", short(in), fault)
	}
	got, want := traceOf(t, in), playDouble(commands)
	if got != want {
		t.Fatalf("%s\nin line %s", in, firstUnlike(got, want))
	}
	return got
}

// firstUnlike: the first line in which two texts are not alike.
func firstUnlike(got, want string) string {
	a, b := strings.Split(got, "\n"), strings.Split(want, "\n")
	for i := range min(len(a), len(b)) {
		if a[i] != b[i] {
			return fmt.Sprintf("%d: %q, want %q", i+1, a[i], b[i])
		}
	}
	return fmt.Sprintf("%d and %d lines", len(a), len(b))
}

func num(s string) int {
	n, err := strconv.Atoi(s)
	if err != nil {
		panic(err)
	}
	return n
}

// dayNumber: a date's number, days counted from the first one.
func dayNumber(s string) int {
	year, month, day := num(strings.TrimLeft(s[:4], "0")), num(strings.TrimPrefix(s[5:7], "0")), num(strings.TrimPrefix(s[8:], "0"))
	days := 0
	for m := 1; m < month; m++ {
		days += []int{0, 31, 28, 31, 30, 31, 30, 31, 31, 30, 31, 30}[m]
	}
	if month > 2 && (year%4 == 0 && year%100 != 0 || year%400 == 0) {
		days++
	}
	y := year - 1
	return y*365 + y/4 - y/100 + y/400 + days + day
}

// dateText: the date of a day's number, by trying.
func dateText(n int) string {
	for year := max(1, n/366); ; year++ {
		if year < 9999 && dayNumber(fmt.Sprintf("%04d-01-01", year+1)) <= n {
			continue
		}
		for month := 12; ; month-- {
			if first := dayNumber(fmt.Sprintf("%04d-%02d-01", year, month)); first <= n {
				return fmt.Sprintf("%04d-%02d-%02d", year, month, n-first+1)
			}
		}
	}
}

// moneyText: an amount's text.
func moneyText(a int64, digits int) string {
	sign, size := "", uint64(a)
	if a < 0 {
		sign, size = "-", -size
	}
	s := fmt.Sprintf("%0*d", digits+1, size)
	if digits == 0 {
		return sign + s
	}
	return sign + s[:len(s)-digits] + "." + s[len(s)-digits:]
}

func (x *double) m(a int64) string { return moneyText(a, x.settings.Digits) }

// or: an error's answer, or that.
func or(why api.Errno, format string, values ...any) string {
	if why != api.OK {
		return fmt.Sprintf("error %d", int(why))
	}
	return strings.TrimSuffix(fmt.Sprintf("ok "+format, values...), " ")
}

// quote: how many lines, and these.
func quote(s string, why api.Errno) string {
	quoted := ""
	for line := range strings.Lines(s) {
		quoted += "\n |" + strings.TrimSuffix(line, "\n")
	}
	return or(why, "%d%s", strings.Count(s, "\n"), quoted)
}

func (x *double) answer(c api.Command) string {
	switch c.Word {
	case "daybook":
		d, why := disk.New(num(c.Args[0]))
		if why != api.OK {
			return "error 1"
		}
		x.disk, x.settings = d, api.Settings{Segment: num(c.Args[1]), Digits: num(c.Args[2])}
		return x.opened()
	case "fuse", "free", "files", "crash", "reopen", "lose", "turn":
		if x.disk == nil {
			return "closed"
		}
		return x.onDisk(c)
	}
	if x.ledger == nil {
		return "closed"
	}
	return x.onLedger(c)
}

func (x *double) opened() string {
	l, why := ledger.Open(x.disk, x.settings)
	if why != api.OK {
		x.ledger = nil
		return or(why, "")
	}
	x.ledger = l
	return or(api.OK, "%d", l.Len())
}

func (x *double) onDisk(c api.Command) string {
	switch c.Word {
	case "fuse":
		return or(x.disk.Fuse(num(c.Args[0])), "")
	case "free":
		return or(api.OK, "%d", x.disk.Free())
	case "files":
		s := ""
		for _, f := range x.disk.State().Files {
			s += fmt.Sprintf("\n  %s %d %d", f.Name, len(f.Data), f.Synced)
		}
		return or(api.OK, "%d%s", strings.Count(s, "\n"), s)
	case "crash":
		keep := make([]int, len(c.Args))
		for i, a := range c.Args {
			keep[i] = num(a)
		}
		x.disk.Crash(keep)
		x.ledger = nil
		return "ok"
	case "reopen":
		return x.opened()
	}
	return x.spoilt(c)
}

// spoilt: lose and turn, by the names of all files.
func (x *double) spoilt(c api.Command) string {
	s := x.disk.State()
	var names []string
	for n := range 1001 {
		name := fmt.Sprintf("ckpt-%06d", n)
		if slices.ContainsFunc(s.Files, func(f api.File) bool { return f.Name == name }) {
			names = append(names, name)
		}
	}
	slices.Reverse(names)
	n := num(c.Args[0])
	if x.disk.Down() || n < 0 || n >= len(names) {
		return "error 31"
	}
	var files []api.File
	for _, f := range s.Files {
		if f.Name == names[n] {
			if c.Word == "lose" {
				continue
			}
			at := num(c.Args[1])
			if at < 0 || at >= len(f.Data) {
				return "error 31"
			}
			f.Data[at] ^= byte((num(c.Args[2])%256 + 256) % 256)
		}
		files = append(files, f)
	}
	s.Files = files
	var why api.Errno
	x.disk, why = disk.From(s)
	x.ledger = nil
	return or(why, "%s", names[n])
}

func (x *double) onLedger(c api.Command) string {
	l := x.ledger
	switch c.Word {
	case "submit":
		n, why := l.Text(c.Text)
		return or(why, "%d", n)
	case "len":
		return or(api.OK, "%d", l.Len())
	case "event":
		e, why := l.Event(num(c.Args[0]))
		s, _ := event.Print(e, x.settings.Digits)
		return or(why, "%s", s)
	case "export":
		return quote(l.Export())
	case "import":
		n, err := l.Import(c.Text)
		if err == nil {
			return or(api.OK, "%d", n)
		}
		var f *api.Fault
		if errors.As(err, &f) {
			return fmt.Sprintf("error %d %d %d %d", int(f.Why), n, f.Line, f.At)
		}
		return fmt.Sprintf("error %d %d 0 0", int(err.(api.Errno)), n)
	case "sheet":
		return quote(x.sheet(c.Args))
	case "snapshot":
		return or(l.Snapshot(), "")
	case "trim":
		n, why := l.Trim(num(c.Args[0]))
		return or(why, "%d", n)
	case "rebuild":
		p, why := l.Rebuild(num(c.Args[0]))
		return or(why, "%d %d %d %d", p.Gen, bit(p.Busy), p.At, p.Of)
	case "status":
		p, full := l.Status()
		return or(api.OK, "%d %d %d %d %d", p.Gen, bit(p.Busy), p.At, p.Of, bit(full))
	}
	return x.report(c)
}

func bit(is bool) int {
	if is {
		return 1
	}
	return 0
}

func (x *double) report(c api.Command) string {
	l, s := x.ledger, ""
	switch c.Word {
	case "trial":
		columns, why := l.Trial()
		for _, a := range columns {
			s += fmt.Sprintf("\n  %s %s %s", a.Account, x.m(a.Debit), x.m(a.Credit))
		}
		return or(why, "%d%s", len(columns), s)
	case "rollup":
		b, why := l.Rollup(c.Args[0])
		return or(why, "%s %s", x.m(b.Own), x.m(b.Rollup))
	case "daily":
		days, why := l.Daily(c.Args[0], dayNumber(c.Args[1]), dayNumber(c.Args[2]))
		for _, a := range days {
			s += fmt.Sprintf("\n  %s %s %s", dateText(a.Day), x.m(a.Change), x.m(a.Balance))
		}
		return or(why, "%d%s", len(days), s)
	case "aged":
		a, why := l.Aged(c.Args[0], dayNumber(c.Args[1]))
		return or(why, "%s %s %s %s %s", x.m(a[0]), x.m(a[1]), x.m(a[2]), x.m(a[3]), x.m(a[4]))
	case "open":
		claims, why := l.Open(c.Args[0], dayNumber(c.Args[1]))
		for _, a := range claims {
			s += fmt.Sprintf("\n  %s %s %s %s", a.Key, dateText(a.Day), dateText(a.Due), x.m(a.Amount))
		}
		return or(why, "%d%s", len(claims), s)
	case "accounts":
		accounts, why := l.Accounts()
		for _, a := range accounts {
			s += fmt.Sprintf("\n  %s %d %s %s", a.Name, a.Type, dateText(a.Opened), map[bool]string{false: "open", true: "closed"}[a.Closed])
		}
		return or(why, "%d%s", len(accounts), s)
	case "left":
		a, why := l.Left(c.Args[0])
		return or(why, "%s", x.m(a))
	}
	table, at, why := l.Query(c.Text)
	if why != api.OK {
		return fmt.Sprintf("error %d %d", int(why), at)
	}
	return tableText(table, x.settings.Digits)
}

// tableText: a query's answer.
func tableText(t api.Table, digits int) string {
	s := fmt.Sprintf("ok %d %d", len(t.Rows), len(t.Types))
	for _, row := range t.Rows {
		s += "\n "
		for i, c := range row {
			switch t.Types[i] {
			case api.TNum:
				s += fmt.Sprintf(" %d", c.Num)
			case api.TMoney:
				s += " " + moneyText(c.Num, digits)
			case api.TDay:
				s += " " + dateText(int(c.Num))
			case api.TBool:
				s += fmt.Sprintf(" %t", c.Num == 1)
			case api.TText:
				s += ` "` + c.Text + `"`
			}
		}
	}
	return s
}

func (x *double) sheet(args []string) (string, api.Errno) {
	l, digits := x.ledger, x.settings.Digits
	switch args[0] {
	case "trial":
		columns, why := l.Trial()
		if why != api.OK {
			return "", why
		}
		return sheet.Trial(columns, digits)
	case "statement":
		day := dayNumber(args[2])
		claims, why := l.Open(args[1], day)
		if why != api.OK {
			return "", why
		}
		ages, why := l.Aged(args[1], day)
		if why != api.OK {
			return "", why
		}
		return sheet.Statement(args[1], claims, ages, day, digits)
	}
	accounts, why := l.Accounts()
	if why != api.OK {
		return "", why
	}
	if args[0] == "tree" {
		var all []api.Balance
		for _, a := range accounts {
			b, why := l.Rollup(a.Name)
			if why != api.OK {
				return "", why
			}
			all = append(all, b)
		}
		return sheet.Tree(accounts, all, digits)
	}
	var rows []api.Posting
	books := book.New()
	for n := 1; n <= l.Len(); n++ {
		e, why := l.Event(n)
		if why != api.OK {
			return "", why
		}
		made, _ := books.Apply(e)
		rows = append(rows, made...)
	}
	if args[0] == "income" {
		return sheet.Income(accounts, rows, dayNumber(args[1]), dayNumber(args[2]), digits)
	}
	return sheet.Position(accounts, rows, dayNumber(args[1]), digits)
}

// TestDates: the model's own calendar.
func TestDates(t *testing.T) {
	for _, x := range []struct {
		n int
		s string
	}{{1, "0001-01-01"}, {365, "0001-12-31"}, {366, "0002-01-01"}, {719163, "1970-01-01"}, {730179, "2000-02-29"}, {738945, "2024-02-29"}, {3652059, "9999-12-31"}} {
		same(t, x.s, dayNumber(x.s), x.n)
		same(t, x.s, dateText(x.n), x.s)
	}
	for n := 1; n <= 3652059; n += 997 {
		same(t, "there and back", dayNumber(dateText(n)), n)
	}
}
