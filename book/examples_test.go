package book

import (
	"slices"
	"testing"

	"daybook/api"
)

// left: what Left must tell.
func (x *both) left(key string, want int64, is bool) {
	x.t.Helper()
	if got, are := x.b.Left(key); got != want || is != are {
		x.t.Errorf("Left(%q): %d, %v, want %d, %v", key, got, are, want, is)
	}
}

// rows: those that an event must make.
func (x *both) rows(e api.Event, want ...api.Posting) {
	x.t.Helper()
	if got, why := x.tell(e); why != api.OK || !slices.Equal(got, want) {
		x.t.Errorf("%+v: %v, %d, want %v", e, got, why, want)
	}
}

func (x *both) turnover(want int64) {
	x.t.Helper()
	if got := x.b.Turnover(); got != want {
		x.t.Errorf("Turnover: %d, want %d", got, want)
	}
}

func row(seq, n, day, kind int, key, account string, amount int64, tag ...string) api.Posting {
	return api.Posting{Seq: seq, Line: n, Day: day, Kind: kind, Key: key, Account: account, Amount: amount, Tag: append(tag, "")[0]}
}

func TestExample1Empty(t *testing.T) {
	if base := New().Base(); !same(base, api.Base{}) {
		t.Errorf("Base: %+v", base)
	}
	made(t, New().Base())
	if b, why := From(api.Base{Accounts: []api.Account{{Name: "A", Type: 1, Opened: 1}}}); b != nil || why != api.ErrBase {
		t.Errorf("From: %v, %d", b, why)
	}
}

func TestExamples2To6Events(t *testing.T) {
	x := toldBooks(t)
	x.rows(invoice(12, "i", cust, "Income", 42, 1000), row(5, 1, 12, 5, "i", cust, 1000), row(5, 2, 12, 5, "i", "Income", -1000))
	x.turnover(2000)
	x.left("i", 1000, true)
	x.left("x", 0, false)

	x.refuse(api.ErrTwice, pay(12, "i", cust, bank, 600))
	x.rows(pay(12, "p", cust, bank, 600), row(6, 1, 12, 6, "p", bank, 600), row(6, 2, 12, 6, "p", cust, -600))
	x.refuse(api.ErrEarly, allot(11, "a", "p", "i", 600))
	x.rows(allot(12, "a", "p", "i", 600))
	x.left("p", 0, true)
	x.left("i", 400, true)
	x.turnover(3200)

	x.refuse(api.ErrEarly, post(9, "x", line(bank, 5), line(cust, -5)))
	x.refuse(api.ErrBalance, post(12, "x", line(bank, 5), line(cust, -4)))
	x.refuse(api.ErrUnknown, post(12, "x", line(bank, 5), line("Q", -4)))

	x.take(post(12, "x", line(bank, 5, "t"), line(cust, -5)))
	x.refuse(api.ErrEarly, void(11, "v", "x"))
	x.rows(void(13, "v", "x"), row(9, 1, 13, 4, "v", bank, -5, "t"), row(9, 2, 13, 4, "v", cust, 5))
	x.refuse(api.ErrVoided, void(13, "w", "x"))
	x.refuse(api.ErrRef, void(13, "w", "i"))

	x.refuse(api.ErrUse, shut(13, cust))
	x.take(pay(13, "p2", cust, bank, 400), allot(13, "a2", "p2", "i", 400))
	x.refuse(api.ErrEarly, shut(12, cust))
	x.take(shut(13, cust))
	x.refuse(api.ErrClosed, post(13, "y", line(cust, 1), line(bank, -1)))
	x.refuse(api.ErrExists, open(13, cust))
	x.refuse(api.ErrClosed, open(13, cust+":Z"))
	alike(t, x.b, x.m)
}

func TestExample7Overflow(t *testing.T) {
	const half = 1<<62 - 1
	x := toldBooks(t)
	x.refuse(api.ErrOverflow, post(12, "x", line(bank, api.MaxAmount), line(cust, -api.MaxAmount)))
	x.take(post(12, "x", line(bank, half), line(cust, -half)))
	x.turnover(1<<63 - 2)
	x.refuse(api.ErrOverflow, post(12, "y", line(bank, 1), line(cust, -1)))
	x.refuse(api.ErrOverflow, void(12, "y", "x"))
	x.refuse(api.ErrOverflow, invoice(12, "y", cust, "Income", 12, 1))
	x.refuse(api.ErrOverflow, pay(12, "y", cust, bank, 1))
	x.take(open(12, bank+":Z"), shut(12, bank+":Z"), lock(11))

	// KAllot makes no rows.
	x = toldBooks(t).take(invoice(12, "i", cust, "Income", 12, half/2), pay(12, "p", cust, bank, half/2), post(12, "x", line(bank, 1), line(cust, -1)))
	x.turnover(1<<63 - 2)
	x.refuse(api.ErrOverflow, pay(12, "q", cust, bank, 1))
	x.take(allot(12, "a", "p", "i", half/2))
	alike(t, x.b, x.m)
}

func TestExample8Lock(t *testing.T) {
	x := toldBooks(t).take(lock(12))
	x.refuse(api.ErrEarly, lock(12))
	x.refuse(api.ErrLocked, open(12, "New", api.Asset))
	x.refuse(api.ErrLocked, open(12, bank))
	x.take(open(13, "New", api.Asset))
}
