package sheet

import (
	"strconv"

	"daybook/api"
	"daybook/chart"
	"daybook/day"
	"daybook/money"
	"daybook/names"
)

// texts is how a sheet writes amounts: with so many digits behind the point.
type texts struct {
	digits int
}

func (w texts) amount(a int64) string {
	text, _ := money.Print(a, w.digits)
	return text
}

// unlessZero is an amount on one side of a trial balance, where 0 is not written.
func (w texts) unlessZero(a int64) string {
	if a == 0 {
		return ""
	}
	return w.amount(a)
}

func (w texts) debit(c api.Column) string  { return w.unlessZero(c.Debit) }
func (w texts) credit(c api.Column) string { return w.unlessZero(c.Credit) }
func (w texts) open(c api.Claim) string    { return w.amount(c.Amount) }

func accountOf(c api.Column) string { return c.Account }
func debitOf(c api.Column) int64    { return c.Debit }
func creditOf(c api.Column) int64   { return c.Credit }

func keyOf(c api.Claim) string    { return c.Key }
func openOf(c api.Claim) int64    { return c.Amount }
func dateText(c api.Claim) string { return dayText(c.Day) }
func dueText(c api.Claim) string  { return dayText(c.Due) }

// overdue is for how many days a claim is at one; nothing, if it is not.
func overdue(c api.Claim, at int) string {
	if at <= c.Due {
		return ""
	}
	return strconv.Itoa(at - c.Due)
}

// dayText is the text of a number that is a day.
func dayText(n int) string {
	text, _ := day.Print(n)
	return text
}

// columnFault is why a line of a trial balance can't be.
func columnFault(c api.Column) api.Errno {
	switch {
	case !chart.Good(c.Account):
		return api.ErrPath
	case c.Debit < 0 || c.Credit < 0:
		return api.ErrAmount
	}
	return api.OK
}

// claimFault is why a claim can't stand in an account's statement.
func claimFault(c api.Claim, account string) api.Errno {
	switch {
	case c.Account != account:
		return api.ErrMix
	case !names.IsKey(c.Key) || !isDay(c.Day) || !isDay(c.Due) || c.Amount < 1:
		return api.ErrArg
	}
	return api.OK
}

// firstFault is the fault of the first of a list that has one.
func firstFault[T any](l []T, fault func(T) api.Errno) api.Errno {
	for _, x := range l {
		if e := fault(x); e != api.OK {
			return e
		}
	}
	return api.OK
}

// total is the sum of what each of a list is worth, whatever the sums on the way are.
func total[T any](l []T, worth func(T) int64) (int64, api.Errno) { return money.Sum(worths(l, worth)) }

// worths is what each of a list is worth.
func worths[T any](l []T, worth func(T) int64) []int64 {
	amounts := make([]int64, len(l))
	for i, x := range l {
		amounts[i] = worth(x)
	}
	return amounts
}

func goodDigits(digits int) bool { return digits >= 0 && digits <= api.MaxDigits }

func isDay[N int | int64](n N) bool { return n >= api.MinDay && n <= api.MaxDay }
