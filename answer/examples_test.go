package answer

import (
	"slices"
	"testing"

	"daybook/api"
)

// example: the query of a text gives these rows over 15.4's.
func example(t *testing.T, s string, want ...[]api.Cell) {
	t.Helper()
	gives(t, read(t, s), few(), want...)
}

func exampleFails(t *testing.T, s string, want api.Errno) {
	t.Helper()
	fails(t, read(t, s), few(), want)
}

const jan31, feb1 = 738916, 738917

func TestExample1CountAndSum(t *testing.T) {
	example(t, "show count, sum(amount)", line(number(4), cash(0)))
	if got, _ := Scan(read(t, "show count, sum(amount)"), few()); !slices.Equal(got.Types, []int{api.TNum, api.TMoney}) {
		t.Errorf("%v", got.Types)
	}
}

func TestExample2Months(t *testing.T) {
	example(t, "where account under 'Assets' by month show sum(amount), max(day)", line(number(202401), cash(500), date(jan31)), line(number(202402), cash(-200), date(feb1)))
}

func TestExample3Tags(t *testing.T) {
	example(t, "by tag show count order 2 desc, 1 desc", line(text("rent"), number(2)), line(text(""), number(2)))
}

func TestExample4Roots(t *testing.T) {
	example(t, "by root show sum(debit), sum(credit) order 2 limit 2", line(text("Income"), cash(0), cash(500)), line(text("Costs"), cash(200), cash(0)))
}

func TestExample5NoRows(t *testing.T) {
	example(t, "where false show count, sum(amount)", line(number(0), cash(0)))
	example(t, "where false show count, min(day)")
	example(t, "where false by tag show count")
}

func TestExample6Over(t *testing.T) {
	exampleFails(t, "where amount > 0 and amount * 9223372036854775807 > 0 show count", api.ErrOverflow)
	example(t, "where amount > 9000 and amount * 9223372036854775807 > 0 show count", line(number(0)))
	exampleFails(t, "where amount * 9223372036854775807 > 0 and false show count", api.ErrOverflow)
}

func TestExample7Days(t *testing.T) {
	exampleFails(t, "where day + 3652058 > 0001-01-01 show count", api.ErrOverflow)
	example(t, "where day - 2024-01-31 = 1 show count", line(number(2)))
}

func TestExample8Texts(t *testing.T) {
	example(t, "where memo has '' show count", line(number(4)))
	example(t, "where key under 'x' show count", line(number(0)))
}

func TestExample9Sums(t *testing.T) {
	rows := []api.Posting{on("A", greatest), on("A", 1), on("B", -1)}
	gives(t, read(t, "show sum(amount)"), rows, line(cash(greatest)))
	fails(t, read(t, "by account show sum(amount)"), rows, api.ErrOverflow)
	fails(t, read(t, "by account show sum(amount) limit 0"), rows, api.ErrOverflow)
}

func TestExample10Typing(t *testing.T) {
	exampleFails(t, "show sum(day)", api.ErrTyping)
}
