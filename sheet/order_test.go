package sheet

import (
	"slices"
	"testing"

	"daybook/api"
)

// spoiler: one thing that makes what is handed in wrong, and the error that it makes.
type spoiler[T any] struct {
	why   api.Errno
	spoil func(x *T)
}

// inOrder: the spoilers stand in the order in which their errors are looked for; each must be found alone, and ahead of each that comes later.
func inOrder[T any](t *testing.T, fresh func() T, call func(T) (string, api.Errno), spoilers []spoiler[T]) {
	t.Helper()
	if s, e := call(fresh()); e != api.OK || s == "" {
		t.Fatalf("not spoilt: %q (%d)", s, e)
	}
	for i, first := range spoilers {
		for j, later := range spoilers[i:] {
			x := fresh()
			later.spoil(&x)
			first.spoil(&x)
			if s, e := call(x); s != "" || e != first.why {
				t.Errorf("spoilers %d and %d: %q (%d), want error %d", i, i+j, s, e, first.why)
			}
		}
	}
	x := fresh()
	for _, last := range slices.Backward(spoilers) {
		last.spoil(&x)
		if s, e := call(x); s != "" || e != last.why {
			t.Errorf("all from error %d on: %q (%d)", last.why, s, e)
		}
	}
}

func TestP17_1Errors(t *testing.T) {
	type input struct {
		l      []api.Column
		digits int
	}
	fresh := func() input {
		return input{[]api.Column{column("A", 1, 2), column("B", 3, 4), column("A", 5, 6)}, 2}
	}
	call := func(x input) (string, api.Errno) { return trial(t, x.l, x.digits) }
	spoilers := []spoiler[input]{{api.ErrArg, func(x *input) { x.digits = -1 }}}
	for i := range 3 {
		spoilers = append(spoilers,
			spoiler[input]{api.ErrPath, func(x *input) { x.l[i].Account = "a" }},
			spoiler[input]{api.ErrAmount, func(x *input) { x.l[i].Credit = -1 }},
			spoiler[input]{api.ErrAmount, func(x *input) { x.l[i].Debit = least }})
	}
	for i := range 2 {
		over := spoiler[input]{api.ErrOverflow, func(x *input) { x.l = append(x.l, column("C", most*int64(1-i), most*int64(i))) }}
		inOrder(t, fresh, call, append(slices.Clip(spoilers), over))
	}
}

func TestP17_2Errors(t *testing.T) {
	type input struct {
		accounts []api.Account
		l        []api.Balance
		digits   int
	}
	fresh := func() input {
		return input{
			[]api.Account{account("A", 1), account("A:B", 1), account("C", 2)},
			[]api.Balance{balance("A:B", 1), balance("C", 2), balance("A", 3)}, 2,
		}
	}
	spoilers := []spoiler[input]{
		{api.ErrArg, func(x *input) { x.digits = 7 }},
		{api.ErrChart, func(x *input) { x.accounts = append(x.accounts, account("a", 1)) }},
	}
	for i := range 3 {
		spoilers = append(spoilers, spoiler[input]{api.ErrUnknown, func(x *input) { x.l[i].Account = "Z" }})
		if i > 0 {
			spoilers = append(spoilers, spoiler[input]{api.ErrTwice, func(x *input) { x.l[i].Account = x.l[0].Account }})
		}
		spoilers = append(spoilers, spoiler[input]{api.ErrAmount, func(x *input) { x.l[i].Rollup = least }})
	}
	inOrder(t, fresh, func(x input) (string, api.Errno) { return treeOf(t, x.accounts, x.l, x.digits) }, spoilers)
}

// rowsInput: what Income and Position are handed.
type rowsInput struct {
	accounts         []api.Account
	rows             []api.Posting
	from, to, digits int
}

// rowSpoilers: what both are refused for, behind the arguments of their own.
func rowSpoilers() []spoiler[rowsInput] {
	l := []spoiler[rowsInput]{{api.ErrChart, func(x *rowsInput) { x.accounts = append(x.accounts, account("Z:Z", 1)) }}}
	for i := range 3 {
		l = append(l,
			spoiler[rowsInput]{api.ErrUnknown, func(x *rowsInput) { x.rows[i].Account = "Z" }},
			spoiler[rowsInput]{api.ErrDay, func(x *rowsInput) { x.rows[i].Day = 0 }},
			spoiler[rowsInput]{api.ErrAmount, func(x *rowsInput) { x.rows[i].Amount = least }})
	}
	return append(l, spoiler[rowsInput]{api.ErrOverflow, func(x *rowsInput) {
		x.rows = append(x.rows, posted("I", 5, most), posted("I", 6, most), posted("A", 5, most), posted("A", 5, most))
	}})
}

// freshRows: the first and the third row do not count in Income of 5 to 6; the third not in Position of 6.
func freshRows() rowsInput {
	return rowsInput{
		[]api.Account{account("A", 1), account("E", 5), account("I", 4)},
		[]api.Posting{posted("I", 4, -3), posted("A", 5, 3), posted("E", 7, 9)}, 5, 6, 2,
	}
}

func TestP17_3Errors(t *testing.T) {
	call := func(x rowsInput) (string, api.Errno) { return income(t, x.accounts, x.rows, x.from, x.to, x.digits) }
	inOrder(t, freshRows, call, slices.Concat([]spoiler[rowsInput]{
		{api.ErrArg, func(x *rowsInput) { x.digits = -1 }},
		{api.ErrArg, func(x *rowsInput) { x.from = 0 }},
		{api.ErrArg, func(x *rowsInput) { x.to = lastDay + 1 }},
		{api.ErrArg, func(x *rowsInput) { x.from = 7 }},
	}, rowSpoilers()))
}

func TestP17_4Errors(t *testing.T) {
	call := func(x rowsInput) (string, api.Errno) { return position(t, x.accounts, x.rows, x.to, x.digits) }
	inOrder(t, freshRows, call, slices.Concat([]spoiler[rowsInput]{
		{api.ErrArg, func(x *rowsInput) { x.digits = 7 }},
		{api.ErrArg, func(x *rowsInput) { x.to = 0 }},
	}, rowSpoilers()))
}

func TestP17_5Errors(t *testing.T) {
	type input struct {
		account     string
		open        []api.Claim
		ages        api.Ages
		day, digits int
	}
	fresh := func() input {
		return input{"A:B", []api.Claim{claim("i", "A:B", 1, 2, 3), claim("k", "A:B", 4, 5, 6), claim("i", "A:B", 7, 8, 9)}, api.Ages{1, 2, 3, 4, 5}, 6, 2}
	}
	call := func(x input) (string, api.Errno) { return statement(t, x.account, x.open, x.ages, x.day, x.digits) }
	spoilers := []spoiler[input]{
		{api.ErrArg, func(x *input) { x.digits = 7 }},
		{api.ErrArg, func(x *input) { x.day = 0 }},
		{api.ErrPath, func(x *input) { x.account = "a" }},
	}
	for i := range 3 {
		spoilers = append(spoilers,
			spoiler[input]{api.ErrMix, func(x *input) { x.open[i].Account = "A" }},
			spoiler[input]{api.ErrArg, func(x *input) { x.open[i].Key = "" }},
			spoiler[input]{api.ErrArg, func(x *input) { x.open[i].Day = lastDay + 1 }},
			spoiler[input]{api.ErrArg, func(x *input) { x.open[i].Due = 0 }},
			spoiler[input]{api.ErrArg, func(x *input) { x.open[i].Amount = 0 }})
	}
	for i := range 5 {
		spoilers = append(spoilers, spoiler[input]{api.ErrAmount, func(x *input) { x.ages[i] = -1 }})
	}
	for _, over := range []func(x *input){
		func(x *input) { x.open = append(x.open, claim("z", "A:B", 1, 1, most)) },
		func(x *input) { x.ages[4] = most; x.ages[3] = max(x.ages[3], 1) },
	} {
		// An age below 0 and one that is too great go together only where they are not the same one.
		inOrder(t, fresh, call, append(slices.Clip(spoilers), spoiler[input]{api.ErrOverflow, over}))
	}
}

func TestP17_6Errors(t *testing.T) {
	type input struct {
		t      api.Table
		digits int
	}
	// A good cell of each type, what spoils it, and the error.
	kinds := []struct {
		good, bad api.Cell
		why       api.Errno
	}{
		{num(1), letters("1"), api.ErrTyping},
		{letters("a"), letters("\n"), api.ErrTyping},
		{dated(5), dated(0), api.ErrDay},
		{truth(1), truth(2), api.ErrTyping},
		{cash(7), cash(least), api.ErrAmount},
	}
	for turn := range kinds {
		order := slices.Concat(kinds[turn:], kinds[:turn])
		fresh := func() input {
			x := input{digits: 2}
			for range 2 {
				var row []api.Cell
				for _, k := range order {
					row = append(row, k.good)
				}
				x.t.Rows = append(x.t.Rows, row)
			}
			for _, k := range order {
				x.t.Types = append(x.t.Types, k.good.Type)
			}
			return x
		}
		spoilers := []spoiler[input]{
			{api.ErrArg, func(x *input) { x.digits = -1 }},
			{api.ErrTyping, func(x *input) { x.t.Types[4] = 6 }},
		}
		for row := range 2 {
			for i, k := range order {
				spoilers = append(spoilers, spoiler[input]{k.why, func(x *input) { x.t.Rows[row][i] = k.bad }})
			}
		}
		inOrder(t, fresh, func(x input) (string, api.Errno) { return table(t, x.t, x.digits) }, spoilers)

		// A row's length is looked at ahead of its cells, behind all of the rows ahead.
		for row := range 2 {
			for i, k := range order {
				for _, other := range order {
					x := fresh()
					x.t.Rows[row][i] = k.bad
					x.t.Rows[1-row] = append(x.t.Rows[1-row], other.good)
					s, e := table(t, x.t, 2)
					if row == 0 {
						refuses(t, k.why, s, e)
					} else {
						refuses(t, api.ErrTyping, s, e)
					}
					x = fresh()
					x.t.Rows[row][i] = k.bad
					x.t.Rows[row] = append(x.t.Rows[row], other.good)
					s, e = table(t, x.t, 2)
					refuses(t, api.ErrTyping, s, e)
				}
			}
		}
	}
}
