package book

import (
	"math/big"
	"regexp"
	"slices"

	"daybook/api"
	"daybook/chart"
)

var (
	keyForm  = regexp.MustCompile(`\A[A-Za-z0-9._-]{1,24}\z`)
	tagForm  = regexp.MustCompile(`\A([a-z][a-z0-9-]{0,15})?\z`)
	memoForm = regexp.MustCompile(`\A[ !#-~]{0,80}\z`)
)

func plainDay(n int) bool { return n >= 1 && n <= 3652059 }

// broken: the numbers of 7.1's rules that a base breaks, each looked at by itself.
func broken(b api.Base) (l []int) {
	m, g := &model{b}, grouped(b.Rows)
	for i, holds := range []bool{rule1(b), rule2(b, g), rule3(b), rule4(m, g), rule5(m, g), rule6(b, g), rule7(b, g), rule8(b), rule9(m)} {
		if !holds {
			l = append(l, i+1)
		}
	}
	return l
}

// grouped: the rows of each Seq, in the order in which the Seqs are met first.
func grouped(rows []api.Posting) (l [][]api.Posting) {
	at := map[int]int{}
	for _, row := range rows {
		i, is := at[row.Seq]
		if !is {
			i, l = len(l), append(l, nil)
			at[row.Seq] = i
		}
		l[i] = append(l[i], row)
	}
	return l
}

func ofKind(g [][]api.Posting, kind int) (l [][]api.Posting) {
	for _, rows := range g {
		if rows[0].Kind == kind {
			l = append(l, rows)
		}
	}
	return l
}

func rule1(b api.Base) bool {
	return b.Events >= 0 && b.Events <= 1000 && (b.Lock == 0 || plainDay(b.Lock))
}

func rule2(b api.Base, g [][]api.Posting) bool {
	for i, key := range b.Keys {
		if !keyForm.MatchString(key) || slices.Contains(b.Keys[:i], key) {
			return false
		}
	}
	return len(b.Keys) == len(g)+len(b.Allots)
}

func rule3(b api.Base) bool {
	_, why := chart.From(b.Accounts)
	most := b.Events - len(b.Keys)
	for _, a := range b.Accounts {
		if a.Closed {
			most--
		}
	}
	if b.Lock != 0 {
		most--
	}
	return why == api.OK && len(b.Accounts) <= most
}

func rule4(m *model, g [][]api.Posting) bool {
	rising := slices.IsSortedFunc(m.Rows, func(a, b api.Posting) int { return a.Seq - b.Seq })
	if !rising || !m.sizes(nil).IsInt64() {
		return false
	}
	keys := map[string]bool{}
	for _, rows := range g {
		head, sum := rows[0], new(big.Int)
		if head.Seq < 1 || head.Seq > m.Events || !plainDay(head.Day) || !memoForm.MatchString(head.Memo) || !slices.Contains(m.Keys, head.Key) || keys[head.Key] {
			return false
		}
		keys[head.Key] = true
		for i, row := range rows {
			a, is := m.account(row.Account)
			if row.Line != i+1 || row.Day != head.Day || row.Kind != head.Kind || row.Key != head.Key || row.Memo != head.Memo {
				return false
			}
			if !is || a.Opened > row.Day || row.Amount == 0 || row.Amount == least || !tagForm.MatchString(row.Tag) {
				return false
			}
			sum.Add(sum, big.NewInt(row.Amount))
		}
		if sum.Sign() != 0 {
			return false
		}
	}
	return true
}

func rule5(m *model, g [][]api.Posting) bool {
	for _, rows := range g {
		var types []int
		tagged := false
		for _, row := range rows {
			a, _ := m.account(row.Account)
			types = append(types, a.Type)
			tagged = tagged || row.Tag != ""
		}
		switch kind := rows[0].Kind; kind {
		case api.KPost, api.KVoid:
			if len(rows) < 2 || len(rows) > 12 {
				return false
			}
		case api.KInvoice, api.KPay:
			if len(rows) != 2 || tagged || rows[0].Account == rows[1].Account || rows[0].Amount <= 0 || types[0] != api.Asset || types[1] != map[int]int{api.KInvoice: api.Income, api.KPay: api.Asset}[kind] {
				return false
			}
		default:
			return false
		}
	}
	return true
}

func rule6(b api.Base, g [][]api.Posting) bool {
	posts, voids := ofKind(g, api.KPost), ofKind(g, api.KVoid)
	if len(posts) != len(b.Entries) {
		return false
	}
	seen := map[string]bool{}
	for i, e := range b.Entries {
		head := posts[i][0]
		if e.Key != head.Key || e.Day != head.Day || !linesAre(posts[i], e.Lines, 1) {
			return false
		}
		if e.Void == "" {
			continue
		}
		found := slices.IndexFunc(voids, func(rows []api.Posting) bool { return rows[0].Key == e.Void })
		if found < 0 || seen[e.Void] {
			return false
		}
		seen[e.Void] = true
		if void := voids[found]; void[0].Seq <= head.Seq || void[0].Day < e.Day || !linesAre(void, e.Lines, -1) {
			return false
		}
	}
	return len(seen) == len(voids)
}

func linesAre(rows []api.Posting, lines []api.Line, sign int64) bool {
	return slices.EqualFunc(rows, lines, func(r api.Posting, l api.Line) bool {
		return r.Account == l.Account && r.Amount == sign*l.Amount && r.Tag == l.Tag
	})
}

func rule7(b api.Base, g [][]api.Posting) bool {
	invoices, payments := ofKind(g, api.KInvoice), ofKind(g, api.KPay)
	if len(invoices) != len(b.Invoices) || len(payments) != len(b.Payments) {
		return false
	}
	for i, c := range b.Invoices {
		r := invoices[i][0]
		if c.Key != r.Key || c.Day != r.Day || c.Account != r.Account || c.Amount != r.Amount || !plainDay(c.Due) || c.Due < c.Day {
			return false
		}
	}
	for i, c := range b.Payments {
		r, second := payments[i][0], payments[i][len(payments[i])-1]
		if len(payments[i]) > 1 {
			second = payments[i][1]
		}
		if c.Key != r.Key || c.Day != r.Day || c.Account != second.Account || c.Amount != r.Amount || c.Due != 0 {
			return false
		}
	}
	return true
}

func rule8(b api.Base) bool {
	used := map[string]*big.Int{}
	for _, a := range b.Allots {
		p, is := claimOf(b.Payments, a.Pay)
		i, are := claimOf(b.Invoices, a.Invoice)
		if !is || !are || p.Account != i.Account || !plainDay(a.Day) || a.Day < p.Day || a.Day < i.Day || a.Amount <= 0 {
			return false
		}
		for _, c := range []api.Claim{p, i} {
			if used[c.Key] == nil {
				used[c.Key] = new(big.Int)
			}
			if used[c.Key].Add(used[c.Key], big.NewInt(a.Amount)).Cmp(big.NewInt(c.Amount)) > 0 {
				return false
			}
		}
	}
	return true
}

func rule9(m *model) bool {
	for _, a := range m.Accounts {
		if !a.Closed {
			continue
		}
		if m.own(a.Name).Sign() != 0 {
			return false
		}
		for _, c := range slices.Concat(m.Invoices, m.Payments) {
			if n, _ := m.left(c.Key); c.Account == a.Name && n != 0 {
				return false
			}
		}
	}
	return true
}
