package event

import (
	"testing"

	"daybook/api"
)

func TestExample1Open(t *testing.T) {
	e := api.Event{Kind: api.KOpen, Day: 738886, Account: "Assets", Type: api.Asset}
	b := []byte{0x01, 0xc6, 0x8c, 0x2d, 0x06, 0x41, 0x73, 0x73, 0x65, 0x74, 0x73, 0x01}
	if got := encoding(t, e); string(got) != string(b) {
		t.Errorf("Encode: % x", got)
	}
	decodes(t, b, e)
	if s := line(t, e, 2); s != "open 2024-01-01 Assets asset" {
		t.Errorf("Print: %q", s)
	}
	parses(t, "open 2024-01-01 Assets asset", 2, e)
	e.Type = 0
	wantInvalid(t, e)
	wantInvalid(t, api.Event{Kind: api.KOpen, Day: 738886, Account: "Assets:Bank", Type: 1})
}

func TestExample2Lock(t *testing.T) {
	e := api.Event{Kind: api.KLock, Day: 1}
	if got := encoding(t, e); string(got) != "\x08\x01" {
		t.Errorf("Encode: % x", got)
	}
	if s := line(t, e, 2); s != "lock 0001-01-01" {
		t.Errorf("Print: %q", s)
	}
	for _, b := range [][]byte{{8, 0}, {8, 0x81, 0}, {8, 1, 0}, {8}, {}, nil} {
		refusesBytes(t, b)
	}
}

func TestExample3Post(t *testing.T) {
	s := `post 2024-02-01 x1 "rent" Assets:Bank -5.00 #flat, Assets:Cust:Ann 5.01`
	parses(t, s, 2, api.Event{Kind: api.KPost, Day: 738917, Key: "x1", Memo: "rent", Lines: []api.Line{
		{Account: "Assets:Bank", Amount: -500, Tag: "flat"}, {Account: "Assets:Cust:Ann", Amount: 501},
	}})
	refusesLine(t, "post 2024-02-01 x1 Assets:Bank 5", 2)
	refusesLine(t, "post 2024-02-01 x1 A 0, B 0", 2)
}

func TestExample4Invoice(t *testing.T) {
	e := api.Event{Kind: api.KInvoice, Day: 738895, Key: "i1", Account: "Assets:Cust:Ann", Other: "Income:Work", Due: 738925, Amount: 10000}
	parses(t, "  invoice\t2024-01-10 i1 Assets:Cust:Ann Income:Work due 2024-02-09 100", 2, e)
	if s := line(t, e, 2); s != "invoice 2024-01-10 i1 Assets:Cust:Ann Income:Work due 2024-02-09 100.00" {
		t.Errorf("Print: %q", s)
	}
	for _, end := range []string{"2024-01-09 100", "2024-02-09 100.001", `2024-02-09 100 "a`} {
		refusesLine(t, "  invoice\t2024-01-10 i1 Assets:Cust:Ann Income:Work due "+end, 2)
	}
}

func TestExample5VoidPayAllotLock(t *testing.T) {
	void := api.Event{Kind: api.KVoid, Day: 738917, Key: "v1", Ref: "x1"}
	parses(t, `void 2024-02-01 v1 x1 ""`, 2, void)
	if s := line(t, void, 2); s != "void 2024-02-01 v1 x1" {
		t.Errorf("Print: %q", s)
	}
	parses(t, `pay 2024-02-20 p1 Assets:Cust:Ann Assets:Bank 60.00 "a, b"`, 2,
		api.Event{Kind: api.KPay, Day: 738936, Key: "p1", Account: "Assets:Cust:Ann", Other: "Assets:Bank", Amount: 6000, Memo: "a, b"})
	refusesLine(t, `allot 2024-02-20 a1 p1 i1 60.00 "m"`, 2)
	refusesLine(t, "Lock 2024-01-01", 2)
}

func TestExample6Amounts(t *testing.T) {
	post := api.Event{Kind: api.KPost, Day: 1, Key: "k", Lines: []api.Line{{Account: "A", Amount: -500}, {Account: "B", Amount: 1}}}
	if b := encoding(t, post); string(b) != string(posted(0xe7, 0x07)) {
		t.Errorf("-5.00: % x", b)
	}
	allot := api.Event{Kind: api.KAllot, Day: 1, Key: "a", Ref: "b", Ref2: "c", Amount: api.MaxAmount}
	if b := encoding(t, allot); string(b) != string(allotted(0xfe, 0xff, 0xff, 0xff, 0xff, 0xff, 0xff, 0xff, 0xff, 0x01)) {
		t.Errorf("MaxAmount: % x", b)
	}
}
