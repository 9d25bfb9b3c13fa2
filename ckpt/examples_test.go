package ckpt

import (
	"bytes"
	"strings"
	"testing"

	"daybook/api"
	"daybook/disk"
)

func TestExample1Names(t *testing.T) {
	for events, name := range map[int]string{0: "ckpt-000000", 12: "ckpt-000012", 1000: "ckpt-001000", 1001: "", -1: ""} {
		same(t, "Name", Name(events), name)
	}
}

func TestExample2TheZeroSnap(t *testing.T) {
	b := encoding(t, api.Snap{})
	same(t, "its length", len(b), 8+4+4+14+4)
	if !bytes.Equal(b[16:30], make([]byte, 14)) {
		t.Errorf("its body: % x", b[16:30])
	}
}

func TestExample3NoRoom(t *testing.T) {
	s := small(3, 1)
	s.Base.Keys = []string{strings.Repeat("k", 200-34-2)}
	s.AsOf = 0
	same(t, "its length", len(encoding(t, s)), 200)
	d, _ := disk.New(105)
	d.Create("log")
	d.Append("log", []byte("mine?"))
	same(t, "Free", d.Free(), 100)
	before := shown(d)
	want(t, "Write", Write(d, s), api.ErrFull)
	same(t, "the disk", shown(d), before)
}

func TestExample4Files(t *testing.T) {
	d := of(t, snapFile(1, 1), file1("ckpt-000005", "spoilt"), snapFile(9, 2), file1("ckpt.tmp", "x"), file1("log-000001", "x"))
	wantList(t, "List", d, 1, 5, 9)
	wantNewest(t, "8", d, 8, true, small(1, 1))
	wantNewest(t, "9", d, 9, true, small(9, 2))
	wantNewest(t, "0", d, 0, false, api.Snap{})
	trims(t, "Trim", d, -1, 0, api.ErrArg, "ckpt-000001 ckpt-000005 ckpt-000009 ckpt.tmp log-000001")
	trims(t, "Trim", d, 1, 3, api.OK, "ckpt-000009 log-000001")
}

func TestExample5AnothersBytes(t *testing.T) {
	d := of(t, file1("ckpt-000007", string(plainEncode(small(6, 1)))))
	wantNewest(t, "passed over", d, most, false, api.Snap{})
	d = of(t, snapFile(2, 1), file1("ckpt-000007", string(plainEncode(small(6, 1)))))
	wantNewest(t, "passed over", d, 7, true, small(2, 1))
}

// The sum that 11.1 tells is that of both places of a checkpoint.
func TestP11_1TheSum(t *testing.T) {
	same(t, "the sum of 123456789", string(sealed([]byte("123456789"))), "daybook1\x09\x00\x00\x00"+string(plainSeal([]byte("123456789"))[12:16])+"123456789\x26\x39\xf4\xcb")
}
