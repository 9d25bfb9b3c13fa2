package script

import (
	"testing"

	"daybook/api"
)

func TestExample1(t *testing.T) {
	plays(t, text("daybook 100000 4096 2", "# the first accounts", "submit open 2024-01-01 Assets asset", "len", "left i1"), "1 ok 0", "3 ok 1", "4 ok 1", "5 error 73")
}

func TestExample2(t *testing.T) {
	faulty(t, "daybook 100 4096", 1, 17, api.ErrScript)
	faulty(t, "daybook  100 4096 2", 1, 8, api.ErrScript)
	for _, x := range []struct {
		line string
		at   int
	}{{"lenx", 0}, {"len 5", 4}, {"rollup", 7}, {"fuse 007", 5}, {"daily A 2024-01-01", 19}, {"import", 0}} {
		faulty(t, "daybook 1 64 0\n"+x.line, 2, x.at, api.ErrScript)
		faulty(t, "daybook 1 64 0\n"+x.line+"\n", 2, x.at, api.ErrScript)
	}
	faulty(t, "", 1, 0, api.ErrScript)
}

func TestExample3(t *testing.T) {
	plays(t, text("daybook -1 4096 2", "len", "free"), "1 error 1", "2 closed", "3 closed")
}

func TestExample4(t *testing.T) {
	plays(t, text("daybook 100000 4096 2", "crash", "len", "reopen", "len"), "1 ok 0", "2 ok", "3 closed", "4 ok 0", "5 ok 0")
}

func TestExample5(t *testing.T) {
	plays(t, text("daybook 100000 4096 2", "fuse 0", "submit open 2024-01-01 Assets asset", "trial", "free", "crash 0 0 0", "reopen"), "1 ok 0", "2 ok", "3 error 34", "4 error 34", "5 ok 99985", "6 ok", "7 ok 0")
}

func TestExample6(t *testing.T) {
	plays(t, begun("sheet trial"), "1 ok 0", "2 ok 2", " |Account  Debit  Credit", " |Sum       0.00    0.00")
}

func TestExample7(t *testing.T) {
	if l, why := Many(make([]string, 33)); len(l) != 0 || why != api.ErrMany {
		t.Errorf("%q, %d", l, why)
	}
	if l, why := Many(nil); len(l) != 0 || why != api.OK {
		t.Errorf("%q, %d", l, why)
	}
}
