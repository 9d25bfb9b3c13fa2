package audit

import (
	"testing"

	"daybook/api"
)

func TestExample1(t *testing.T) {
	checks(t, small, smallTrace, 0, 0, api.OK)
	if got := traceOf(t, small); got != smallTrace {
		t.Errorf("%s", got)
	}
	checks(t, small, "1 ok 0\n2 ok 1\n3 ok 2\n4 ok 0\n", 3, 3, api.OK)
	checks(t, small, "1 ok 0\n2 ok 1\n3 ok x\n4 ok 0\n", 1, 3, api.OK)
	checks(t, small, "1 ok 0\n2 ok 1\n3 closed\n4 ok 0\n", 2, 3, api.OK)
	checks(t, small, "1 ok 0\n2 error 50\n3 ok 1\n4 ok 0\n", 3, 3, api.OK)
	checks(t, small, "1 ok 0\n2 ok 1\n3 ok 1\n", 0, 0, api.ErrTrace)
	checks(t, small, "1 ok 0\n2 ok 1\n3 ok 1\n5 ok 0\n", 0, 0, api.ErrTrace)
}

func TestExample2(t *testing.T) {
	checks(t, small, "1 ok 0\n2 ok 1\n3 ok 1\n4 ok 1\n  A 1.00 0.00\n", 7, 4, api.OK)
	checks(t, small, "1 ok 0\n2 ok 1\n3 ok 1\n4 ok 1\n", 1, 4, api.OK)
}

func TestExample3(t *testing.T) {
	in := small + "fuse 0\nsubmit open 2024-01-01 B asset\ncrash\nreopen\nevent 2\n"
	head := smallTrace + "5 ok\n6 error 34\n7 ok\n"
	checks(t, in, traceOf(t, in), 0, 0, api.OK)
	checks(t, in, head+"8 ok 1\n9 error 41\n", 0, 0, api.OK)
	checks(t, in, head+"8 ok 2\n9 ok open 2024-01-01 B asset\n", 0, 0, api.OK)
	checks(t, in, head+"8 ok 0\n9 error 41\n", 4, 8, api.OK)
	checks(t, in, head+"8 ok 3\n9 error 41\n", 4, 8, api.OK)
	checks(t, in, head+"8 ok 2\n9 ok open 2024-01-01 A asset\n", 5, 9, api.OK)
	checks(t, in, head+"8 ok 2\n9 error 41\n", 5, 9, api.OK)
}

func TestExample4(t *testing.T) {
	in := small + "submit post 2024-01-01 k A 1, B -1\nsubmit pay 2024-01-01 k A B 1\n"
	checks(t, in, smallTrace+"5 ok 2\n6 ok 3\n", 6, 6, api.OK)
}

func TestExample5(t *testing.T) {
	in := text("daybook 100000 4096 2", "submit open 2024-01-01 A asset", "submit open 2024-01-01 B asset", "submit lock 2024-01-01", "rebuild 5", "rebuild 5")
	head := "1 ok 0\n2 ok 1\n3 ok 2\n4 ok 3\n5 ok 0 1 3 3\n"
	if got := traceOf(t, in); got != head+"6 ok 1 0 0 3\n" {
		t.Errorf("%s", got)
	}
	checks(t, in, head+"6 ok 1 0 0 3\n", 0, 0, api.OK)
	checks(t, in, head+"6 ok 0 1 3 3\n", 12, 6, api.OK)
}

func TestExample6(t *testing.T) {
	for _, trace := range []string{"", smallTrace, "x", "1 ok 0\n"} {
		checks(t, small+"lenx\n", trace, 0, 0, api.ErrScript)
	}
	checks(t, small, "", 0, 0, api.ErrTrace)
}
