package typing

import (
	"math"
	"strings"
	"testing"

	"daybook/api"
	"daybook/grammar"
)

// Every field there and back.
func TestP14_1Fields(t *testing.T) {
	for i, line := range strings.Split(plainFields, "\n") {
		l := strings.Fields(line)
		if name, valueType := Field(i + 1); name != l[0] || valueType != typeNumbers[l[1]] {
			t.Errorf("Field(%d): %q, %d; want %s", i+1, name, valueType, line)
		}
		if f, is := FieldOf(l[0]); f != i+1 || !is {
			t.Errorf("FieldOf(%q): %d, %v; want %d", l[0], f, is, i+1)
		}
	}
	if api.FSeq != 1 || api.FRoot != 14 || strings.Count(plainFields, "\n") != 13 {
		t.Error("there are fourteen fields")
	}
}

func TestP14_1NoFields(t *testing.T) {
	for _, f := range []int{0, 15, 16, 100, -1, -14, 1 << 32, 1<<32 + 1, math.MinInt, math.MinInt + 1, math.MaxInt} {
		if name, valueType := Field(f); name != "" || valueType != 0 {
			t.Errorf("Field(%d): %q, %d", f, name, valueType)
		}
	}
}

// Texts beside the names: each name changed in one place, and others.
func TestP14_1NoNames(t *testing.T) {
	none := func(s string) {
		t.Helper()
		if strings.Contains("\n"+plainFields, "\n"+s+" ") && s != "" {
			return
		}
		if f, is := FieldOf(s); f != 0 || is {
			t.Errorf("FieldOf(%q): %d, %v", s, f, is)
		}
	}
	for _, s := range []string{"", " ", "\x00", "1", "14", "count", "sum", "where", "true", "num", "text", "money", "fields", "FSeq", "Month", strings.Repeat("day", 1000)} {
		none(s)
	}
	for f := 1; f <= 14; f++ {
		name, _ := Field(f)
		none(strings.ToUpper(name))
		none(strings.ToUpper(name[:1]) + name[1:])
		none(name + name)
		for at := 0; at <= len(name); at++ {
			none(name[:at])
			none(name[at:])
			for b := range 256 {
				one := string([]byte{byte(b)})
				none(name[:at] + one + name[at:])
				if at < len(name) {
					none(name[:at] + one + name[at+1:])
				}
			}
		}
	}
}

// The fields are those of the queries' texts.
func TestP14_1AsInTexts(t *testing.T) {
	for f := 1; f <= 14; f++ {
		name, _ := Field(f)
		q, _, why := grammar.Parse("where " + name + " by " + name + " show count")
		if why != api.OK || q.By[0] != f || q.Nodes[0].Field != f {
			t.Errorf("%s: %+v, %d", name, q, int(why))
		}
	}
}
