package cut

import (
	"math/rand/v2"
	"reflect"
	"regexp"
	"strings"
	"testing"
	"unsafe"
)

var pieceForm = regexp.MustCompile(`\A(?:(,)|"([ !#-~]*)"|([^ \t,"]+))`)

// plainLine: a line cut by 5.3's words, one piece after the other.
func plainLine(s string) (l []Piece, whole bool) {
	for {
		s = strings.TrimLeft(s, " \t")
		if s == "" {
			return l, true
		}
		m := pieceForm.FindStringSubmatch(s)
		switch {
		case m == nil:
			return nil, false
		case m[1] != "":
			l = append(l, Piece{CommaSort, ","})
		case m[3] != "":
			l = append(l, Piece{WordSort, m[3]})
		default:
			l = append(l, Piece{MemoSort, m[2]})
		}
		s = s[len(m[0]):]
	}
}

func cutsAsPlain(t *testing.T, s string) {
	t.Helper()
	got, is := Line(s)
	want, whole := plainLine(s)
	if is != whole || len(got)+len(want) > 0 && !reflect.DeepEqual(got, want) {
		t.Fatalf("Line(%q): %+v, %v; want %+v, %v", s, got, is, want, whole)
	}
}

func TestLine(t *testing.T) {
	word := func(s string) Piece { return Piece{WordSort, s} }
	memo := func(s string) Piece { return Piece{MemoSort, s} }
	comma := Piece{CommaSort, ","}
	for s, want := range map[string][]Piece{
		"":                        nil,
		" \t ":                    nil,
		"a":                       {word("a")},
		"post 1 k \"a, b\" A 5":   {word("post"), word("1"), word("k"), memo("a, b"), word("A"), word("5")},
		"\tk\"m\"A 1,B -1 ":       {word("k"), memo("m"), word("A"), word("1"), comma, word("B"), word("-1")},
		`""`:                      {memo("")},
		`" "" "`:                  {memo(" "), memo(" ")},
		",,":                      {comma, comma},
		"#t ; \r \x00\xff ä\n'x'": {word("#t"), word(";"), word("\r"), word("\x00\xff"), word("ä\n'x'")},
	} {
		if got, whole := Line(s); !whole || len(got) != len(want) || len(want) > 0 && !reflect.DeepEqual(got, want) {
			t.Errorf("Line(%q): %+v, %v; want %+v", s, got, whole, want)
		}
	}
	for _, s := range []string{`"`, `a"`, `"a`, `"a" "`, `"""`, "\"a\tb\"", "\"a\nb\"", "\"\x1f\"", "\"\x7f\"", "\"ä\""} {
		if got, whole := Line(s); whole || got != nil {
			t.Errorf("Line(%q): %+v, %v", s, got, whole)
		}
	}
}

// TestLineEveryByte: each byte at each place, and behind the end.
func TestLineEveryByte(t *testing.T) {
	for _, s := range []string{"", "a b", `a "b c" d`, "a,b , c", ` "a""b",`, "abcdefghi jklmnopqr"} {
		for at := range len(s) + 1 {
			for b := range 256 {
				cutsAsPlain(t, s[:at]+string([]byte{byte(b)})+s[min(at+1, len(s)):])
				cutsAsPlain(t, s[:at]+string([]byte{byte(b)})+s[at:])
			}
		}
	}
}

func TestLineAnyBytes(t *testing.T) {
	r := rand.New(rand.NewPCG(16, 1))
	const bytes = "a\"\", \t;#~\x1f\x7f\xff"
	for range 100000 {
		b := make([]byte, r.IntN(24))
		for i := range b {
			b[i] = bytes[r.IntN(len(bytes))]
		}
		cutsAsPlain(t, string(b))
	}
}

// TestLineIsNotKept: no piece stands in the memory of the line.
func TestLineIsNotKept(t *testing.T) {
	b := []byte(`post 2024-02-01 x1 "rent" A 5, B`)
	want, _ := plainLine(string(b))
	got, _ := Line(unsafe.String(&b[0], len(b)))
	clear(b)
	if !reflect.DeepEqual(got, want) {
		t.Errorf("%+v, want %+v", got, want)
	}
}
