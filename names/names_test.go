package names

import (
	"math/rand/v2"
	"regexp"
	"strings"
	"testing"

	"daybook/api"
)

// sorts: the words of DOC.md, "Words", as patterns; and some texts of each sort.
var sorts = []struct {
	name    string
	is      func(string) bool
	pattern *regexp.Regexp
	good    []string
}{
	{"account", IsAccount, regexp.MustCompile(`\A[A-Z][A-Za-z0-9-]{0,15}(:[A-Z][A-Za-z0-9-]{0,15}){0,5}\z`),
		[]string{"A", "Z", "Assets", "Assets:Bank", "A9-z", "A-:B-", "A:B:C:D:E:F", longestPart, longestName}},
	{"key", IsKey, regexp.MustCompile(`\A[A-Za-z0-9._-]{1,24}\z`),
		[]string{"a", "9", "-", "_", ".", "x1", "A.b_c-9", strings.Repeat("k", 24)}},
	{"tag", IsTag, regexp.MustCompile(`\A([a-z][a-z0-9-]{0,15})?\z`),
		[]string{"", "a", "z", "flat", "a-", "z9-a", strings.Repeat("t", 16)}},
	{"memo", IsMemo, regexp.MustCompile(`\A[ !#-~]{0,80}\z`),
		[]string{"", " ", "~", "!", "#", "a, b", strings.Repeat("m", 80)}},
}

const (
	longestPart = "Abcdefghijklmn-9"
	longestName = longestPart + ":" + longestPart + ":" + longestPart + ":" + longestPart + ":" + longestPart + ":" + longestPart
)

func TestSorts(t *testing.T) {
	if len(longestName) != 101 || len(longestPart) != api.MaxPart {
		t.Fatalf("the longest name has %d bytes", len(longestName))
	}
	for _, s := range sorts {
		for _, text := range s.good {
			if !s.is(text) || !s.pattern.MatchString(text) {
				t.Errorf("%q is no %s", text, s.name)
			}
		}
	}
	for _, x := range []struct {
		is   func(string) bool
		text string
	}{
		{IsAccount, ""}, {IsAccount, "a"}, {IsAccount, "9"}, {IsAccount, "-A"}, {IsAccount, ":"}, {IsAccount, "A:"}, {IsAccount, ":A"}, {IsAccount, "A::B"}, {IsAccount, "A:b"}, {IsAccount, "A B"},
		{IsAccount, "A:B:C:D:E:F:G"}, {IsAccount, "A:B:C:D:E:F:"}, {IsAccount, longestPart + "x"}, {IsAccount, "A:" + longestPart + "x"}, {IsAccount, longestName + ":A"}, {IsAccount, longestName + "x"}, {IsAccount, strings.Repeat(":", 100000)}, {IsAccount, "Ä"},
		{IsKey, ""}, {IsKey, strings.Repeat("k", 25)}, {IsKey, "a b"}, {IsKey, "a:b"}, {IsKey, "ä"}, {IsKey, "a\n"},
		{IsTag, "A"}, {IsTag, "9"}, {IsTag, "-"}, {IsTag, "aB"}, {IsTag, "#a"}, {IsTag, "a_"}, {IsTag, strings.Repeat("t", 17)},
		{IsMemo, `"`}, {IsMemo, `a"b`}, {IsMemo, "\x1f"}, {IsMemo, "\x7f"}, {IsMemo, "a\nb"}, {IsMemo, "a\tb"}, {IsMemo, "ä"}, {IsMemo, strings.Repeat("m", 81)},
	} {
		if x.is(x.text) {
			t.Errorf("%q is taken", x.text)
		}
	}
}

// TestEveryByte: each byte at each place of each text, and behind it.
func TestEveryByte(t *testing.T) {
	for _, s := range sorts {
		for _, text := range s.good {
			for at := range len(text) + 1 {
				for b := range 256 {
					changed := text[:at] + string([]byte{byte(b)}) + text[min(at+1, len(text)):]
					if got, want := s.is(changed), s.pattern.MatchString(changed); got != want {
						t.Fatalf("%q, a %s: %v, want %v", changed, s.name, got, want)
					}
				}
			}
		}
	}
}

func TestAnyText(t *testing.T) {
	r := rand.New(rand.NewPCG(5, 1))
	const bytes = "AZBazb09-_.:: ~\"#@[`{/\x1f\x7f\xff"
	for range 200000 {
		b := make([]byte, r.IntN(40))
		for i := range b {
			b[i] = bytes[r.IntN(len(bytes)>>r.IntN(2))]
		}
		for _, s := range sorts {
			if got, want := s.is(string(b)), s.pattern.MatchString(string(b)); got != want {
				t.Fatalf("%q, a %s: %v, want %v", b, s.name, got, want)
			}
		}
	}
}

func TestIsRoot(t *testing.T) {
	for name, want := range map[string]bool{"A": true, "Assets": true, longestPart: true, "A:B": false, "Assets:Bank:Cash": false, longestName: false} {
		if IsRoot(name) != want {
			t.Errorf("IsRoot(%q) is not %v", name, want)
		}
	}
}
