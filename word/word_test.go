package word

import (
	"regexp"
	"strconv"
	"strings"
	"testing"
)

// short: all texts of so many bytes at the most, of these.
func short(most int, of string) []string {
	l := []string{""}
	for from := 0; most > 0; most-- {
		n := len(l)
		for _, s := range l[from:] {
			for i := range len(of) {
				l = append(l, s+of[i:i+1])
			}
		}
		from = n
	}
	return l
}

func TestWords(t *testing.T) {
	for b := range 256 {
		s := string([]byte{byte(b)})
		want := b >= 33 && b <= 126
		for _, in := range []string{s, "a" + s, s + "a", "a" + s + "a"} {
			if Is(in) != want {
				t.Errorf("%q: %v", in, !want)
			}
		}
	}
	if Is("") || !Is(strings.Repeat("~", 5000)) {
		t.Error("none, and a long one")
	}
}

func TestNumbers(t *testing.T) {
	is := regexp.MustCompile(`^(0|-?[1-9][0-9]{0,9})$`)
	l := short(5, "-019+. ")
	for n := 8; n <= 12; n++ {
		for _, sign := range []string{"", "-", "--", "+"} {
			l = append(l, sign+strings.Repeat("9", n), sign+"1"+strings.Repeat("0", n-1), sign+strings.Repeat("0", n))
		}
	}
	for b := range 256 {
		s := string([]byte{byte(b)})
		l = append(l, s, "1"+s, s+"1", "-"+s, "1"+s+"1")
	}
	for _, s := range l {
		if IsNumber(s) != is.MatchString(s) {
			t.Errorf("%q: %v", s, IsNumber(s))
		}
		if n, err := strconv.ParseInt(s, 10, 64); IsNumber(s) && (err != nil || strconv.FormatInt(n, 10) != s || !Is(s)) {
			t.Errorf("%q: %d, %v", s, n, err)
		}
	}
}
