package day

import (
	"strings"
	"testing"

	"daybook/api"
)

func TestP2_6Print(t *testing.T) {
	for n, want := range map[int]string{
		1:          "0001-01-01",
		365:        "0001-12-31",
		3288:       "0010-01-01",
		36525:      "0101-01-01",
		719163:     "1970-01-01",
		738945:     "2024-02-29",
		api.MaxDay: "9999-12-31",
	} {
		if text, e := Print(n); text != want || e != api.OK {
			t.Errorf("Print(%d): %q, %d; want %q", n, text, int(e), want)
		}
	}
	for _, n := range noDays() {
		if text, e := Print(n); text != "" || e != api.ErrDay {
			t.Errorf("Print(%d): %q, %d", n, text, int(e))
		}
	}
}

func TestP2_6Parse(t *testing.T) {
	for text, want := range map[string]int{
		"0001-01-01": 1,
		"0001-12-31": 365,
		"1970-01-01": 719163,
		"2024-02-29": 738945,
		"9999-12-31": api.MaxDay,
	} {
		n, e := Parse(text)
		wantDay(t, n, e, want, api.OK, "Parse(%q)", text)
	}
}

func TestP2_6ParseRefuses(t *testing.T) {
	for _, text := range []string{
		"", "-", "--", "2023-02-29", "2024-02-30", "1900-02-29", "2024-04-31", "2024-2-29", "2024-02-29 ", " 2024-02-29",
		"+024-02-29", "-024-02-29", "2024-+2-29", "2024--2-29", "2024-02-+9", "2024-02--9",
		"02024-02-29", "0000-12-31", "0000-00-00", "10000-01-01", "9999-12-32", "9999-13-01", "2024-00-01", "2024-01-00",
		"2024/02/29", "2024-02/29", "2024/02-29", "20240229", "2024-02-2", "2024-02-2\u00e9", "2024-02-29\n", "2024-02-29\x00",
		"2024-02-2\xff", "\u0662\u0660\u0662\u0664-\u0660\u0662-\u0662\u0669", "2_24-02-29", "0x24-02-29", "2e24-02-29", " 024-02-29",
		"2024-02-:1", "2024-0:-01", ":024-01-01", "2024-02-1/", "/024-01-01", "0123456789", "----------",
		strings.Repeat("0", 10), strings.Repeat("2024-02-29", 1000),
	} {
		n, e := Parse(text)
		wantDay(t, n, e, 0, api.ErrDay, "Parse(%q)", text)
	}
}

// Any one byte put in place of another, left out or added: it is a day's text just if Print answers it.
func TestP2_6ParseTakesWhatPrintWrites(t *testing.T) {
	for _, n := range []int{1, 719163, 738945, api.MaxDay} {
		text, _ := Print(n)
		for i := range len(text) {
			for b := range 256 {
				checkAgainstPrint(t, text[:i]+string([]byte{byte(b)})+text[i+1:])
				checkAgainstPrint(t, text[:i]+string([]byte{byte(b)})+text[i:])
			}
			checkAgainstPrint(t, text[:i]+text[i+1:])
			checkAgainstPrint(t, text[:i])
		}
	}
}

func checkAgainstPrint(t *testing.T, text string) {
	t.Helper()
	n, e := Parse(text)
	if e == api.OK {
		if back, _ := Print(n); back != text {
			t.Errorf("Parse(%q): %d, which is %q", text, n, back)
		}
		return
	}
	if n != 0 || e != api.ErrDay || looksLikeADay(text) {
		t.Errorf("Parse(%q): %d, %d", text, n, int(e))
	}
}

// looksLikeADay seeks the text among all texts of dates of its month's days.
func looksLikeADay(text string) bool {
	if len(text) != 10 {
		return false
	}
	for _, b := range []byte(text[:4] + text[5:7]) {
		if b < '0' || b > '9' {
			return false
		}
	}
	year := int(text[0]-'0')*1000 + int(text[1]-'0')*100 + int(text[2]-'0')*10 + int(text[3]-'0')
	month := int(text[5]-'0')*10 + int(text[6]-'0')
	if year < 1 || month < 1 || month > 12 {
		return false
	}
	for inMonth := 1; inMonth <= plainDays(year, month); inMonth++ {
		if plainText(Date{year, month, inMonth}) == text {
			return true
		}
	}
	return false
}
