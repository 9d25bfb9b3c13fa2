package money

import (
	"strconv"
	"strings"

	"daybook/api"
)

// Print is an amount's text with so many digits behind the point.
func Print(a int64, digits int) (string, api.Errno) {
	if !goodDigits(digits) {
		return "", api.ErrArg
	}
	if e := Check(a); e != api.OK {
		return "", e
	}
	text := strconv.FormatUint(size(a), 10)
	if missing := digits + 1 - len(text); missing > 0 {
		text = strings.Repeat("0", missing) + text
	}
	if digits > 0 {
		point := len(text) - digits
		text = text[:point] + "." + text[point:]
	}
	if a < 0 {
		text = "-" + text
	}
	return text, api.OK
}

// Parse reads an amount's text.
func Parse(text string, digits int) (int64, api.Errno) {
	if !goodDigits(digits) {
		return 0, api.ErrArg
	}
	if len(text) > api.MaxMoney {
		return 0, api.ErrMoney
	}
	unsigned, negative := strings.CutPrefix(text, "-")
	whole, behind, point := strings.Cut(unsigned, ".")
	if !allDigits(whole) || point && !allDigits(behind) || len(behind) > digits {
		return 0, api.ErrMoney
	}
	units := whole + behind + strings.Repeat("0", digits-len(behind))
	amount, err := strconv.ParseInt(units, 10, 64)
	if err != nil {
		// Nothing but decimal digits is left, so it can only be too large.
		return 0, api.ErrOverflow
	}
	if negative {
		amount = -amount
	}
	return amount, api.OK
}

// goodDigits tells whether an amount's text can have so many digits behind the point.
func goodDigits(digits int) bool {
	return digits >= 0 && digits <= api.MaxDigits
}

// allDigits tells whether a text is one or more decimal digits.
func allDigits(text string) bool {
	for i := range len(text) {
		if text[i] < '0' || text[i] > '9' {
			return false
		}
	}
	return text != ""
}
