package ints

import (
	"strconv"
	"strings"

	"circa/api"
)

// Text returns the text of a number.
func Text(n int64) string {
	return strconv.FormatInt(n, 10)
}

// Parse returns the number with a text.
func Parse(s string) (int64, api.Errno) {
	if !isText(s) {
		return 0, api.ErrForm
	}
	n, err := strconv.ParseInt(s, 10, 64)
	if err != nil { // The form is right, so that only the size can be wrong.
		return 0, api.ErrOverflow
	}
	return n, api.OK
}

// isText reports whether s is the text of an integer of any size.
func isText(s string) bool {
	digits := strings.TrimPrefix(s, "-")
	if digits == "" {
		return false
	}
	if digits[0] == '0' { // Neither leading zeros nor a minus sign ahead of 0.
		return s == "0"
	}
	for i := range len(digits) {
		if digits[i] < '0' || digits[i] > '9' {
			return false
		}
	}
	return true
}
