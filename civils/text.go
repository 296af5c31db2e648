package civils

import (
	"strings"

	"circa/api"
	"circa/ints"
)

const (
	yearDigits = 4 // at least
	partDigits = 2 // of a month and of a day
	hyphen     = "-"
)

// Text returns the text of a civil day.
func Text(c api.Civil) (string, api.Errno) {
	if err := Check(c); err != api.OK {
		return "", err
	}
	parts := []string{yearText(c.Year), padded(int64(c.Month), partDigits), padded(int64(c.Day), partDigits)}
	return strings.Join(parts, hyphen), api.OK
}

// yearText returns the text of a year of the calendar.
func yearText(y int64) string {
	if y < 0 {
		return hyphen + padded(-y, yearDigits)
	}
	return padded(y, yearDigits)
}

// padded returns the text of a number that is not negative, with at least so many digits.
func padded(n int64, digits int) string {
	text := ints.Text(n)
	return strings.Repeat("0", max(0, digits-len(text))) + text
}

// Parse returns the civil day with a text.
func Parse(s string) (c api.Civil, e api.Errno) {
	defer func() {
		if fault := recover(); fault != nil {
			c, e = api.Civil{}, fault.(api.Errno) // Nothing else is thrown.
		}
	}()
	text := remainder(s)
	cut := text.cutPart
	// From the end on, because the minus sign of the year, and its length, are not in the way there.
	c.Day = cut()
	c.Month = cut()
	c.Year = text.year()
	throw(Check(c))
	return c, api.OK
}

// throw panics with an error, if it is one.
func throw(err api.Errno) {
	if err != api.OK {
		panic(err)
	}
}

// remainder is what is left of a text from which parts were cut off.
type remainder string

// cutPart cuts off the last part, with the minus sign ahead of it, and returns its number.
func (r *remainder) cutPart() int {
	text := string(*r)
	at := len(text) - partDigits
	if at < 0 || !strings.HasSuffix(text[:at], hyphen) || !isDigits(text[at:]) {
		panic(api.ErrForm)
	}
	*r = remainder(text[:at-len(hyphen)])
	return int(text[at]-'0')*10 + int(text[at+1]-'0')
}

// year returns the number of a remainder that is the text of a year.
func (r remainder) year() int64 {
	digits, negative := strings.CutPrefix(string(r), hyphen)
	filledUp := len(digits) > yearDigits && digits[0] == '0'
	if len(digits) < yearDigits || filledUp || !isDigits(digits) {
		panic(api.ErrForm)
	}
	last := len(digits) - 1 // A zero there stays: it is all that is left of the year 0.
	number := strings.TrimLeft(digits[:last], "0") + digits[last:]
	if negative {
		number = hyphen + number
	}
	y, err := ints.Parse(number)
	if err == api.ErrOverflow {
		err = api.ErrYear
	}
	throw(err) // -0000 has come down to -0, which is no text of a number.
	return y
}

// isDigits reports whether all bytes of a text are digits.
func isDigits(text string) bool {
	for i := range len(text) {
		if text[i] < '0' || text[i] > '9' {
			return false
		}
	}
	return true
}
