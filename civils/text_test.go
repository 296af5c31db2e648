package civils

import (
	"fmt"
	"regexp"
	"strings"
	"testing"

	"circa/api"
)

// textByDefinition returns the text of numbers.
func textByDefinition(c api.Civil) string {
	if c.Year < 0 {
		return fmt.Sprintf("-%04d-%02d-%02d", -c.Year, c.Month, c.Day)
	}
	return fmt.Sprintf("%04d-%02d-%02d", c.Year, c.Month, c.Day)
}

// P6.6: years of fewer and of more than four digits, and below 0.
func TestText(t *testing.T) {
	for _, x := range []struct {
		c    api.Civil
		text string
	}{
		{civil(5, 6, 7), "0005-06-07"},
		{civil(0, 1, 1), "0000-01-01"},
		{civil(-1, 12, 31), "-0001-12-31"},
		{civil(9, 10, 11), "0009-10-11"},
		{civil(10, 1, 1), "0010-01-01"},
		{civil(-99, 1, 1), "-0099-01-01"},
		{civil(100, 1, 1), "0100-01-01"},
		{civil(999, 12, 31), "0999-12-31"},
		{civil(-999, 12, 31), "-0999-12-31"},
		{civil(1000, 1, 10), "1000-01-10"},
		{civil(-1000, 9, 30), "-1000-09-30"},
		{civil(9999, 12, 31), "9999-12-31"},
		{civil(-9999, 12, 31), "-9999-12-31"},
		{civil(10000, 1, 1), "10000-01-01"},
		{civil(2000, 2, 29), "2000-02-29"},
		{civil(-12345, 11, 30), "-12345-11-30"},
		{civil(lastYear, 12, 31), "10000000000000000-12-31"},
		{civil(-lastYear, 1, 1), "-10000000000000000-01-01"},
	} {
		if s, err := Text(x.c); s != x.text || err != api.OK {
			t.Errorf("Text(%v) = %q, %d; want %q", x.c, s, err, x.text)
		}
		if c, err := Parse(x.text); c != x.c || err != api.OK {
			t.Errorf("Parse(%q) = %v, %d; want %v", x.text, c, err, x.c)
		}
	}
	for _, x := range all() {
		want := textByDefinition(x.Civil)
		if s, err := Text(x.Civil); s != want || err != api.OK {
			t.Fatalf("Text(%v) = %q, %d; want %q", x.Civil, s, err, want)
		}
		if c, err := Parse(want); c != x.Civil || err != api.OK {
			t.Fatalf("Parse(%q) = %v, %d; want %v", want, c, err, x.Civil)
		}
	}
}

// tryParse expects an error of all texts.
func tryParse(t *testing.T, want api.Errno, texts ...string) {
	t.Helper()
	for _, s := range texts {
		if c, err := Parse(s); c != civil(0, 0, 0) || err != want {
			t.Errorf("Parse(%q) = %v, %d; want %d", s, c, err, want)
		}
	}
}

// P6.6: texts that no numbers have.
func TestParseForm(t *testing.T) {
	long := strings.Repeat("0", 5000)
	tryParse(t, api.ErrForm,
		"", "-", "--", "---", "----", "0", "2000", "2000-", "2000-01", "2000-01-", "2000--", "2000--01", "--01-01", "-01-01", "01-01", "01", "-01",
		"2-01-01", "20-01-01", "200-01-01", "5-06-07", "-5-06-07", "-200-01-01", // too few digits
		"2000-1-01", "2000-01-1", "2001-2-03", "2000-1-1", "2000--01-01",
		"2000-001-01", "2000-01-001", "2000-011-1", "2000-1-011", "2000-010-1", // too many digits
		"2000-01-01-", "2000-01-01-01", "-2000-01-01-", "2000-01--01", "2000--1-01", "2000-01--1", "2000-0-101", // too few or too many signs
		"--2000-01-01", "---2000-01-01", "+2000-01-01", "2000+01-01", "2000-01+01", "2000-+1-01", "2000-01-+1", "20000101", "2000/01/01", "2000-0101", "200001-01", "2000-01-0", "2000-0-01",
		"00000-01-01", "02000-01-01", "-02000-01-01", "00002-01-01", "000000-01-01", long+"-01-01", long+"1-01-01", "-"+long+"1-01-01", // leading zeros
		"-0000-01-01", "-00000-01-01", "-"+long+"-01-01",
		"X000-01-01", "200X-01-01", "2000-0X-01", "2000-01-0X", "Y2000-01-01", "2000-01-01~", "2000-01-01?", // other bytes
		" 2000-01-01", "2000-01-01 ", "2000 -01-01", "2000- 1-01", "2000-01- 1", "2000-01-01\n", "2000-01-01\x00", "\x002000-01-01", "2000\x00-01-01",
		"20_00-01-01", "2_000-01-01", "0x00-01-01", "1e10-01-01", "2000-01-1e", "20.0-01-01", "-20-0-01-01", "00-1-01-01", "0-01-01-01",
		"\xff000-01-01", "２０００-01-01", "2000-٠١-01", "2000–01–01", "2000-01-0\xb1",
	)
}

// P6.6: a text whose form is wrong is ErrForm, even if its numbers are wrong too.
func TestParseFormFirst(t *testing.T) {
	tryParse(t, api.ErrForm,
		"2000-13-1", "2000-00-001", "200-13-32", "99999999999999999-1-01", "99999999999999999999999999-01-1", "099999999999999999-01-01", "-0000-13-01", "-0000-02-30", "2000-13-32-", "99999999999999999999999999",
	)
}

// P6.6: a text of the right form has the error of Check, and ErrYear if its year is no int64.
func TestParseErrors(t *testing.T) {
	nines := strings.Repeat("9", 5000)
	tryParse(t, api.ErrYear,
		"10000000000000001-01-01", "-10000000000000001-12-31", "99999999999999999-13-99", "99999999999999999-01-00",
		"9223372036854775807-01-01", "9223372036854775808-01-01", "-9223372036854775808-01-01", "-9223372036854775809-01-01",
		"18446744073709551616-01-01", "18446744073709553616-01-01", "-18446744073709553616-01-01", // 0 and 2000, if they wrapped around
		"99999999999999999999999999-01-01", "99999999999999999999999999-13-99", nines+"-01-01", "-"+nines+"-00-00",
	)
	tryParse(t, api.ErrMonth, "2000-00-01", "2000-13-01", "2000-99-99", "0000-00-00", "-0001-13-32", "-10000000000000000-21-01", "10000000000000000-13-31")
	tryParse(t, api.ErrDay,
		"2000-01-00", "2000-01-32", "2000-04-31", "2000-02-30", "2001-02-29", "1900-02-29", "-0001-02-29", "0000-02-30", "2000-12-99", "10000000000000000-12-32", "-10000000000000000-01-00",
	)
	for _, x := range faults() {
		if x.Month < 0 || x.Month > 99 || x.Civil.Day < 0 || x.Civil.Day > 99 || x.Year == least {
			continue // Parts of two digits cannot say that, and textByDefinition cannot negate the year.
		}
		tryParse(t, x.err, textByDefinition(x.Civil))
	}
}

// P6.6: Parse accepts a text exactly if it is the text of the numbers that it says, whichever byte is changed, left out or put in.
func TestParseOneForm(t *testing.T) {
	form := regexp.MustCompile(`^(-?[1-9][0-9]{4,}|[0-9]{4}|-[0-9]{4})-[0-9]{2}-[0-9]{2}$`)
	for _, text := range []string{"2000-02-29", "-0001-12-31", "0000-01-01", "-12345-11-30", "10000000000000000-12-31"} {
		for at := range len(text) + 1 {
			for b := range 256 {
				changed := []string{text[:at] + string([]byte{byte(b)}) + text[at:]}
				if at < len(text) {
					changed = append(changed, text[:at]+string([]byte{byte(b)})+text[at+1:], text[:at]+text[at+1:])
				}
				for _, s := range changed {
					c, err := Parse(s)
					if right := form.MatchString(s) && !strings.HasPrefix(s, "-0000-"); right == (err == api.ErrForm) {
						t.Errorf("Parse(%q) = %v, %d", s, c, err)
					}
					if err != api.OK {
						if c != civil(0, 0, 0) {
							t.Errorf("Parse(%q) = %v, %d", s, c, err)
						}
						continue
					}
					if back, err := Text(c); back != s || err != api.OK {
						t.Errorf("Parse(%q) = %v, but Text says %q, %d", s, c, back, err)
					}
				}
			}
		}
	}
}
