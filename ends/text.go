package ends

import (
	"circa/api"
	"circa/ints"
)

// infinities returns the texts of the ends that are no days.
func infinities() map[api.End]string {
	return map[api.End]string{
		{Inf: -1}: "-inf",
		{Inf: 1}:  "inf",
	}
}

// Text returns the text of an end.
func Text(x api.End) (string, api.Errno) {
	if err := Check(x); err != api.OK {
		return "", err
	}
	if text, is := infinities()[x]; is {
		return text, api.OK
	}
	return ints.Text(x.Day), api.OK
}

// Parse returns the end with a text.
func Parse(s string) (api.End, api.Errno) {
	for x, text := range infinities() {
		if s == text {
			return x, api.OK
		}
	}
	day, err := ints.Parse(s)
	return Of(day), err // With an error the day is 0, and the end of it the zero value.
}
