package runs

import (
	"strings"

	"circa/api"
	"circa/ends"
)

const points = ".."

// Text returns the text of a run.
func Text(r api.Run) (string, api.Errno) {
	if err := Check(r); err != api.OK {
		return "", err
	}
	texts, err := each(endsOf(r), ends.Text)
	if err != api.OK {
		return "", err
	}
	return texts.lo + points + texts.hi, api.OK
}

// Parse returns the run with a text.
func Parse(s string) (api.Run, api.Errno) {
	lo, hi, found := strings.Cut(s, points)
	if !found {
		return api.Run{}, api.ErrForm
	}
	both, err := each(pair[string]{lo: lo, hi: hi}, ends.Parse)
	if err != api.OK {
		return api.Run{}, err
	}
	return checked(runOf(both))
}
