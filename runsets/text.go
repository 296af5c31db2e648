package runsets

import (
	"cmp"
	"strings"

	"circa/api"
	"circa/runs"
)

const (
	comma = ","
	none  = "none"
)

// Text returns the text of a set.
func Text(l []api.Run) (string, api.Errno) {
	if err := Check(l); err != api.OK {
		return "", err
	}
	if len(l) == 0 {
		return none, api.OK
	}
	texts := make([]string, len(l))
	for i, r := range l {
		texts[i], _ = runs.Text(r) // Check has found no error in it.
	}
	s := strings.Join(texts, comma)
	if len(s) > api.MaxText { // MaxRuns runs of int64 days do not come near it.
		return "", api.ErrLimit
	}
	return s, api.OK
}

// Parse returns the set with a text.
func Parse(s string) ([]api.Run, api.Errno) {
	if len(s) > api.MaxText {
		return nil, api.ErrLimit
	}
	if s == none {
		return nil, api.OK
	}
	l, err := parseParts(s)
	if err != api.OK {
		return nil, err
	}
	if err := Check(l); err != api.OK {
		return nil, err
	}
	return limited(l)
}

// parseParts returns the runs with the texts between commas. The form of all of them is looked at ahead of their other errors.
func parseParts(s string) ([]api.Run, api.Errno) {
	var list []api.Run
	first := api.OK
	for part := range strings.SplitSeq(s, comma) {
		r, err := runs.Parse(part)
		if err == api.ErrForm {
			return nil, err
		}
		first = cmp.Or(first, err)
		list = append(list, r)
	}
	if first != api.OK {
		return nil, first
	}
	return list, api.OK
}
