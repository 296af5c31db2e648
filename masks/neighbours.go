package masks

import "circa/api"

// Next returns the least number that is at least n.
func Next(m string, n int64) (int64, api.Errno) {
	if err := Check(m); err != api.OK {
		return 0, err
	}
	return next(m, n)
}

// Prev returns the greatest number that is at most n.
func Prev(m string, n int64) (int64, api.Errno) {
	if err := Check(m); err != api.OK {
		return 0, err
	}
	if n < 0 { // And with that, what n leaves to all nines is an int64.
		return 0, api.ErrNone
	}
	// What numbers leave to all nines descends where the numbers ascend, so that the search is the same one.
	most := nines(m)
	found, err := next(mirrored(m), most-n)
	if err != api.OK {
		return 0, err
	}
	return most - found, api.OK
}

// mirrored returns the mask of what the numbers of a mask leave to all nines.
func mirrored(m string) string {
	var letters [MaxLen]byte
	for place := range m {
		letters[place] = open
		if m[place] != open {
			letters[place] = '0' + '9' - m[place]
		}
	}
	return string(letters[:len(m)])
}

// next returns the least number of a mask that is at least n.
func next(m string, n int64) (int64, api.Errno) {
	if n > nines(m) {
		return 0, api.ErrNone
	}
	number := digitsOf(max(n, 0), len(m))
	place := agreeing(m, number)
	if place == len(m) {
		return joined(number, len(m)), api.OK
	}
	// A number above n has a greater digit at one place, and the same digits ahead of it. The later this place is, the less is the number.
back:
	for ; place >= 0; place-- {
		for digit := number[place] + 1; digit <= 9; digit++ {
			if digitOr(rune(m[place]), digit) == digit {
				number[place] = digit
				break back
			}
		}
	}
	if place < 0 {
		return 0, api.ErrNone
	}
	for behind := place + 1; behind < len(m); behind++ {
		number[behind] = digitOr(rune(m[behind]), 0)
	}
	return joined(number, len(m)), api.OK
}
