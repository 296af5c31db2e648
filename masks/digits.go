package masks

import "circa/ints"

// digits are those of a number at the places of a mask, with leading zeros; behind the last place they are 0.
type digits [MaxLen]int64

// digitsOf returns the last digits of a number that is not negative: as many as there are places.
func digitsOf(n int64, places int) digits {
	var list digits
	for place := places - 1; place >= 0; place-- {
		list[place] = n % 10
		n /= 10
	}
	return list
}

// joined returns the number that has digits at the places of a mask.
func joined(list digits, places int) int64 {
	var n int64
	for _, digit := range list[:places] {
		n = 10*n + digit
	}
	return n
}

// nines returns the greatest number that fits into the places of a mask.
func nines(m string) int64 {
	power, _ := ints.Pow10(len(m)) // There is one, because a mask has at most 18 places.
	return power - 1
}

// fits reports whether a number can be written at the places of a mask.
func fits(m string, n int64) bool {
	return n >= 0 && n <= nines(m)
}

// agreeing returns how many places from the first one on agree with a mask.
func agreeing(m string, number digits) int {
	for place, letter := range m {
		if digitOr(letter, number[place]) != number[place] {
			return place
		}
	}
	return len(m)
}
