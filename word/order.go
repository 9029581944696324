package word

import "conclave/api"

// Cmp: -1, 0, 1: a is below b, is b, is above b.
func Cmp(a, b api.Word) int {
	if a == b {
		return 0
	}
	c := 0
	for i := range limbs { // the highest limbs that differ have the last say
		if a[i] < b[i] {
			c = -1
		} else if a[i] > b[i] {
			c = 1
		}
	}
	return c
}

// Scmp: as Cmp, of signed numbers.
func Scmp(a, b api.Word) int {
	if negative(a) == negative(b) {
		return Cmp(a, b)
	}
	if negative(a) {
		return -1
	}
	return 1
}

// Zero: is it 0?
func Zero(a api.Word) bool { return a == api.Word{} }
