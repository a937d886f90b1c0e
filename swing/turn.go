package swing

import "iter"

// turns yields the turns of a rim, by no marks first.
func turns(rim string) iter.Seq2[int, string] {
	return func(yield func(int, string) bool) {
		for t := range len(rim) {
			if !yield(t, rim[t:]+rim[:t]) {
				return
			}
		}
	}
}

// areDifferent reports whether all windows of a length, up to that of the rim, are different.
func areDifferent(rim string, length int) bool {
	windows := map[string]bool{}
	for _, turned := range turns(rim) {
		window := turned[:length]
		if windows[window] {
			return false
		}
		windows[window] = true
	}
	return true
}

// fitting returns the indices of a rim at which what is seen fits.
func fitting(rim, seen string) []int {
	var fit []int
search:
	for at, turned := range turns(rim) {
		for i, mark := range seen {
			if mark != unknown && mark != rune(turned[i%len(turned)]) {
				continue search
			}
		}
		fit = append(fit, at)
	}
	return fit
}
