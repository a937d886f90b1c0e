package logbook

import (
	"strconv"
	"strings"

	"agonic/api"
)

// kindWords are the words for the kinds, by their numbers.
var kindWords = [Kinds]string{"bowl", "cap", "needle", "pivot"}

// kindOf returns the number of a kind, or -1 if there is no such kind.
func kindOf(word string) int {
	for kind, other := range kindWords {
		if word == other {
			return kind
		}
	}
	return -1
}

// isLine reports whether a text is words with one blank between each two of them.
func isLine(text string) bool {
	before := ' '
	for _, r := range text {
		if r < ' ' || r > '~' || r == ' ' && before == ' ' {
			return false
		}
		before = r
	}
	return before != ' '
}

// isDecimal reports whether a word is a decimal number, of any size.
func isDecimal(word string) bool {
	digits := strings.TrimPrefix(word, "-")
	for _, r := range digits {
		if r < '0' || r > '9' {
			return false
		}
	}
	return word == "0" || digits != "" && digits[0] != '0'
}

// decimal returns the decimal number that a word is, which has to be from least to most.
func decimal(word string, least, most int) (int, api.Errno) {
	if !isDecimal(word) {
		return 0, api.ErrForm
	}
	n, err := strconv.Atoi(word)
	if err != nil || n < least || n > most {
		return 0, api.ErrRange
	}
	return n, api.OK
}
