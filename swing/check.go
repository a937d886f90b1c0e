package swing

import (
	"strings"

	"agonic/api"
)

// The marks of rows, and what stands for one that is not known.
const (
	light   = "0"
	dark    = "1"
	known   = light + dark
	unknown = '?'
)

// checkMarks returns the error of a string, empty or not, of some marks.
func checkMarks(row, marks string) api.Errno {
	if len(row) > MaxMarks {
		return api.ErrMany
	}
	for _, mark := range row {
		if !strings.ContainsRune(marks, mark) {
			return api.ErrForm
		}
	}
	return api.OK
}
