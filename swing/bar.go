package swing

// firstBar returns the length of the longest beginning of a row that is a bar. Up to each mark
// the row is this bar, again and again; a mark that is greater than the one that would come
// again makes all of it a bar, and after a smaller one no longer beginning is a bar.
func firstBar(row string) int {
	length := 1
	for i, mark := range row[1:] {
		again := rune(row[i+1-length])
		if mark < again {
			break
		}
		if mark > again {
			length = i + 2
		}
	}
	return length
}

// bars returns all bars of a length from 1 on, the smaller ones first. Each beginning of a bar
// is itself a bar, the first one, again and again up to some mark; it goes on with what would
// come again, or with a greater mark, which makes all of it the first bar.
func bars(length int) []string {
	var all []string
	var grow func(row string, first int)
	grow = func(row string, first int) {
		if len(row) == length {
			if first == length {
				all = append(all, row)
			}
			return
		}
		at := len(row) - first
		again := row[at : at+1]
		grow(row+again, first)
		if again == light {
			grow(row+dark, len(row)+1)
		}
	}
	grow(light, 1)
	grow(dark, 1)
	return all
}
