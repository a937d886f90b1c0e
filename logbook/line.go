package logbook

import (
	"strings"

	"agonic/api"
	"agonic/pillar"
)

// The numbers of the commands.
const (
	arrive = iota
	swap
	note
	mend
	undo
	commandCount
)

// command is the first word of a line, and a letter for each further one: C and D stand for
// names, K for a kind, n for a heading, d for a deviation.
type command struct {
	word    string
	letters string
}

// commands are all commands, by their numbers. They only say where to look first: what a call
// answers follows from listCommands.
var commands = listCommands()

// listCommands returns the rows of the chapter's table.
func listCommands() [commandCount]command {
	return [commandCount]command{
		arrive: {"new", "C"},
		swap:   {"swap", "CDK"},
		note:   {"card", "Cnd"},
		mend:   {"mend", "CK"},
		undo:   {"undo", ""},
	}
}

// find returns the number of the command with a word.
func find(word string) (number int, known bool) {
	first := 0
	for i, c := range commands {
		if c.word == word {
			first = i
		}
	}
	list := listCommands()
	for step := range commandCount {
		at := (first + step) % commandCount
		if list[at].word == word {
			return at, true
		}
	}
	return 0, false
}

// parse returns the number of a line's command, and the words after it.
func parse(line string) (number int, words []string, e api.Errno) {
	if len(line) > MaxLine {
		return 0, nil, api.ErrLong
	}
	if !isLine(line) {
		return 0, nil, api.ErrForm
	}
	words = strings.Split(line, " ")
	number, known := find(words[0])
	if !known {
		return 0, nil, api.ErrKind
	}
	return number, words[1:], listCommands()[number].check(words[1:])
}

// check returns the error of the words after a command.
func (c command) check(words []string) api.Errno {
	if len(words) != len(c.letters) {
		return api.ErrForm
	}
	// A word that comes later can have an error that counts first.
	for _, e := range [...]api.Errno{api.ErrForm, api.ErrName, api.ErrKind, api.ErrRange} {
		for i, letter := range c.letters {
			if checkWord(letter, words[i]) == e {
				return e
			}
		}
	}
	return api.OK
}

// checkWord returns the error of a word for which a letter stands.
func checkWord(letter rune, word string) api.Errno {
	e := api.OK
	switch letter {
	case 'n':
		_, e = heading(word)
	case 'd':
		_, e = deviation(word)
	case 'K':
		if kindOf(word) < 0 {
			e = api.ErrKind
		}
	default:
		if !pillar.Name(word) {
			e = api.ErrName
		}
	}
	return e
}

func heading(word string) (int, api.Errno) { return decimal(word, 0, Headings-1) }

func deviation(word string) (int, api.Errno) { return decimal(word, -MaxDeviation, MaxDeviation) }

// tell returns what a line tells that has no error in itself and is not undo.
func tell(number int, words []string) told {
	switch number {
	case swap:
		return exchange{words[0], words[1], kindOf(words[2])}
	case note:
		at, _ := heading(words[1])
		by, _ := deviation(words[2])
		return swing{words[0], Entry{at, by}}
	case mend:
		return repair{words[0], kindOf(words[1])}
	}
	return arrival{words[0]}
}
