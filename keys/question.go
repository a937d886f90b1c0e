package keys

// question is what can be asked of a thing, and what is certain of it if the answer is yes.
type question struct {
	ask     func(thing int) bool
	certain int
}

func (s *search) isSo(thing int) bool { return !s.agrees(Case{thing, false}) }

func (s *search) isNot(thing int) bool { return !s.agrees(Case{thing, true}) }

// questions returns the questions about things of a book of which some truth agrees with
// the given cases: the answer to one of them at most is yes.
func (s *search) questions() []question {
	return []question{{s.isSo, Yes}, {s.isNot, No}}
}
