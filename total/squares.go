package total

import "agonic/api"

// squares is the real numbers from Lo to Hi, as values of a square or of a sum of some.
type squares struct {
	api.Span
}

// single returns one number only.
func single(number int) squares { return squares{api.Span{Lo: number, Hi: number}} }

// squared returns the squares of the real numbers of a span, none of them negative.
func squared(s api.Span) squares { return squares{api.Span{Lo: s.Lo * s.Lo, Hi: s.Hi * s.Hi}} }

// plus returns the sums of two numbers.
func (s squares) plus(other squares) squares {
	return squares{api.Span{Lo: s.Lo + other.Lo, Hi: s.Hi + other.Hi}}
}

// minus returns the differences of two numbers.
func (s squares) minus(other squares) squares {
	return squares{api.Span{Lo: s.Lo - other.Hi, Hi: s.Hi - other.Lo}}
}

// both returns the numbers that two have in common.
func (s squares) both(other squares) squares {
	return squares{api.Span{Lo: max(s.Lo, other.Lo), Hi: min(s.Hi, other.Hi)}}
}

func (s squares) empty() bool { return s.Lo > s.Hi }
