package swing

type integer interface {
	~int | ~int8 | ~int16 | ~int32 | ~int64 | ~uint | ~uint8 | ~uint16 | ~uint32 | ~uint64 | ~uintptr
}

// divisor returns the greatest common divisor of two numbers, the other one if one is 0.
func divisor[N integer](a, b N) N {
	for b != 0 {
		a, b = b, a%b
	}
	return a
}
