package scalar

import (
	"math"

	"boscage/api"
)

// operation is what op does with two numbers; nil, if it is none.
func operation(op string) func(a, b int64) (int64, api.Errno) {
	switch op {
	case "+":
		return add
	case "-":
		return subtract
	case "*":
		return multiply
	case "/":
		return divide
	case "%":
		return remain
	}
	return nil
}

// A sum and a difference that went round lie on the wrong side of a; a product that did, divided again, is not a.

func add(a, b int64) (int64, api.Errno) {
	n := a + b
	return within(n, (n > a) == (b > 0))
}

func subtract(a, b int64) (int64, api.Errno) {
	n := a - b
	return within(n, (n < a) == (b > 0))
}

func multiply(a, b int64) (int64, api.Errno) {
	if b == 0 {
		return 0, api.OK
	}
	n := a * b
	return within(n, n/b == a && !atTheEnd(a, b))
}

func divide(a, b int64) (int64, api.Errno) {
	if b == 0 {
		return 0, api.ErrZero
	}
	return within(a/b, !atTheEnd(a, b))
}

func remain(a, b int64) (int64, api.Errno) {
	if b == 0 {
		return 0, api.ErrZero
	}
	return a % b, api.OK
}

// atTheEnd tells whether a by b is beyond 64 bits, though Go's division goes round there and gives a back.
func atTheEnd(a, b int64) bool { return a == math.MinInt64 && b == -1 }

func within(n int64, fits bool) (int64, api.Errno) {
	if !fits {
		return 0, api.ErrOver
	}
	return n, api.OK
}
