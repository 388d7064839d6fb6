package value

import (
	"math"
	"math/bits"

	"lictor/api"
)

// Sum is a op b, of + - *.
func Sum(op byte, a, b int64) (int64, api.Errno) {
	n, over := int64(0), false
	switch op {
	case '+':
		n = a + b
		over = (n < a) != (b < 0)
	case '-':
		n = a - b
		over = (n > a) != (b < 0)
	case '*':
		n = a * b
		over = productOver(a, b)
	default:
		return 0, api.ErrRange
	}
	if over {
		return 0, api.ErrOver
	}
	return n, api.OK
}

// productOver tells whether a * b is beyond an int64.
func productOver(a, b int64) bool {
	most := uint64(math.MaxInt64)
	if (a < 0) != (b < 0) {
		// The least number is one farther from 0 than the greatest one.
		most++
	}
	high, low := bits.Mul64(size(a), size(b))
	return high != 0 || low > most
}

// size is a number without its sign.
func size(n int64) uint64 {
	if n < 0 {
		return -uint64(n)
	}
	return uint64(n)
}
