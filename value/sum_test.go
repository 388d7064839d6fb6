package value_test

import (
	"math"
	"math/big"
	"math/rand"
	"testing"

	"lictor/api"
	"lictor/value"
)

// reckoned is a op b of whole numbers of any size.
func reckoned(op byte, a, b int64) *big.Int {
	x, y := big.NewInt(a), big.NewInt(b)
	switch op {
	case '+':
		return x.Add(x, y)
	case '-':
		return x.Sub(x, y)
	}
	return x.Mul(x, y)
}

// sums asks Sum of two numbers, of each operator.
func sums(t *testing.T, a, b int64) {
	t.Helper()
	for _, op := range []byte("+-*") {
		exact := reckoned(op, a, b)
		want, reason := int64(0), api.ErrOver
		if exact.IsInt64() {
			want, reason = exact.Int64(), api.OK
		}
		if n, why := value.Sum(op, a, b); n != want || why != reason {
			t.Errorf("%d %c %d: %d, error %d; not %d, error %d", a, op, b, n, why, want, reason)
		}
	}
}

// Promise 6.2 of Sum, and example 1: numbers around all edges, and some others, against numbers of any size.
func TestSum(t *testing.T) {
	if n, why := value.Sum('+', math.MaxInt64, 1); n != 0 || why != api.ErrOver {
		t.Errorf("2^63 - 1 + 1: %d, error %d", n, why)
	}
	var edges []int64
	for _, n := range []int64{0, 1 << 31, 1 << 32, 3037000500, 1 << 62, math.MinInt64, math.MaxInt64 / 2, math.MaxInt64 / 3} {
		for d := int64(-3); d <= 3; d++ {
			edges = append(edges, n+d, -n+d)
		}
	}
	for _, a := range edges {
		for _, b := range edges {
			sums(t, a, b)
		}
	}
	r := rand.New(rand.NewSource(6))
	for range 20000 {
		sums(t, int64(r.Uint64())>>r.Intn(64), int64(r.Uint64())>>r.Intn(64))
	}
}

// Promise 6.2 of Sum, and P2: operators that are none, whatever the numbers are.
func TestOperatorsThatAreNone(t *testing.T) {
	for op := range 256 {
		if op == '+' || op == '-' || op == '*' {
			continue
		}
		for _, n := range []int64{0, 1, -1, math.MaxInt64, math.MinInt64} {
			if got, why := value.Sum(byte(op), n, n); got != 0 || why != api.ErrRange {
				t.Errorf("%d %q %d: %d, error %d", n, rune(op), n, got, why)
			}
		}
	}
}
