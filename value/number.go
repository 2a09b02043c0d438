package value

import (
	"math/bits"

	"canton/api"
)

// Add answers a and b together, cut to Least and Most.
func Add(a, b int64) int64 {
	sum := a + b
	if (a < 0) == (b < 0) && (sum < 0) != (a < 0) {
		return bound(a < 0)
	}
	return sum
}

// Sub answers a less b, cut to Least and Most.
func Sub(a, b int64) int64 {
	rest := a - b
	if (a < 0) != (b < 0) && (rest < 0) != (a < 0) {
		return bound(a < 0)
	}
	return rest
}

// Mul answers a times b, cut to Least and Most.
func Mul(a, b int64) int64 {
	below := (a < 0) != (b < 0)
	high, low := bits.Mul64(size(a), size(b))
	// Least, one farther from nought than Most, may count as past it: it is cut to itself.
	if high != 0 || low > api.Most {
		return bound(below)
	}
	if below {
		return -int64(low)
	}
	return int64(low)
}

// Div answers a by b, towards nought, cut to Most; false: b is 0.
func Div(a, b int64) (int64, bool) {
	if b == 0 {
		return 0, false
	}
	if a == api.Least && b == -1 {
		return api.Most, true
	}
	return a / b, true
}

// Mod answers what Div leaves of a, with a's sign; false: b is 0.
func Mod(a, b int64) (int64, bool) {
	if b == 0 {
		return 0, false
	}
	return a % b, true
}

// bound answers what a number that is too far below nought, or above, is cut to.
func bound(below bool) int64 {
	if below {
		return api.Least
	}
	return api.Most
}

// size answers n without its sign; unsigned, so that Least has one, too.
func size(n int64) uint64 {
	if n < 0 {
		return -uint64(n)
	}
	return uint64(n)
}
