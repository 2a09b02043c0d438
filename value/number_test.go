package value_test

import (
	"math"
	"math/big"
	"testing"

	"canton/value"
)

// edges are numbers near those at which something changes.
func edges() []int64 {
	all := []int64{math.MinInt64, math.MinInt64 + 1, math.MinInt64 + 2, math.MaxInt64, math.MaxInt64 - 1, 3037000499, 3037000500, -3037000499, -3037000500, 1234567890123}
	for _, shift := range []uint{1, 2, 30, 31, 32, 33, 61, 62} {
		n := int64(1) << shift
		all = append(all, n-1, n, n+1, -n-1, -n, -n+1)
	}
	for n := range int64(21) {
		all = append(all, n-10)
	}
	return all
}

// cut answers n, or the end of 64 bits that it is past.
func cut(n *big.Int) int64 {
	switch {
	case n.IsInt64():
		return n.Int64()
	case n.Sign() < 0:
		return math.MinInt64
	}
	return math.MaxInt64
}

func TestP202AgainstNumbersWithoutEnd(t *testing.T) {
	for _, a := range edges() {
		for _, b := range edges() {
			x, y := big.NewInt(a), big.NewInt(b)
			if got, want := value.Add(a, b), cut(new(big.Int).Add(x, y)); got != want {
				t.Errorf("P202: Add(%d, %d): %d, not %d", a, b, got, want)
			}
			if got, want := value.Sub(a, b), cut(new(big.Int).Sub(x, y)); got != want {
				t.Errorf("P202: Sub(%d, %d): %d, not %d", a, b, got, want)
			}
			if got, want := value.Mul(a, b), cut(new(big.Int).Mul(x, y)); got != want {
				t.Errorf("P202: Mul(%d, %d): %d, not %d", a, b, got, want)
			}
			if b == 0 {
				continue
			}
			div, mod := new(big.Int).QuoRem(x, y, new(big.Int))
			if got, ok := value.Div(a, b); got != cut(div) || !ok {
				t.Errorf("P202: Div(%d, %d): %d, %v, not %d", a, b, got, ok, cut(div))
			}
			if got, ok := value.Mod(a, b); got != cut(mod) || !ok {
				t.Errorf("P202: Mod(%d, %d): %d, %v, not %d", a, b, got, ok, cut(mod))
			}
		}
	}
}

func TestP202Cut(t *testing.T) {
	const most, least = math.MaxInt64, math.MinInt64
	for _, c := range []struct {
		name      string
		of        func(a, b int64) int64
		a, b, got int64
	}{
		{"Add", value.Add, 2, 3, 5}, {"Add", value.Add, most, 0, most}, {"Add", value.Add, most, 1, most}, {"Add", value.Add, most, most, most},
		{"Add", value.Add, least, 0, least}, {"Add", value.Add, least, -1, least}, {"Add", value.Add, least, least, least}, {"Add", value.Add, most, least, -1},
		{"Sub", value.Sub, 2, 3, -1}, {"Sub", value.Sub, most, -1, most}, {"Sub", value.Sub, least, 1, least}, {"Sub", value.Sub, most, least, most},
		{"Sub", value.Sub, least, most, least}, {"Sub", value.Sub, 0, least, most}, {"Sub", value.Sub, -1, least, most}, {"Sub", value.Sub, least, least, 0},
		{"Mul", value.Mul, -2, 3, -6}, {"Mul", value.Mul, most, 2, most}, {"Mul", value.Mul, most, -2, least}, {"Mul", value.Mul, least, 1, least},
		{"Mul", value.Mul, least, -1, most}, {"Mul", value.Mul, -1, least, most}, {"Mul", value.Mul, least, 0, 0}, {"Mul", value.Mul, least, least, most},
		{"Mul", value.Mul, 1 << 32, -1 << 31, least}, {"Mul", value.Mul, 1 << 32, 1 << 31, most}, {"Mul", value.Mul, 1 << 32, 1 << 32, most}, {"Mul", value.Mul, most, -1, -most},
	} {
		if got := c.of(c.a, c.b); got != c.got {
			t.Errorf("P202: %s(%d, %d): %d, not %d", c.name, c.a, c.b, got, c.got)
		}
	}
}

func TestP202DivAndMod(t *testing.T) {
	const most, least = math.MaxInt64, math.MinInt64
	for _, c := range []struct{ a, b, div, mod int64 }{
		{7, 2, 3, 1}, {-7, 2, -3, -1}, {7, -2, -3, 1}, {-7, -2, 3, -1},
		{1, 2, 0, 1}, {-1, 2, 0, -1}, {1, -2, 0, 1}, {6, 3, 2, 0}, {-6, 3, -2, 0}, {0, 5, 0, 0}, {0, -5, 0, 0},
		{least, -1, most, 0}, {least, 1, least, 0}, {most, -1, -most, 0}, {least, least, 1, 0}, {most, least, 0, most}, {least, most, -1, -1}, {least, 2, least / 2, 0},
	} {
		div, ok := value.Div(c.a, c.b)
		mod, is := value.Mod(c.a, c.b)
		if div != c.div || !ok || mod != c.mod || !is {
			t.Errorf("P202: %d by %d: %d, %v; %d, %v", c.a, c.b, div, ok, mod, is)
		}
	}
}

func TestP202ByNought(t *testing.T) {
	for _, a := range edges() {
		if got, ok := value.Div(a, 0); got != 0 || ok {
			t.Errorf("P202, P4: Div(%d, 0): %d, %v", a, got, ok)
		}
		if got, ok := value.Mod(a, 0); got != 0 || ok {
			t.Errorf("P202, P4: Mod(%d, 0): %d, %v", a, got, ok)
		}
	}
}
