package mid_test

import (
	"fmt"
	"math"
	"math/big"
	"testing"

	"bloomery/api"
	"bloomery/mid"
)

// reckoned is what a mark comes to of two numbers, at any length, and cut to 64 bits then; nil: by 0.
func reckoned(op string, a, b int64) *big.Int {
	x, y, n := big.NewInt(a), big.NewInt(b), new(big.Int)
	truth := func(is bool) *big.Int {
		if is {
			n.SetInt64(1)
		}
		return n
	}
	switch op {
	case "+":
		n.Add(x, y)
	case "-":
		n.Sub(x, y)
	case "*":
		n.Mul(x, y)
	case "/", "%":
		if y.Sign() == 0 {
			return nil
		}
		rest := new(big.Int)
		n.QuoRem(x, y, rest)
		if op == "%" {
			n = rest
		}
	case "==":
		return truth(x.Cmp(y) == 0)
	case "!=":
		return truth(x.Cmp(y) != 0)
	case "<":
		return truth(x.Cmp(y) < 0)
	case "<=":
		return truth(x.Cmp(y) <= 0)
	case ">":
		return truth(x.Cmp(y) > 0)
	case ">=":
		return truth(x.Cmp(y) >= 0)
	}
	return wrap(n)
}

// wrap cuts a number to 64 bits.
func wrap(n *big.Int) *big.Int {
	all := new(big.Int).Lsh(big.NewInt(1), 64)
	n.Mod(n, all)
	if n.Bit(63) == 1 {
		n.Sub(n, all)
	}
	return n
}

// ops are those of 7.1.
var ops = []string{"+", "-", "*", "/", "%", "==", "!=", "<", "<=", ">", ">="}

// 7.2: Two: Both, which is 6.2 of Op; way Zero: by 0, it ends so.
func TestBoth(t *testing.T) {
	numbers := []int64{0, 1, -1, 2, -2, 3, -3, 7, -7, 10, 40, 1 << 31, -1 << 31, 1<<32 + 1, 3037000500, -3037000500, math.MaxInt64, math.MaxInt64 - 1, math.MinInt64, math.MinInt64 + 1}
	for _, op := range ops {
		for _, a := range numbers {
			for _, b := range numbers {
				want, way := int64(0), api.Zero
				if n := reckoned(op, a, b); n != nil {
					want, way = n.Int64(), 0
				}
				if n, w := mid.Both(op, a, b); n != want || w != way {
					t.Errorf("Both(%s, %d, %d) is %d, %d; %d, %d is asked", op, a, b, n, w, want, way)
				}
				end := fmt.Sprint("Done ", want, " [1]")
				if way == api.Zero {
					end = "Zero 0 [1]"
				}
				ends(t, fmt.Sprint(a, op, b), program(steps(num(z, 1), show(z), num(x, a), num(y, b), two(z, x, op, y), ret(z))), end)
			}
		}
	}
}

// 7.2: what stands in the chapter, as it stands there.
func TestBothByHand(t *testing.T) {
	for _, k := range []struct {
		op     string
		a, b   int64
		n      int64
		wayNum int
	}{
		{"/", math.MinInt64, -1, math.MinInt64, 0},
		{"%", math.MinInt64, -1, 0, 0},
		{"/", 5, 0, 0, api.Zero},
		{"%", 5, 0, 0, api.Zero},
		{"/", 0, 0, 0, api.Zero},
		{"%", math.MinInt64, 0, 0, api.Zero},
		{"/", -7, 2, -3, 0},
		{"%", -7, 2, -1, 0},
		{"/", 7, -2, -3, 0},
		{"%", 7, -2, 1, 0},
		{"+", math.MaxInt64, 1, math.MinInt64, 0},
		{"-", math.MinInt64, 1, math.MaxInt64, 0},
		{"-", 0, math.MinInt64, math.MinInt64, 0},
		{"*", math.MinInt64, -1, math.MinInt64, 0},
		{"*", 1 << 32, 1 << 32, 0, 0},
		{"<", math.MinInt64, math.MaxInt64, 1, 0},
		{">", math.MinInt64, math.MaxInt64, 0, 0},
	} {
		if n, w := mid.Both(k.op, k.a, k.b); n != k.n || w != k.wayNum {
			t.Errorf("Both(%s, %d, %d) is %d, %d; %d, %d is asked", k.op, k.a, k.b, n, w, k.n, k.wayNum)
		}
	}
}

// 7.2: of no such Op 0 and 0.
func TestBothOfNone(t *testing.T) {
	for _, op := range []string{"", "x", "&&", "||", "!", "=", "===", "=<", "+ ", " /", "//", "/0", "<<", "\xff", "＋"} {
		for _, a := range []int64{0, 1, -5, math.MinInt64} {
			for _, b := range []int64{0, 1, -5, math.MaxInt64} {
				if n, w := mid.Both(op, a, b); n != 0 || w != 0 {
					t.Errorf("Both(%q, %d, %d) is %d, %d", op, a, b, n, w)
				}
			}
		}
	}
}
