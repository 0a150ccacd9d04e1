package run_test

import (
	"fmt"
	"math/big"
	"math/rand"
	"strconv"
	"strings"
	"testing"

	"bloomery/api"
	"bloomery/run"
)

const (
	most  = "9223372036854775807"
	least = "(-9223372036854775807 - 1)"
)

// 6.2: Name, Num, and each other FIRST.
func TestFirst(t *testing.T) {
	for _, c := range []struct{ text, want string }{
		{"0", "Done 0 []"},
		{"007", "Done 7 []"},
		{most, "Done 9223372036854775807 []"},
		{"x", "Done 7 []"},
		{"(x)", "Done 7 []"},
		{"f()", "Done 5 []"},
		{"len(v)", "Done 3 []"},
		{"len(new(4))", "Done 4 []"},
		{"v[1]", "Done 8 []"},
		{"(v)[1]", "Done 8 []"},
		{"new(2)[1]", "Done 0 []"},
		{"v[v[2] + 1]", "Done 8 []"},
		{"input()", "Done 6 []"},
	} {
		ends(t, inMain("var x = 7; var v = new(3); v[0] = 9; v[1] = 8; return "+c.text+";")+"fn f() { return 5; }", c.want, 6)
	}
}

// 6.2: - is 0 less it, ! whether it is 0.
func TestOfOne(t *testing.T) {
	for _, c := range []struct{ text, want string }{
		{"-5", "-5"}, {"--5", "5"}, {"-0", "0"}, {"-" + most, "-9223372036854775807"}, {"-" + least, "-9223372036854775808"}, {"-" + least + " - 1", most},
		{"!0", "1"}, {"!1", "0"}, {"!5", "0"}, {"!-1", "0"}, {"!" + least, "0"}, {"!!7", "1"}, {"!!0", "0"}, {"-!0", "-1"}, {"!-0", "1"},
	} {
		ends(t, inReturn(c.text), "Done "+c.want+" []")
	}
}

// 6.2: marks of two: numbers wrap; / and % cut to the side of 0.
func TestOfTwo(t *testing.T) {
	for _, c := range []struct{ text, want string }{
		{"2 + 3", "5"}, {"2 - 3", "-1"}, {"2 * -3", "-6"},
		{most + " + 1", "-9223372036854775808"}, {least + " - 1", most}, {most + " + " + most, "-2"}, {least + " + " + least, "0"},
		{most + " * 2", "-2"}, {most + " * " + most, "1"}, {least + " * -1", "-9223372036854775808"}, {"4294967296 * 4294967296", "0"}, {"4294967296 * 2147483648", "-9223372036854775808"},
		{"7 / 2", "3"}, {"-7 / 2", "-3"}, {"7 / -2", "-3"}, {"-7 / -2", "3"}, {"1 / 2", "0"}, {"-1 / 2", "0"}, {"6 / 3", "2"}, {"-6 / 3", "-2"}, {"0 / 5", "0"}, {"0 / -5", "0"},
		{"7 % 2", "1"}, {"-7 % 2", "-1"}, {"7 % -2", "1"}, {"-7 % -2", "-1"}, {"1 % 2", "1"}, {"-1 % 2", "-1"}, {"6 % 3", "0"}, {"-6 % 3", "0"}, {"0 % 5", "0"},
		{least + " / -1", "-9223372036854775808"}, {least + " % -1", "0"}, {least + " / 1", "-9223372036854775808"}, {least + " % 1", "0"},
		{most + " / -1", "-9223372036854775807"}, {most + " % -1", "0"}, {least + " / 2", "-4611686018427387904"}, {least + " % " + most, "-1"}, {least + " / " + least, "1"}, {"1 / " + least, "0"}, {"1 % " + least, "1"},
		// From the left, and by how near they hold.
		{"7 - 2 - 1", "4"}, {"7 - (2 - 1)", "6"}, {"2 + 3 * 4", "14"}, {"24 / 4 / 3", "2"}, {"7 * 2 % 4", "2"},
	} {
		ends(t, inReturn(c.text), "Done "+c.want+" []")
	}
	for _, s := range []string{"1 / 0", "0 / 0", least + " / 0", "1 % 0", "0 % 0", least + " % 0", "5 / (3 - 3)"} {
		ends(t, inReturn(s), "Zero 0 []")
	}
}

// 6.2: == and the like are 1 or 0.
func TestCompared(t *testing.T) {
	numbers := []string{least, "-1", "0", "1", "2", most} // each less than the next one
	for i, a := range numbers {
		for k, b := range numbers {
			for _, c := range []struct {
				mark string
				is   bool
			}{{"==", i == k}, {"!=", i != k}, {"<", i < k}, {"<=", i <= k}, {">", i > k}, {">=", i >= k}} {
				want := "Done 0 []"
				if c.is {
					want = "Done 1 []"
				}
				ends(t, inReturn(a+" "+c.mark+" "+b), want)
			}
		}
	}
	ends(t, inReturn("1 < 2 < 3"), "Done 1 []")
	ends(t, inReturn("3 > 2 > 1"), "Done 0 []")
	ends(t, inReturn("5 == 5 == 5"), "Done 0 []")
}

// 6.2: && and || are 1 or 0, of whichever numbers; Right is looked at only if it must be.
func TestShort(t *testing.T) {
	for _, a := range []string{"0", "1", "2", "-1", "4294967296", least} {
		for _, b := range []string{"0", "1", "2", "-1", "4294967296", least} {
			both, one := 1, 1
			if a == "0" || b == "0" {
				both = 0
			}
			if a == "0" && b == "0" {
				one = 0
			}
			ends(t, inMain("print "+a+" && "+b+"; print "+a+" || "+b+";"), fmt.Sprintf("Done 0 [%d %d]", both, one))
		}
	}
	const show = " fn show(x: int) { print x; return x; }"
	for _, c := range []struct{ text, want string }{
		{"show(0) && show(1)", "Done 0 [0]"},
		{"show(2) && show(0)", "Done 0 [2 0]"},
		{"show(2) && show(3)", "Done 1 [2 3]"},
		{"show(2) || show(0)", "Done 1 [2]"},
		{"show(0) || show(3)", "Done 1 [0 3]"},
		{"show(0) || show(0)", "Done 0 [0 0]"},
		{"show(0) && show(1) || show(2)", "Done 1 [0 2]"},
		{"show(1) || show(2) && show(0)", "Done 1 [1]"},
		{"0 && 1 / 0", "Done 0 []"},
		{"5 || 1 / 0", "Done 1 []"},
		{"0 && new(1)[7] || 1", "Done 1 []"},
		{"7 || main()", "Done 1 []"},
		{"0 && input()", "Done 0 []"},
		{"1 && 1 / 0", "Zero 0 []"},
		{"0 || 1 / 0", "Zero 0 []"},
		{"1 / 0 && 0", "Zero 0 []"},
		{"1 / 0 || 1", "Zero 0 []"},
	} {
		ends(t, inReturn(c.text)+show, c.want)
	}
	// What is not looked at takes nothing of in.
	ends(t, inMain("print 0 && input(); print 1 || input(); print input();"), "Done 0 [0 1 6]", 6, 7)
}

// 6.2: Left, then Right, of every mark.
func TestLeftRight(t *testing.T) {
	for _, m := range []string{"==", "!=", "<", "<=", ">", ">=", "+", "-", "*", "/", "%"} {
		s := inMain("print show(1) "+m+" show(2); print input() "+m+" input();") + " fn show(x: int) { print x; return x; }"
		got := run.Run(parse(t, s), []int64{1, 2}, plenty)
		if len(got.Out) != 4 || got.Out[0] != 1 || got.Out[1] != 2 || got.Out[2] != got.Out[3] {
			t.Errorf("%s\nends %s", s, tell(got))
		}
	}
}

// 6.2: New: an array of so many 0; Size, if they are not from 0 to MaxArray.
func TestNew(t *testing.T) {
	for _, n := range []int64{0, 1, 2, api.MaxArray - 1, api.MaxArray} {
		ends(t, inMain("var v = new(input()); print len(v); var i = 0; while (i < len(v)) { if (v[i]) { return 1; } i = i + 1; } return v[len(v)];"), fmt.Sprintf("Bounds 0 [%d]", n), n)
	}
	for _, n := range []int64{-1, -2, api.MaxArray + 1, 1 << 31, 1 << 32, 1<<32 + 1, 1<<63 - 1, -1 << 63} {
		ends(t, inMain("print 1; var v = new(input()); print 2;"), "Size 0 [1]", n)
	}
}

// 6.2: Item: a number of an array; Bounds, if it has none such.
func TestItem(t *testing.T) {
	for _, c := range []struct {
		size, at int64
		want     string
	}{
		{1, 0, "Done 100 []"}, {3, 0, "Done 100 []"}, {3, 1, "Done 101 []"}, {3, 2, "Done 102 []"}, {api.MaxArray, api.MaxArray - 1, "Done 139 []"},
		{3, 3, "Bounds 0 []"}, {3, -1, "Bounds 0 []"}, {3, 4, "Bounds 0 []"}, {0, 0, "Bounds 0 []"}, {0, -1, "Bounds 0 []"}, {api.MaxArray, api.MaxArray, "Bounds 0 []"},
		{3, 1 << 32, "Bounds 0 []"}, {3, 1<<63 - 1, "Bounds 0 []"}, {3, -1 << 63, "Bounds 0 []"}, {3, -3, "Bounds 0 []"},
	} {
		ends(t, inMain("var v = new(input()); var i = 0; while (i < len(v)) { v[i] = 100 + i; i = i + 1; } return v[input()];"), c.want, c.size, c.at)
	}
}

// 6.2: Input: the next of in; 0, if none is left.
func TestInput(t *testing.T) {
	const three = "print input(); print input(); print input();"
	ends(t, inMain(three), "Done 0 [0 0 0]")
	ends(t, inMain(three), "Done 0 [5 0 0]", 5)
	ends(t, inMain(three), "Done 0 [5 -6 0]", 5, -6)
	ends(t, inMain(three), "Done 0 [0 -9223372036854775808 9223372036854775807]", 0, -1<<63, 1<<63-1, 4)
	// All calls take of the same.
	ends(t, inMain("print input(); f(); print input();")+"fn f() { print input() * 10; }", "Done 0 [1 20 3]", 1, 2, 3)
}

// sum is an expression as a text, and what it comes to; nil: it divides by 0.
type sum struct {
	text string
	n    *big.Int
}

// wrap is a number of 64 bits.
func wrap(n *big.Int) *big.Int {
	low := new(big.Int).And(n, new(big.Int).SetUint64(1<<64-1))
	return big.NewInt(int64(low.Uint64()))
}

// drawSum is an expression, so deep, and what it comes to, reckoned in numbers that never wrap by themselves.
func drawSum(d *rand.Rand, deep int) sum {
	if deep == 0 {
		n := []int64{0, 1, 2, 3, 7, 10, 1 << 32, 1<<63 - 1, 1<<63 - 2, d.Int63(), d.Int63n(100)}[d.Intn(11)]
		return sum{strconv.FormatInt(n, 10), big.NewInt(n)}
	}
	a, b := drawSum(d, deep-1), drawSum(d, d.Intn(deep))
	if d.Intn(2) == 0 {
		a, b = b, a
	}
	if d.Intn(4) == 0 {
		if a.n == nil {
			return sum{"-(" + a.text + ")", nil}
		}
		return sum{"-(" + a.text + ")", wrap(new(big.Int).Neg(a.n))}
	}
	m := []string{"==", "!=", "<", "<=", ">", ">=", "+", "-", "*", "/", "%", "+", "-", "*", "/", "%"}[d.Intn(16)]
	return sum{"(" + a.text + ") " + m + " (" + b.text + ")", reckoned(m, a.n, b.n)}
}

// reckoned is what a mark makes of two numbers.
func reckoned(m string, a, b *big.Int) *big.Int {
	if a == nil || b == nil || strings.Contains("/%", m) && b.Sign() == 0 {
		return nil
	}
	n := new(big.Int)
	switch m {
	case "+":
		return wrap(n.Add(a, b))
	case "-":
		return wrap(n.Sub(a, b))
	case "*":
		return wrap(n.Mul(a, b))
	case "/":
		return wrap(n.Quo(a, b))
	case "%":
		return wrap(n.Rem(a, b))
	}
	k := a.Cmp(b)
	if m == "==" && k == 0 || m == "!=" && k != 0 || m[0] == '<' && k < 0 || m[0] == '>' && k > 0 || m == "<=" && k == 0 || m == ">=" && k == 0 {
		return big.NewInt(1)
	}
	return n
}

// 6.2: drawn expressions come to what they are.
func TestDrawnSums(t *testing.T) {
	d := rand.New(rand.NewSource(6))
	zero := 0
	for range 5000 {
		s := drawSum(d, 1+d.Intn(4))
		want := "Zero 0 []"
		if s.n != nil {
			want = "Done " + s.n.String() + " []"
		} else {
			zero++
		}
		ends(t, inReturn(s.text), want)
	}
	if zero < 100 || zero > 2500 {
		t.Errorf("%d of them divide by 0", zero)
	}
}
