package run_test

import (
	"fmt"
	"testing"

	"bloomery/api"
)

// 6.1: main is called; what it tells is the Code, the Way Done.
func TestMainIsCalled(t *testing.T) {
	for _, c := range []struct{ text, want string }{
		{"fn main() { }", "Done 0 []"},
		{"fn main() { return 7; }", "Done 7 []"},
		{"fn main() { return -7; }", "Done -7 []"},
		{"fn main() { print 1; print 2; }", "Done 0 [1 2]"},
		{"fn main() { print 1; return 3; print 2; }", "Done 3 [1]"},
		// It is main that is called, wherever it stands, and no other one.
		{"fn f() { print 1; return 1; } fn main() { print 2; return 2; } fn g() { print 3; return 3; }", "Done 2 [2]"},
		{"fn main() { return f() * 10; } fn f() { return g() + 1; } fn g() { return 4; }", "Done 50 []"},
		{"fn g() { return 4; } fn f() { return g() + 1; } fn main() { return f() * 10; }", "Done 50 []"},
	} {
		ends(t, c.text, c.want)
	}
	// It may call itself.
	ends(t, "fn main() { var x = input(); if (x) { print x; return main() + x; } }", "Done 9 [2 3 4]", 2, 3, 4)
}

// 6.1: Var, Set: Name is Value.
func TestVarSet(t *testing.T) {
	for _, c := range []struct{ text, want string }{
		{"var x = 3; return x;", "Done 3 []"},
		{"var x = 3; x = 4; return x;", "Done 4 []"},
		{"var x = 3; var y = x; x = 4; return x * 10 + y;", "Done 43 []"},
		{"var x = 3; x = x + x; x = x * x; return x;", "Done 36 []"},
		{"var x = 1; var y = 2; var z = x; x = y; y = z; return x * 10 + y;", "Done 21 []"},
		{"var v = new(1); var w = new(2); v = w; return len(v);", "Done 2 []"},
		// In a block, and behind it.
		{"var x = 1; if (x) { x = 2; var y = 5; x = x + y; } return x;", "Done 7 []"},
		{"if (1) { var y = 5; } var y = 6; return y;", "Done 6 []"},
		{"if (1) { var y = 5; } var y = new(3); return len(y);", "Done 3 []"},
		{"if (1) { var y = new(3); } var y = 4; return y;", "Done 4 []"},
		{"if (0) { var y = new(3); } else { var y = 4; print y; } var y = new(1); var z = y; return len(z);", "Done 1 [4]"},
		{"var i = 0; while (i < 3) { var y = i * i; y = y + 1; i = i + 1; print y; }", "Done 0 [1 2 5]"},
		{"var i = 0; while (i < 3) { var v = new(2); print v[0]; v[0] = 9; i = i + 1; }", "Done 0 [0 0 0]"},
		{"var i = 0; while (i < 4) { if (i % 2) { var y = i; print y; } else { var y = new(i); print len(y); } i = i + 1; }", "Done 0 [0 1 2 3]"},
	} {
		ends(t, inMain(c.text), c.want)
	}
}

// 6.1: who has an array, has it, and not another one alike.
func TestArrays(t *testing.T) {
	const put = " fn put(a: arr, i: int, n: int) { a[i] = n; } "
	for _, c := range []struct{ text, want string }{
		{inMain("var v = new(2); var w = v; w[0] = 5; return v[0];"), "Done 5 []"},
		{inMain("var v = new(2); var w = v; v[1] = 5; return w[1];"), "Done 5 []"},
		{inMain("var v = new(2); var w = new(2); w[0] = 5; return v[0];"), "Done 0 []"},
		{inMain("var v = new(2); var w = v; v = new(2); v[0] = 5; return w[0];"), "Done 0 []"},
		{inMain("var v = new(2); var w = new(2); w = v; w[0] = 5; return v[0];"), "Done 5 []"},
		{inMain("var v = new(1); var w = v; var u = w; v = new(1); v[0] = 1; w[0] = 2; print v[0]; print w[0]; print u[0];"), "Done 0 [1 2 2]"},
		{inMain("var v = new(1); if (1) { var w = v; w[0] = 6; } return v[0];"), "Done 6 []"},
		// Handed on, and written into.
		{inMain("var v = new(2); put(v, 1, 5); return v[1];") + put, "Done 5 []"},
		{inMain("var v = new(2); var w = v; put(w, 1, 5); return v[1];") + put, "Done 5 []"},
		{inMain("var v = new(2); var w = new(2); put(w, 1, 5); return v[1];") + put, "Done 0 []"},
		{inMain("var v = new(2); f(v); return v[0];") + put + "fn f(v: arr) { put(v, 0, 8); v[0] = v[0] + 1; }", "Done 9 []"},
		{inMain("var v = new(2); return f(v, v);") + "fn f(v: arr, w: arr) { v[0] = 3; return w[0]; }", "Done 3 []"},
		{inMain("return f(new(2), new(2));") + "fn f(v: arr, w: arr) { v[0] = 3; return w[0]; }", "Done 0 []"},
		// Another one in the callee is none of the caller's.
		{inMain("var v = new(2); f(v); print len(v); return v[0];") + "fn f(v: arr) { v[0] = 1; v = new(3); v[0] = 2; }", "Done 1 [2]"},
		// A New that is reckoned again is one more.
		{inMain("var i = 0; var v = new(1); while (i < 2) { var w = new(1); w[0] = w[0] + 1; print w[0]; if (i == 0) { v = w; } i = i + 1; } return v[0];"), "Done 1 [1 1]"},
		// A number is no array: whoever has one, has a number of its own.
		{inMain("var x = 1; f(x); return x;") + "fn f(x: int) { x = 2; }", "Done 1 []"},
	} {
		ends(t, c.text, c.want)
	}
}

// 6.1: Put: that number of the array is Value, if there is one.
func TestPut(t *testing.T) {
	for _, c := range []struct{ text, want string }{
		{"var v = new(3); v[0] = 4; v[1] = 5; v[2] = 6; print v[0]; print v[1]; print v[2];", "Done 0 [4 5 6]"},
		{"var v = new(3); v[1] = 5; print v[0]; print v[1]; print v[2];", "Done 0 [0 5 0]"},
		{"var v = new(3); v[1] = 5; v[1] = v[1] * 2; return v[1];", "Done 10 []"},
		{"var v = new(3); v[v[0] + 2] = 7; return v[2];", "Done 7 []"},
		{"var v = new(40); v[39] = 7; return v[39];", "Done 7 []"},
		{"var v = new(3); print 1; v[3] = 7; print 2;", "Bounds 0 [1]"},
		{"var v = new(3); print 1; v[-1] = 7; print 2;", "Bounds 0 [1]"},
		{"var v = new(40); v[40] = 7;", "Bounds 0 []"},
		{"var v = new(0); v[0] = 7;", "Bounds 0 []"},
		{"var v = new(3); v[9223372036854775807] = 7;", "Bounds 0 []"},
		{"var v = new(3); v[9223372036854775807 + 1] = 7;", "Bounds 0 []"},
		{"var v = new(3); v[4294967296] = 7;", "Bounds 0 []"},
	} {
		ends(t, inMain(c.text), c.want)
	}
}

// 6.1: If: what is not 0 chooses Then, 0 chooses Else.
func TestIf(t *testing.T) {
	for _, c := range []struct{ value, want string }{
		{"1", "Done 0 [1 3]"}, {"2", "Done 0 [1 3]"}, {"-1", "Done 0 [1 3]"}, {"9223372036854775807 + 1", "Done 0 [1 3]"}, {"4294967296", "Done 0 [1 3]"},
		{"0", "Done 0 [2 3]"}, {"-0", "Done 0 [2 3]"}, {"1 - 1", "Done 0 [2 3]"},
	} {
		ends(t, inMain("if ("+c.value+") { print 1; } else { print 2; } print 3;"), c.want)
	}
	ends(t, inMain("if (1) { print 1; } print 3;"), "Done 0 [1 3]")
	ends(t, inMain("if (0) { print 1; } print 3;"), "Done 0 [3]")
	ends(t, inMain("if (1) { } else { print 2; } if (0) { print 1; } else { } print 3;"), "Done 0 [3]")
	ends(t, inMain("if (1) { if (0) { print 1; } else { print 2; } } else { print 4; } print 3;"), "Done 0 [2 3]")
	// Value is reckoned once.
	ends(t, inMain("if (input()) { print input(); } else { print 9; } print input();"), "Done 0 [5 6]", 4, 5, 6)
}

// 6.1: While: round by round, as long as Value is not 0.
func TestWhile(t *testing.T) {
	const down = "var x = input(); while (x) { print x; x = x - 1; } return x - 5;"
	ends(t, inMain(down), "Done -5 []", 0)
	ends(t, inMain(down), "Done -5 [1]", 1)
	ends(t, inMain(down), "Done -5 [4 3 2 1]", 4)
	ends(t, inMain("var x = -3; while (x) { print x; x = x + 1; }"), "Done 0 [-3 -2 -1]")
	ends(t, inMain("while (input()) { print 7; } print input();"), "Done 0 [7 7 7 5]", 1, -2, 3, 0, 5)
	ends(t, inMain("while (0) { print 1; } while (1 - 1) { } print 2;"), "Done 0 [2]")
	ends(t, inMain("var i = 0; while (i < 3) { var j = 0; while (j < i) { print i * 10 + j; j = j + 1; } i = i + 1; }"), "Done 0 [10 20 21]")
	ends(t, inMain("while (1) { }"), "Fuel 0 []")
	ends(t, inMain("var x = 2; while (6 / x) { print x; x = x - 1; }"), "Zero 0 [2 1]")
}

// 6.1: Return: the call that it stands in ends there, from whichever block, and no other one.
func TestReturn(t *testing.T) {
	for _, c := range []struct{ text, want string }{
		{inMain("while (1) { return 4; }"), "Done 4 []"},
		{inMain("var i = 0; while (1) { i = i + 1; if (i == 3) { return i; } print i; } print 9;"), "Done 3 [1 2]"},
		{inMain("var i = 0; while (1) { while (1) { if (1) { if (0) { } else { return 8; } } } }"), "Done 8 []"},
		{inMain("if (1) { return 1; } else { return 2; } return 3;"), "Done 1 []"},
		{inMain("if (0) { return 1; } else { return 2; } return 3;"), "Done 2 []"},
		{inMain("print f(5); print f(0); print 3;") + "fn f(x: int) { while (x) { x = x - 1; if (x == 2) { return 7; } } print 6; }", "Done 0 [7 6 0 3]"},
		{inMain("while (1) { f(); print 2; return 3; }") + "fn f() { while (1) { print 1; return 9; } }", "Done 3 [1 2]"},
		{inMain("return f() + f();") + "fn f() { return g() * 2; } fn g() { return 5; print 1; }", "Done 20 []"},
		{inReturn("-9223372036854775807 - 1"), "Done -9223372036854775808 []"},
	} {
		ends(t, c.text, c.want)
	}
}

// 6.1: a call: Args from the left are its parameters; it tells what Return says, or 0.
func TestCall(t *testing.T) {
	const show = " fn show(x: int) { print x; return x; } "
	for _, c := range []struct{ text, want string }{
		{inReturn("f(1, 2, 3)") + "fn f(a: int, b: int, c: int) { return a * 100 + b * 10 + c; }", "Done 123 []"},
		{inReturn("f(new(3), 2, new(4))") + "fn f(a: arr, b: int, c: arr) { return len(a) * 100 + b * 10 + len(c); }", "Done 324 []"},
		{inReturn("f(input(), input()) - input()") + "fn f(a: int, b: int) { return a * 10 + b; }", "Done 43 []"},
		{inReturn("f(show(1), show(2) + show(3), show(4))") + show + "fn f(a: int, b: int, c: int) { print 9; return a * 100 + b * 10 + c; }", "Done 154 [1 2 3 4 9]"},
		{inReturn("f(f(f(2, 1), 1), f(1, 1))") + "fn f(a: int, b: int) { print a; return a + b; }", "Done 6 [2 3 1 4]"},
		// Without Return it tells 0.
		{inReturn("f(5) + 1") + "fn f(a: int) { }", "Done 1 []"},
		{inReturn("f(5) + 1") + "fn f(a: int) { a = a + 1; print a; }", "Done 1 [6]"},
		{inReturn("f(5) + 1") + "fn f(a: int) { if (a == 4) { return 9; } }", "Done 1 []"},
		{inReturn("f(5) + 1") + "fn f(a: int) { g(); } fn g() { return 7; }", "Done 1 []"},
		// Do: the call, whatever it tells.
		{inMain("f(5); print 1; g();") + "fn f(a: int) { print a; return 8; } fn g() { print 2; }", "Done 0 [5 1 2]"},
		{inMain("show(show(3));") + show, "Done 0 [3 3]"},
		// A caller's names are its own, those of its other calls, too.
		{inMain("var x = 1; var y = 2; f(3); return x * 10 + y;") + "fn f(y: int) { var x = y + 1; y = 9; }", "Done 12 []"},
		{inReturn("f(3)") + "fn f(n: int) { if (n == 0) { return 0; } var m = n * n; return f(n - 1) + m; }", "Done 14 []"},
		{inReturn("f(4)") + "fn f(n: int) { var own = n; if (n) { f(n - 1); } print own; return own; }", "Done 4 [0 1 2 3 4]"},
		// Names of functions and of variables are not in each other's way.
		{"fn main() { var main = 1; var g = 2; return g(g) + main; } fn g(g: int) { return g * 10; }", "Done 21 []"},
		// One by the other.
		{inReturn("even(7) * 10 + even(8)") + "fn even(n: int) { if (n == 0) { return 1; } return odd(n - 1); } fn odd(n: int) { if (n == 0) { return 0; } return even(n - 1); }", "Done 1 []"},
	} {
		ends(t, c.text, c.want, 7, -3, 24)
	}
}

// 6.1: Deep, if MaxCalls wait already.
func TestDeep(t *testing.T) {
	const most = api.MaxCalls
	// main, and as many of f as are told: each but the last waits.
	chain := func(n int) string {
		return inReturn(fmt.Sprintf("f(%d)", n)) + "fn f(n: int) { if (n < 2) { return 1; } return f(n - 1) + 1; }"
	}
	ends(t, chain(1), "Done 1 []")
	ends(t, chain(most-2), fmt.Sprintf("Done %d []", most-2))
	ends(t, chain(most-1), fmt.Sprintf("Done %d []", most-1))
	ends(t, chain(most), "Deep 0 []")
	ends(t, chain(most+1), "Deep 0 []")
	ends(t, chain(1<<40), "Deep 0 []")
	ends(t, inReturn("main()"), "Deep 0 []")
	ends(t, inReturn("f()")+"fn f() { g(); } fn g() { main(); }", "Deep 0 []")
	// What was told ahead is told; each call tells one number, but the one that is not.
	ends(t, "fn main() { print 1; main(); print 2; }", "Deep 0 ["+ones(most)+"]")
	// The functions that wait may be different ones.
	both := "fn f(n: int) { if (n < 2) { return 1; } return g(n - 1) + 1; } fn g(n: int) { if (n < 2) { return 1; } while (1) { if (1) { return f(n - 1) + 1; } } }"
	ends(t, inReturn(fmt.Sprintf("f(%d)", most-1))+both, fmt.Sprintf("Done %d []", most-1))
	ends(t, inReturn(fmt.Sprintf("f(%d)", most))+both, "Deep 0 []")
	// One without a statement is a call like the others.
	last := "fn f(n: int) { if (n < 2) { none(); return 1; } return f(n - 1) + 1; } fn none() { }"
	ends(t, inReturn(fmt.Sprintf("f(%d)", most-2))+last, fmt.Sprintf("Done %d []", most-2))
	ends(t, inReturn(fmt.Sprintf("f(%d)", most-1))+last, "Deep 0 []")
}

// ones is so many 1 with blanks between.
func ones(n int) string {
	s := fmt.Sprint(make([]int, n))
	b := []byte(s[1 : len(s)-1])
	for i := 0; i < len(b); i += 2 {
		b[i] = '1'
	}
	return string(b)
}

// 6.1: calls that have ended do not wait, however they ended; nor do those that are Args of one another.
func TestNotDeep(t *testing.T) {
	const most = api.MaxCalls
	ends(t, inMain("var i = 0; while (i < 1000) { none(); i = i + one(); } return i;")+"fn none() { } fn one() { while (1) { if (1) { return 1; } } }", "Done 1000 []")
	ends(t, inMain(fmt.Sprintf("f(%d); f(%d); return f(%d) + f(%d);", most-1, most-1, most-1, most-1))+"fn f(n: int) { if (n < 2) { return 1; } return f(n - 1) + 1; }", fmt.Sprintf("Done %d []", 2*(most-1)))
	s := "0"
	for range api.MaxDepth {
		s = "f(" + s + ")"
	}
	for range 3 {
		s += " + " + s
	}
	ends(t, inReturn(s)+"fn f(n: int) { return n + 1; }", fmt.Sprintf("Done %d []", 8*api.MaxDepth))
	// At the deepest, one by one.
	ends(t, inReturn(fmt.Sprintf("f(%d)", most-2))+"fn f(n: int) { if (n < 2) { return g(g(g(0))) + g(0); } return f(n - 1); } fn g(n: int) { return n + 1; }", "Done 4 []")
}

// 6.1: Print: Value is told; Full, if MaxPrint were.
func TestPrint(t *testing.T) {
	count := func(n int) string { return fmt.Sprintf("var i = 0; while (i < %d) { print 1; i = i + 1; } ", n) }
	ends(t, inMain("print 3; print -3; print 0; print 9223372036854775807; print -9223372036854775807 - 1; return 1;"), "Done 1 [3 -3 0 9223372036854775807 -9223372036854775808]")
	ends(t, inMain(count(api.MaxPrint-1)+"return 5;"), "Done 5 ["+ones(api.MaxPrint-1)+"]")
	ends(t, inMain(count(api.MaxPrint)+"return 5;"), "Done 5 ["+ones(api.MaxPrint)+"]")
	ends(t, inMain(count(api.MaxPrint+1)+"return 5;"), "Full 0 ["+ones(api.MaxPrint)+"]")
	ends(t, inMain(count(api.MaxPrint)+"print 2; print 3;"), "Full 0 ["+ones(api.MaxPrint)+"]")
	ends(t, inMain("while (1) { print 1; }"), "Full 0 ["+ones(api.MaxPrint)+"]")
	// Those of all calls are counted.
	ends(t, inMain("while (1) { one(); print 1; }")+"fn one() { print 1; }", "Full 0 ["+ones(api.MaxPrint)+"]")
	// Value is reckoned ahead.
	ends(t, inMain(count(api.MaxPrint)+"print 1 / 0;"), "Zero 0 ["+ones(api.MaxPrint)+"]")
	ends(t, inMain(count(api.MaxPrint-1)+"print one();")+"fn one() { print 1; }", "Full 0 ["+ones(api.MaxPrint)+"]")
}

// 6.1, 6.2: each Way to end; Code is 0 but with Done; Out is all that was told ahead, in whichever call.
func TestWays(t *testing.T) {
	for _, c := range []struct{ text, way string }{
		{"1 / (x - x)", "Zero"},
		{"1 % (x - x)", "Zero"},
		{"new(2)[x]", "Bounds"},
		{"new(2)[-x]", "Bounds"},
		{"len(new(-x))", "Size"},
		{"len(new(x * 41))", "Size"},
		{"deep(x)", "Deep"},
		{"long(x)", "Fuel"},
		{"full(x)", "Full"},
	} {
		const more = "fn deep(x: int) { return deep(x); } fn long(x: int) { while (x) { } } fn full(x: int) { while (x) { print 1; } } "
		out := "[1 1]"
		if c.way == "Full" {
			out = "[" + ones(api.MaxPrint) + "]"
		}
		want := c.way + " 0 " + out
		x := "(" + c.text + ")"
		for _, s := range []string{
			"return " + x + ";", "print " + x + ";", "x = " + x + ";", "var y = " + x + ";", "v[0] = " + x + ";", "v[" + x + "] = 0;", "f(" + x + ");",
			"if " + x + " { print 1; }", "if (1) { return " + x + "; } print 1;", "if (0) { } else { return " + x + "; } print 1;",
			"while " + x + " { }", "while (1) { return " + x + "; }",
			"return -" + x + ";", "return !" + x + ";", "return 1 + " + x + ";", "return " + x + " + 1;", "return " + x + " && 0;", "return 1 && " + x + ";", "return " + x + " || 1;", "return 0 || " + x + ";",
			"return v[" + x + "];", "return len(new" + x + ");", "return f" + x + ";",
		} {
			ends(t, inMain("print 1; return g(3);")+"fn g(x: int) { var v = new(1); print 1; "+s+" return 4; } fn f(x: int) { return x; } "+more, want)
		}
	}
	ends(t, inMain("print 1; return g(3);")+"fn g(x: int) { print 1; return x; }", "Done 3 [1 1]")
}
