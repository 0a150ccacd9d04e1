package run_test

import (
	"fmt"
	"testing"

	"bloomery/api"
	"bloomery/run"
)

// 6.1: a statement costs one, of whichever kind; what is reckoned in it, and a call, costs nothing.
func TestCostOfStatement(t *testing.T) {
	for _, s := range []string{
		"var x = 1;", "var w = new(3);", "y = 1;", "v = new(3);", "v[0] = 1;", "return 0;", "none();",
		"if (1) { }", "if (0) { }", "if (0) { } else { }", "while (0) { }",
		"y = -!-1 + (2 * 3 - 4) / 5 % 6 * (7 < 8) && 9 || 10;",
		"v[0] = v[0] + len(v) + input() + new(2)[1];",
		"y = none() + none() + none();",
		"two(none(), v);",
		"two(two(1, v), new(two(2, v) + 1));",
		"if (none() == 0) { } else { }", "while (none()) { }", "v[none()] = none();",
	} {
		costs(t, inMain("var y = 0; var v = new(3); "+s)+" fn none() { } fn two(a: int, b: arr) { }", 3, "Done 0 []")
	}
	costs(t, inMain("print 1;"), 1, "Done 0 [1]")
	costs(t, inMain("print 1; print 2; print 3;"), 3, "Done 0 [1 2 3]")
	costs(t, inMain(""), 0, "Done 0 []")
}

// 6.1: those in a block cost like others, those that are not done nothing.
func TestCostOfBlock(t *testing.T) {
	for _, c := range []struct {
		text string
		cost int
		want string
	}{
		{"if (1) { print 1; print 2; }", 3, "Done 0 [1 2]"},
		{"if (1) { print 1; print 2; } else { print 3; }", 3, "Done 0 [1 2]"},
		{"if (0) { print 1; print 2; } else { print 3; }", 2, "Done 0 [3]"},
		{"if (1) { if (1) { if (0) { print 1; } else { print 2; } } }", 4, "Done 0 [2]"},
		{"return 5; print 1; print 2;", 1, "Done 5 []"},
		{"if (1) { print 1; return 5; print 2; } print 3;", 3, "Done 5 [1]"},
		{"var x = 0 && f(); x = 1 || f();", 2, "Done 0 []"},
		{"f(); return f();", 6, "Done 8 [7 7]"},
		{"return f() + g(f());", 7, "Done 17 [7 7 8]"},
	} {
		costs(t, inMain(c.text)+"fn f() { print 7; return 8; } fn g(x: int) { print x; return x + 1; }", c.cost, c.want)
	}
}

// 6.1: a round of While costs one more, at its end.
func TestCostOfWhile(t *testing.T) {
	for n := range 5 {
		out := "[]"
		if n > 0 {
			out = "[" + ones(n) + "]"
		}
		// var, while; a round: two statements, and its end.
		costs(t, inMain("var i = input(); while (i) { print 1; i = i - 1; }"), 2+3*n, "Done 0 "+out, int64(n))
		// A round without statements.
		in := make([]int64, n)
		for i := range in {
			in[i] = 1
		}
		costs(t, inMain("while (input()) { }"), 1+n, "Done 0 []", in...)
	}
	// A round that Return leaves does not come to its end.
	costs(t, inMain("while (1) { return 5; }"), 2, "Done 5 []")
	costs(t, inMain("while (1) { while (1) { if (1) { return 5; } } }"), 4, "Done 5 []")
	costs(t, inMain("var i = 0; while (1) { i = i + 1; if (i == 3) { return i; } }"), 11, "Done 3 []")
	// Nor does one that ends the program; it does come to its end ahead of the next Value.
	costs(t, inMain("while (1) { print 1; print 1 / 0; }"), 3, "Zero 0 [1]")
	costs(t, inMain("var x = 1; while (1 / x) { x = 0; }"), 4, "Zero 0 []")
	// One in another.
	costs(t, inMain("var i = 0; while (i < 2) { var j = 0; while (j < 3) { j = j + 1; } i = i + 1; }"), 2+2*(3+3*2+1), "Done 0 []")
}

// 6.1: it is paid ahead of all else in the statement, and at the end of a round behind all in it.
func TestPaidAhead(t *testing.T) {
	for _, s := range []string{"print show(2);", "x = show(2);", "var y = show(2);", "v[show(2)] = show(3);", "show(2);", "return show(2);", "if (show(2)) { }", "while (show(2)) { }", "x = 1 / 0;", "v[9] = 0;", "v = new(99);"} {
		l := parse(t, inMain("var x = 1; var v = new(1); print 1; "+s)+"fn show(x: int) { print x; return x; }")
		if got := tell(run.Run(l, nil, 3)); got != "Fuel 0 [1]" {
			t.Errorf("%s with no fuel left: %s", s, got)
		}
	}
	// With no fuel left a round's statements are done, and the next Value is not reckoned.
	l := parse(t, inMain("while (show()) { print 2; }")+"fn show() { if (1) { print 1; } return 1; }")
	for fuel, want := range []string{"Fuel 0 []", "Fuel 0 []", "Fuel 0 []", "Fuel 0 [1]", "Fuel 0 [1]", "Fuel 0 [1 2]", "Fuel 0 [1 2]", "Fuel 0 [1 2]", "Fuel 0 [1 2 1]"} {
		if got := tell(run.Run(l, nil, fuel)); got != want {
			t.Errorf("rounds with fuel %d: %s; %s is asked", fuel, got, want)
		}
	}
}

// 6.1: each other Way costs what was done ahead of it, and no more.
func TestCostOfWays(t *testing.T) {
	costs(t, inMain("print 1; print 1 / 0; print 2;"), 2, "Zero 0 [1]")
	costs(t, inMain("print 1; print 1 % 0; print 2;"), 2, "Zero 0 [1]")
	costs(t, inMain("var v = new(1); print v[1]; print 2;"), 2, "Bounds 0 []")
	costs(t, inMain("var v = new(1); v[1] = 3; print 2;"), 2, "Bounds 0 []")
	costs(t, inMain("var v = new(41); print 2;"), 1, "Size 0 []")
	// A call that is Deep costs nothing.
	costs(t, inReturn("main()"), api.MaxCalls, "Deep 0 []")
	costs(t, inMain("print 1; main();"), 2*api.MaxCalls, "Deep 0 ["+ones(api.MaxCalls)+"]")
	// while; each round two, and behind the last one the statement that tells too much.
	costs(t, inMain("while (1) { print 1; }"), 1+2*api.MaxPrint+1, "Full 0 ["+ones(api.MaxPrint)+"]")
}

// 6.1: with fuel of 0, or below, no statement is done.
func TestNoFuel(t *testing.T) {
	for _, fuel := range []int{0, -1, -2, -1 << 31, -1 << 63} {
		for _, s := range []string{"print 1;", "return 3;", "while (0) { }", "f();", "var x = 1 / 0;"} {
			if got := tell(run.Run(parse(t, inMain(s)+"fn f() { }"), nil, fuel)); got != "Fuel 0 []" {
				t.Errorf("%s with fuel %d: %s", s, fuel, got)
			}
		}
		if got := tell(run.Run(parse(t, inMain("")), nil, fuel)); got != "Done 0 []" {
			t.Errorf("nothing, with fuel %d: %s", fuel, got)
		}
	}
}

// 6.1: what comes first where several things are wrong.
func TestOrder(t *testing.T) {
	const most = api.MaxCalls
	for _, c := range []struct{ text, want string }{
		// Put: Index, Value, then the array.
		{"v[1 / 0] = new(1)[1];", "Zero 0 []"},
		{"v[new(1)[1]] = 1 / 0;", "Bounds 0 []"},
		{"v[9] = 1 / 0;", "Zero 0 []"},
		{"v[-1] = len(new(99));", "Size 0 []"},
		{"v[show(1)] = show(2); print v[1];", "Done 0 [1 2 2]"},
		{"v[show(9)] = show(2);", "Bounds 0 [9 2]"},
		{"v[input()] = input(); print v[1];", "Done 0 [5]"},
		{"v[change(v)] = v[0]; print v[0]; print v[1];", "Done 0 [3 3]"},
		// Item: Left, then Right, then the number.
		{"print new(99)[1 / 0];", "Size 0 []"},
		{"print new(1)[1 / 0];", "Zero 0 []"},
		{"print v[new(9)[9]];", "Bounds 0 []"},
		{"print new(show(2))[show(1)];", "Done 0 [2 1 0]"},
		{"print new(show(2))[show(3)];", "Bounds 0 [2 3]"},
		{"print v[change(v)]; print v[change(v) - 1];", "Done 0 [0 3]"},
		// Bin: Left, then Right, then the mark.
		{"print 1 / 0 + new(99)[0];", "Zero 0 []"},
		{"print new(99)[0] + 1 / 0;", "Size 0 []"},
		{"print 1 / (0 * show(4));", "Zero 0 [4]"},
		{"print show(3) / show(0);", "Zero 0 [3 0]"},
		{"print new(1)[1] / 0;", "Bounds 0 []"},
		// Args from the left.
		{"two(1 / 0, new(99)[0]);", "Zero 0 []"},
		{"two(new(99)[0], 1 / 0);", "Size 0 []"},
		{"two(show(1), 1 / 0);", "Zero 0 [1]"},
		// An Arg may change an array that was reckoned ahead, but no number.
		{"print two(v[0], change(v));", "Done 0 [1]"},
		{"print two(change(v), v[0]);", "Done 0 [103]"},
	} {
		ends(t, inMain("var v = new(2); "+c.text)+"fn show(x: int) { print x; return x; } fn change(v: arr) { v[0] = 3; return 1; } fn two(a: int, b: int) { return a * 100 + b; }", c.want, 1, 5)
	}
	// Args, then Deep: in the deepest one, with what is reckoned there.
	deepest := func(s string) string {
		return inReturn(fmt.Sprintf("f(%d)", most-1)) + "fn f(n: int) { if (1 < n) { return f(n - 1); } " + s + " } fn g(n: int) { print 5; }"
	}
	ends(t, deepest("print 1;"), "Done 0 [1]")
	ends(t, deepest("print 1; g(2);"), "Deep 0 [1]")
	ends(t, deepest("g(1 / 0);"), "Zero 0 []")
	ends(t, deepest("g(new(1)[1]);"), "Bounds 0 []")
	ends(t, deepest("g(len(new(-1)));"), "Size 0 []")
	ends(t, deepest("print 0 && g(1); print 1 || g(1);"), "Done 0 [0 1]")
}
