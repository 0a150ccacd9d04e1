package mid_test

import (
	"fmt"
	"sort"
	"strings"
	"testing"

	"bloomery/api"
	"bloomery/check"
	"bloomery/mid"
	"bloomery/plain"
	"bloomery/run"
	"bloomery/tree"
)

// inMain is a program with these statements in main, behind two variables and ahead of some functions.
func inMain(s string) string {
	return "fn main() { var x = input(); var v = new(3); " + s + " } " +
		"fn show(n: int) { print n; return n; } fn none() { } fn change(v: arr) { v[0] = v[0] + 3; return 1; } " +
		"fn two(a: int, b: int) { return a * 100 + b; } fn both(v: arr, w: arr) { v[1] = 5; w[1] = w[1] + 1; return len(v) + v[1]; } " +
		"fn down(n: int) { if (n > 0) { print n; return down(n - 1); } return 7; }"
}

// given are lists of numbers that programs are given.
var given = [][]int64{nil, {0}, {1}, {2, 1, 0}, {3, -1, 4}, {-1, 5}, {40, 1 << 40}, {-1 << 63, -1}}

// lowered asks that a program's steps end as it does, whatever it is given, and tells in which Ways it ended.
func lowered(t *testing.T, s string) (ways []int) {
	t.Helper()
	l := parse(t, s)
	c := lower(t, s, l)
	for _, in := range given {
		ways = append(ways, alike(t, s, l, c, in, 1000).Way)
	}
	return ways
}

// 7.3: Check's errors, as they are, and no steps with them.
func TestLowerErrors(t *testing.T) {
	for _, s := range []string{
		"", "fn f() { }", "fn main(a: int) { }", "fn main(v: arr) { }",
		"fn main() { } fn main() { }",
		"fn main() { return x; }",
		"fn main() { x = 1; }",
		"fn main() { v[0] = 1; }",
		"fn main() { f(); }",
		"fn main() { print 1; main(2); }",
		"fn main() { f(1); } fn f(a: int, b: int) { }",
		"fn main() { var x = 1; var x = 2; }",
		"fn main() { return new(1); }",
		"fn main() { var v = new(2); print len(1) + v; }",
		"fn main() { f(1); } fn f(v: arr) { v[0] = 1; }",
		"fn main() { } fn f() { return q; }",
		"fn main() { if (1) { var a = 1; } a = 2; }",
		"fn main() { var a = 0; var b = 0; var c = 0; var d = 0; var e = 0; var f = 0; var g = 0; var h = 0; var i = 0; var j = 0; var k = 0; var l = 0; var m = 0; }",
	} {
		l, err := tree.Parse(s)
		if err != nil {
			t.Fatalf("%q: Parse tells %v", s, err)
		}
		wantErr, wantAt := plain.Place(check.Check(l))
		if wantErr == api.OK {
			t.Fatalf("%q: something is to be found of it", s)
		}
		c, err := mid.Lower(l)
		if e, at := plain.Place(err); c != nil || e != wantErr || at != wantAt {
			t.Errorf("%q: Lower tells %v, error %d at %d; %d at %d is asked", s, c, e, at, wantErr, wantAt)
		}
	}
	if c, err := mid.Lower(nil); c != nil || api.Tell(err) != api.ErrNone {
		t.Errorf("of no function: %v, %v", c, err)
	}
}

// 7.3: each statement.
func TestLowerStatements(t *testing.T) {
	for _, s := range []string{
		"", "return x;", "return 7;", "print x;", "print 7; print x; return 1;",
		"var y = x; y = y + 1; return y - x;", "var y = 1; y = 2; y = y; print y;",
		"x = x; return x;", "x = x + x; x = x - 1; return x * x;",
		"v = v; return len(v);", "var w = v; w[1] = 4; return v[1];", "var w = v; v = new(1); w[2] = 3; print len(w); return len(v);",
		"v[1] = 4; v[x] = 5; print v[0]; print v[1]; return v[2];", "v[v[0]] = v[1] + 1; return v[0];",
		"v = new(x); return len(v);", "v = new(v[0] + 2); v[1] = 3; return v[1];",
		"none();", "show(x); show(x + 1); return show(2);", "change(v); change(v); return v[0];",
		"if (x) { print 1; }", "if (x) { } print 2;", "if (x) { print 1; } else { print 2; }", "if (x) { } else { print 2; }", "if (x) { print 1; } else { }",
		"if (x) { if (x - 1) { print 1; } else { print 2; } } else { if (input()) { print 3; } } print 4;",
		"if (x) { return 1; } else { return 2; }", "if (x) { return 1; } return 2;", "if (x) { return 1; } else { print 2; } return 3;",
		"while (x > 0) { print x; x = x - 1; }", "while (x) { return 3; }", "while (0) { print 1; }", "while (input()) { }", "while (input()) { print 1; }",
		"var i = 0; while (i < 3) { var j = 0; while (j < i) { print i * 10 + j; j = j + 1; } i = i + 1; } return i;",
		"while (1) { if (x > 2) { return x; } x = x + 1; }", "while (1) { while (1) { if (1) { return 5; } } }",
		"return 1; print 2; return 3;", "while (1) { return 1; print 2; } print 3;",
		"if (1) { var y = 1; print y; } if (1) { var y = new(2); print len(y); } var y = 3; return y;",
		"var i = 0; while (i < 3) { var y = i; var w = new(2); w[0] = w[0] + y; print w[0]; i = i + 1; }",
		"while (x < 3) { var y = 5; if (y) { var z = y + x; print z; } x = x + 1; }",
	} {
		lowered(t, inMain(s))
	}
}

// 7.3: each mark, in each place where one may stand, and each FIRST.
func TestLowerExpressions(t *testing.T) {
	exprs := []string{
		"0", "1", "9223372036854775807", "x", "v[0]", "v[x]", "v[v[0]]", "(x)", "((v))[1]", "new(2)[1]", "new(x)[0]", "new(3)[x]", "len(v)", "len(new(4))", "len(new(x))",
		"input()", "none()", "show(x)", "show(show(1) + show(x))", "two(x, 3)", "two(show(1), show(2))", "both(v, v)", "both(v, new(3))", "both(new(4), v) + v[1]", "down(x)", "down(3)",
		"two(two(1, 2), two(x, two(3, 4)))", "two(v[0], change(v))", "two(change(v), v[0])", "v[change(v)] + v[0]", "v[0] + change(v) + v[0]",
		"-x", "!x", "-1", "!1", "!0", "--x", "!!x", "-!x", "!-x", "-!-!x", "-v[0]", "!len(v)", "-9223372036854775807 - 1",
		"(-9223372036854775807 - 1) / -1", "(-9223372036854775807 - 1) % -1", "x / -1", "x % -1", "7 / x", "7 % x", "x / x", "-7 / 2", "-7 % 2",
		"1 - (2 - 3) * -x", "1 - 2 - 3", "x * x + x % 3 - 4 / 2", "new(input())[input()]", "len(new(new(3)[2]))", "new(len(new(2)))[1]",
		"new(4)[new(3)[new(2)[1]]]", "new(41)[0]", "new(-1)[0]", "new(99)[1 / 0]", "new(1)[1 / 0]", "1 / 0 + new(99)[0]", "new(99)[0] + 1 / 0",
	}
	for _, a := range []string{"x", "0", "5", "show(x)", "v[0]"} {
		for _, b := range []string{"2", "0", "x", "show(3)", "input()", "-1"} {
			for _, op := range []string{"+", "-", "*", "/", "%", "==", "!=", "<", "<=", ">", ">=", "&&", "||"} {
				exprs = append(exprs, a+" "+op+" "+b)
			}
		}
	}
	exprs = append(exprs, logic()...)
	for _, e := range exprs {
		for _, s := range []string{"return %s;", "print %s; return 4;", "x = %s; return x;", "var y = %s; print x; return y;", "v[1] = %s; return v[1];", "v[%s] = 2; return v[0];",
			"if (%s) { print 1; } else { print 2; } print 3;", "if (!(%s)) { print 1; } print 3;", "while (%s) { if (x > 3) { return 9; } x = x + 1; } return x;", "return two(x, %s);", "return len(new(%s)) - 1;", "return (%s) + x;", "return -(%s);"} {
			lowered(t, inMain(fmt.Sprintf(s, e)))
		}
	}
}

// logic are expressions of &&, || and !, one within another.
func logic() (l []string) {
	atoms := []string{"x", "show(1)", "show(0)", "input()"}
	for _, a := range atoms {
		for _, b := range atoms {
			for _, op := range []string{"&&", "||"} {
				for _, s := range []string{"%s %s %s", "!(%s %s %s)", "!%s %s %s", "%s %s !%s"} {
					l = append(l, fmt.Sprintf(s, a, op, b))
				}
			}
		}
	}
	for _, first := range []string{"&&", "||"} {
		for _, second := range []string{"&&", "||", "==", "+", "<"} {
			for _, s := range []string{"x A show(2) B input()", "(x A show(2)) B input()", "x A (show(2) B input())", "!(x A show(2)) B !input()", "x A !(show(2) B show(0))", "(x A show(2)) B (input() A show(3))", "(x A x) B (x A x)"} {
				l = append(l, strings.NewReplacer("A", first, "B", second).Replace(s))
			}
		}
	}
	return append(l, "1 / 0 && 1", "0 && 1 / 0", "1 || 1 / 0", "x && 1 / x", "x || 1 / x", "x == 0 || 6 / x > 2", "x != 0 && 6 / x > 2", "!!!x", "!!(x && 1)", "v[x && 1] || v[x]")
}

// 7.3: a name that is set may stand in what it is set to.
func TestLowerIntoItself(t *testing.T) {
	for _, s := range []string{
		"x = x && 5;", "x = 5 && x;", "x = x || 0;", "x = 0 || x;", "x = !x || x;", "x = (x && 1) + x;", "x = x - (x || 1);", "x = !(x && x);", "x = !x;", "x = -x;",
		"x = two(x, x);", "x = two(x + 1, x) + x;", "x = v[x] + x;", "v = new(len(v) + x);", "v[0] = x; v[v[0]] = v[0]; x = v[0];",
	} {
		lowered(t, inMain(s+" print len(v); return x;"))
	}
}

// 7.3: for each Way but Fuel.
func TestLowerWays(t *testing.T) {
	for s, want := range map[string]int{
		"return 3;":                                api.Done,
		"print 1; print 2 / (x - x);":              api.Zero,
		"print 1; print 2 % (x - x);":              api.Zero,
		"print 1; v[3] = 1;":                       api.Bounds,
		"print 1; print v[-1];":                    api.Bounds,
		"print 1; v = new(41);":                    api.Size,
		"print 1; print new(-1)[0];":               api.Size,
		"print 1; main();":                         api.Deep,
		"down(100);":                               api.Deep,
		"while (1) { print 1; }":                   api.Full,
		"print 1; while (1) { print show(2); }":    api.Full,
		"while (1) { print 1; if (x) { none(); }}": api.Full,
	} {
		for i, way := range lowered(t, inMain(s)) {
			if way != want {
				t.Errorf("%s\nof %v ends in way %d; %d is asked", s, given[i], way, want)
			}
		}
	}
	// As many calls as may wait, and one more.
	for n := api.MaxCalls - 4; n < api.MaxCalls+3; n++ {
		lowered(t, inMain(fmt.Sprintf("return down(%d);", n)))
		lowered(t, inMain(fmt.Sprintf("return show(down(%d)) / down(%d);", n, n-1)))
	}
	// As many numbers as may be told, and one more.
	for n := api.MaxPrint - 1; n < api.MaxPrint+2; n++ {
		lowered(t, inMain(fmt.Sprintf("var i = 0; while (i < %d) { print i; i = i + 1; } return 5;", n)))
	}
}

// 7.3: what comes first, where several things are wrong, or are told.
func TestLowerOrder(t *testing.T) {
	for _, s := range []string{
		"v[1 / 0] = new(1)[1];", "v[new(1)[1]] = 1 / 0;", "v[9] = 1 / 0;", "v[-1] = len(new(99));", "v[show(1)] = show(2); print v[1];", "v[show(9)] = show(2);",
		"v[input()] = input(); print v[1];", "v[change(v)] = v[0]; print v[0]; print v[1];", "print new(show(2))[show(1)];", "print new(show(2))[show(3)];",
		"print v[change(v)]; print v[change(v) - 1];", "print 1 / (0 * show(4));", "print show(3) / show(0);", "print new(1)[1] / 0;",
		"two(1 / 0, new(99)[0]);", "two(new(99)[0], 1 / 0);", "two(show(1), 1 / 0);", "print both(new(show(3)), new(show(2)));", "print two(input(), input()) - two(input(), x);",
		"print show(1) + show(2) * show(3) - show(4);", "print (show(1) < show(2)) == (show(3) > show(4));", "print show(1) && show(0) || show(2) && show(3);",
	} {
		lowered(t, inMain(s))
	}
}

// 7.3: the functions may stand in any order, main, too; and may have as many names as there may be.
func TestLowerFunctions(t *testing.T) {
	lowered(t, "fn f(n: int) { if (n < 1) { return 0; } return g(n - 1) + 1; } fn g(n: int) { return f(n) * 2; } fn main() { return f(input()) + f(9); }")
	lowered(t, "fn a(p: int, q: arr, r: int, s: arr) { q[p] = r; s[r] = p; return q[0] + s[1]; } fn main() { var v = new(2); var w = new(2); a(0, v, 1, w); print v[0]; return a(w[1], w, 1, v); }")
	lowered(t, "fn main() { var main = 3; var f = f(main); return f + main; } fn f(f: int) { return f * f; }")
	lowered(t, "fn f(a: int, b: int, c: int, d: int, e: int, f: int, g: int, h: int, i: int, j: int, k: int, l: arr) { l[0] = a + b * c - d + e * f - g + h * i - j + k; return l[0]; } fn main() { return f(1, 2, 3, 4, 5, 6, 7, 8, 9, 10, input(), new(1)); }")
	s := "fn main() { return f1(input()); }"
	for i := 1; i < api.MaxFuncs; i++ {
		s += fmt.Sprintf(" fn f%d(n: int) { print n; return f%d(n + %d); }", i, i%(api.MaxFuncs-1)+1, i)
	}
	lowered(t, s)
}

// longest is a program of a repeated part, with as many as there may be.
func longest(t *testing.T, head, part, between, tail string) (s string) {
	t.Helper()
	text := func(n int) string { return head + strings.Repeat(part+between, max(n, 1)-1) + part + tail }
	n := sort.Search(api.MaxTokens, func(n int) bool {
		_, err := tree.Parse(text(n + 1))
		return err != nil
	})
	if n < 20 {
		t.Fatalf("%s: only %d parts", text(1), n)
	}
	return text(n)
}

// 7.3: steps of the longest programs that Parse tells are Right, and fuel (n + 1) · 10000 is enough for them.
func TestLowerLongest(t *testing.T) {
	const some = " fn f() { } fn g(a: int) { } fn h() { return 1; }"
	for _, op := range []string{"+", "-", "*", "/", "%", "==", "!=", "<", "<=", ">", ">=", "&&", "||"} {
		for _, part := range []string{"1", "x", "-1", "!x", "f()", "h()", "!h()", "(1 && 1)", "(x || 0)", "!(x && 1)", "(x || h())", "g(f())", "new(2)[1]", "input()", "!!!!!!!!!!1", "len(v)", "v[0]", "(x && !(0 || x))"} {
			lowered(t, longest(t, "fn main() { var x = 1; var v = new(1); return ", part, " "+op+" ", "; }"+some))
		}
	}
	for _, part := range []string{
		"x = 1;", "x = x;", "f();", "g(1);", "g(f());", "print x;", "v[0] = 1;", "v[x] = x;", "v = new(1);", "v = v;", "return 1;", "if (x) { }", "if (1) { } else { f(); }", "while (x) { }", "while (x) { x = 0; }",
		"x = 1 && 1;", "x = x || x;", "x = !(x || 1);", "if (x || x) { x = x && x; } else { x = 2; }", "while (x && x) { x = !1; }", "x = -x;", "print x && 1;", "x = x && !(x || 1) || 1;",
	} {
		lowered(t, longest(t, "fn main() { var x = 0; var v = new(1); ", part, " ", " }"+some))
	}
	lowered(t, longest(t, "fn f(a: int, b: int, c: int) { return a - b - c; } fn main() { var x = 1; print ", "f(x, 2, f(1, x, f(3, x, x)))", " + ", "; }"))
	// Within one another, as deep as may be.
	for _, k := range []struct{ head, tail string }{{"(x + ", ")"}, {"(x && ", ")"}, {"!(x || ", ")"}, {"new(3)[", "]"}, {"f(x, v, ", ")"}, {"f(h(), new(2), ", ")"}, {"-(1 - ", ")"}, {"len(new(", "))"}} {
		for n := 1; ; n++ {
			s := "fn main() { var x = 1; var v = new(1); return " + strings.Repeat(k.head, n) + "1" + strings.Repeat(k.tail, n) + "; } fn f(a: int, v: arr, b: int) { return a + b; }" + some[len(" fn f() { }"):]
			if _, err := tree.Parse(s); err != nil {
				break
			}
			lowered(t, s)
		}
	}
}

// A place is given back behind its use, so that the longest programs have few, and hold no more arrays than they must.
func TestFewPlaces(t *testing.T) {
	for _, part := range []string{"x = x + 1;", "print x * 2 + x;", "x = x && !(x || 1);", "if (x || 1) { x = 1; }", "while (!x && 0) { }", "f(1, 2);", "v = new(2);", "print new(3)[1];", "print len(new(3)) + new(2)[0];", "v[0] = 1;", "x = f(x + 1, x);"} {
		s := longest(t, "fn main() { var x = 1; var v = new(1); ", part, " ", " } fn f(a: int, b: int) { }")
		numbers, arrays := 0, 0
		for _, kind := range lower(t, s, parse(t, s)).Fns[0].Types {
			if kind == api.Arr {
				arrays++
			} else {
				numbers++
			}
		}
		if numbers > 4 || arrays > 2 {
			t.Errorf("%s, again and again: %d numbers and %d arrays", part, numbers, arrays)
		}
	}
}

// 7.3: Steps: how many there are in all.
func TestSteps(t *testing.T) {
	var none *mid.Code
	for want, c := range map[int]*mid.Code{
		1: program(steps(ret(x))),
		3: program(steps(num(x, 1), label(1), ret(x))),
		6: program(steps(num(x, 1), label(1), ret(x)), others()...),
		4: named("main", "f", "g", "h"),
	} {
		if got := c.Steps(); got != want {
			t.Errorf("%d steps: Steps tells %d", want, got)
		}
	}
	if none.Steps() != 0 || (&mid.Code{}).Steps() != 0 || (&mid.Code{Fns: make([]mid.Fn, 20)}).Steps() != 0 {
		t.Errorf("Steps of none")
	}
	// Of what is not Right, too.
	if got := (&mid.Code{Fns: []mid.Fn{{Steps: make([]mid.Step, 7000)}, {}, {Steps: make([]mid.Step, 5)}}}).Steps(); got != 7005 {
		t.Errorf("7005 steps: Steps tells %d", got)
	}
	l := parse(t, inMain("return down(3);"))
	c, n := lower(t, "down", l), 0
	for _, f := range c.Fns {
		n += len(f.Steps)
	}
	if c.Steps() != n {
		t.Errorf("%d steps: Steps tells %d", n, c.Steps())
	}
}

// 7.3: a program that ends with Fuel, however much of it there is, has steps that are Right, and end with Fuel, too.
func TestLowerForEver(t *testing.T) {
	for _, s := range []string{"while (1) { }", "print 3; while (1) { x = x + 1; }", "while (1) { down(3); if (1) { return main(); } }"} {
		l := parse(t, inMain(s))
		c := lower(t, s, l)
		want := run.Run(l, nil, 1000)
		if got := c.Run(nil, 10_000); want.Way == api.Fuel && got.Way != api.Fuel {
			t.Errorf("%s\nends %s; its steps %s", s, tell(want), tell(got))
		}
	}
}
