package emit_test

import (
	"fmt"
	"math"
	"math/rand"
	"slices"
	"testing"

	"bloomery/api"
	"bloomery/check"
	"bloomery/fold"
	"bloomery/mid"
	"bloomery/plain"
	"bloomery/run"
	"bloomery/tree"
)

// given are lists of numbers that programs are given.
var given = [][]int64{nil, {0}, {1}, {2, 1, 0}, {3, -1, 4}, {-1, 5, 0, 7}, {40, 1 << 40}, {math.MinInt64, -1}}

// parse reads a program of which nothing is found.
func parse(t *testing.T, s string) []api.Func {
	t.Helper()
	l, err := tree.Parse(s)
	if err == nil {
		err = check.Check(l)
	}
	if err != nil {
		e, at := plain.Place(err)
		t.Fatalf("%q: error %d at %d; nothing is to be found of it", s, e, at)
	}
	return l
}

// lowered are a program's steps, and those that are folded.
func lowered(t *testing.T, s string) [2]*mid.Code {
	t.Helper()
	c, err := mid.Lower(parse(t, s))
	if err != nil {
		t.Fatalf("%s\nLower tells %v", s, err)
	}
	d, err := fold.Fold(c)
	if err != nil {
		t.Fatalf("%s\nFold tells %v", s, err)
	}
	return [2]*mid.Code{c, d}
}

// calls: has a program any Call? Then it may hold more than there is room for.
func calls(c *mid.Code) bool {
	return slices.ContainsFunc(c.Fns, func(f mid.Fn) bool {
		return slices.ContainsFunc(f.Steps, func(s mid.Step) bool { return s.Code == mid.Call })
	})
}

// meant asks that machines with the words of a program's steps, folded and not, end as it is meant; it tells in which Ways the greatest ones ended.
func meant(t *testing.T, s string, in ...[]int64) (ways []int) {
	t.Helper()
	l := parse(t, s)
	for _, c := range lowered(t, s) {
		machines := planned(t, s, c, api.MaxBytes, 2048)
		for _, list := range in {
			want := run.Run(l, list, 2000)
			for i, m := range machines {
				var got api.End
				if want.Way == api.Fuel {
					got = ask(t, s, c, m, list)
				} else {
					got = askAs(t, s, m, list, tell(want))
				}
				if i == 0 {
					ways = append(ways, got.Way)
				}
			}
			if ways[len(ways)-1] == api.Memory && !calls(c) {
				t.Fatalf("%s\nof %v ends %s; the greatest machine with Memory", s, list, tell(want))
			}
		}
	}
	return ways
}

// never asks that a Way was not met.
func never(t *testing.T, s string, way int, ways []int) {
	t.Helper()
	if slices.Contains(ways, way) {
		t.Errorf("%s\nends with %s", s, wayNames[way])
	}
}

// inMain is a program with these statements in main, behind two variables and ahead of some functions.
func inMain(s string) string {
	return "fn main() { var x = input(); var v = new(3); " + s + " } " +
		"fn show(n: int) { print n; return n; } fn none() { } fn change(v: arr) { v[0] = v[0] + 3; return 1; } " +
		"fn two(a: int, b: int) { return a * 100 + b; } fn both(v: arr, w: arr) { v[1] = 5; w[1] = w[1] + 1; return len(v) + v[1]; } " +
		"fn down(n: int) { if (n > 0) { print n; return down(n - 1); } return 7; }"
}

// 9.1: words of programs with every statement.
func TestStatements(t *testing.T) {
	for _, s := range []string{
		"", "return x;", "return 7;", "print x;", "print 7; print x; return 1;",
		"var y = x; y = y + 1; return y - x;", "var y = 1; y = 2; y = y; print y;", "var y = x; x = 3; print y; y = x; x = 4; return y;",
		"x = x; return x;", "x = x + x; x = x - 1; return x * x;", "var a = 2; var b = 3; var c = a * b; if (c == 6) { print c; } else { print 0; } return a + b + c + x;",
		"v = v; return len(v);", "var w = v; w[1] = 4; return v[1];", "var w = v; v = new(1); w[2] = 3; print len(w); return len(v);", "var w = new(4); v = w; return len(v) + len(w);",
		"v[1] = 4; v[x] = 5; print v[0]; print v[1]; return v[2];", "v[v[0]] = v[1] + 1; return v[0];",
		"v = new(x); return len(v);", "v = new(v[0] + 2); v[1] = 3; return v[1];", "v = new(0); v[0] = 1;", "v = new(99);", "var w = new(41);",
		"none();", "show(x); show(x + 1); return show(2);", "change(v); change(v); return v[0];", "both(v, v); return v[1];",
		"if (x) { print 1; }", "if (x) { } print 2;", "if (x) { print 1; } else { print 2; }", "if (x) { } else { print 2; }", "if (1) { print 1; } else { print 2; }", "if (0) { print 1; } else { print 2; }", "if (0) { print 1; }",
		"if (x) { if (x - 1) { print 1; } else { print 2; } } else { if (input()) { print 3; } } print 4;",
		"if (x) { return 1; } else { return 2; }", "if (x) { return 1; } return 2;", "if (x) { return 1; } else { print 2; } return 3;", "if (1) { return 1; } print 2;",
		"while (x > 0) { print x; x = x - 1; }", "while (x) { return 3; }", "while (0) { print 1; }", "while (input()) { }", "while (input()) { print 1; }", "while (1) { print x; }", "while (1) { }",
		"var i = 0; while (i < 3) { var j = 0; while (j < i) { print i * 10 + j; j = j + 1; } i = i + 1; } return i;",
		"while (1) { if (x > 2) { return x; } x = x + 1; }", "while (1) { while (1) { if (1) { return 5; } } }",
		"return 1; print 2; return 3;", "while (1) { return 1; print 2; } print 3;",
		"if (1) { var y = 1; print y; } if (1) { var y = new(2); print len(y); } var y = 3; return y;",
		"var i = 0; while (i < 3) { var y = i; var w = new(2); w[0] = w[0] + y; print w[0]; i = i + 1; }",
		"while (x < 3) { var y = 5; if (y) { var z = y + x; print z; } x = x + 1; }",
		"print 1 / 0;", "var y = 1 / 0;", "var y = x / 0; print x;", "var y = new(2)[2];", "var y = v[x]; return x;", "var y = len(new(-1));", "main();", "return down(50);", "return down(38);", "return down(39);",
	} {
		never(t, s, api.Memory, meant(t, inMain(s), given...))
	}
}

// 9.1: words of programs with every mark, and every FIRST, in each place where one may stand.
func TestExpressions(t *testing.T) {
	exprs := []string{
		"0", "1", "9223372036854775807", "x", "v[0]", "v[x]", "v[v[0]]", "(x)", "new(2)[1]", "new(x)[0]", "new(3)[x]", "len(v)", "len(new(4))", "len(new(x))",
		"input()", "none()", "show(x)", "show(show(1) + show(x))", "two(show(1), show(2))", "both(v, v)", "both(new(4), v) + v[1]", "down(3)", "v[change(v)] + v[0]", "v[0] + change(v) + v[0]",
		"-x", "!x", "-1", "!1", "!0", "--x", "!!x", "-!-!x", "-v[0]", "!len(v)", "(-9223372036854775807 - 1) / -1", "(-9223372036854775807 - 1) % -1",
		"1 - (2 - 3) * -x", "1 - (2 - 3) * -4", "x * x + x % 3 - 4 / 2", "new(41)[0]", "new(1)[1 / 0]", "1 / 0 + new(99)[0]", "new(99)[0] + 1 / 0",
		"x && show(2) || input()", "(x || show(0)) && input()", "!(x && show(2)) || !input()", "0 && 1 / 0", "1 || 1 / 0", "x && 1 / x", "x != 0 && 6 / x > 2", "1 && 1 && 0 || 1",
	}
	for _, a := range []string{"x", "show(x)"} {
		for _, b := range []string{"2", "x", "-1"} {
			for _, op := range append([]string{"&&", "||"}, ops...) {
				exprs = append(exprs, a+" "+op+" "+b)
			}
		}
	}
	for _, e := range exprs {
		for _, s := range []string{"return %s;", "print %s; return 4;", "x = %s; return x;", "var y = %s; print x; return y;", "var y = %s; return 3;", "v[1] = %s; return v[1];", "v[%s] = 2; return v[0];",
			"if (%s) { print 1; } else { print 2; } print 3;", "if (!(%s)) { print 1; } print 3;", "while (%s) { if (x > 3) { return 9; } x = x + 1; } return x;", "return two(x, %s);", "return -(%s) + x;"} {
			never(t, s+e, api.Memory, meant(t, inMain(fmt.Sprintf(s, e)), nil, []int64{2, 1, 0}))
		}
	}
}

// 9.1: words of drawn programs.
func TestProgramsDrawn(t *testing.T) {
	d := rand.New(rand.NewSource(93))
	met := map[int]int{}
	for range 500 {
		for _, way := range meant(t, (&maker{d: d}).program(), drawnNumbers(d), drawnNumbers(d)) {
			met[way]++
		}
	}
	for _, way := range []int{api.Done, api.Zero, api.Bounds, api.Size, api.Deep, api.Full} {
		if met[way] < 4 {
			t.Errorf("%s was met %d times alone", wayNames[way], met[way])
		}
	}
	// Those that wait for one another hold much, now and then.
	if met[api.Memory] > 20 {
		t.Errorf("Memory was met %d times", met[api.Memory])
	}
}
