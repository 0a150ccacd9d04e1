package build_test

import (
	"fmt"
	"math"
	"slices"
	"testing"

	"bloomery/api"
)

// inMain is a program with these statements in main, behind two variables and ahead of some functions.
func inMain(s string) string {
	return "fn main() { var x = input(); var v = new(3); " + s + " } " +
		"fn show(n: int) { print n; return n; } fn none() { } fn change(v: arr) { v[0] = v[0] + 3; return 1; } " +
		"fn two(a: int, b: int) { return a * 100 + b; } fn both(v: arr, w: arr) { v[1] = 5; w[1] = w[1] + 1; return len(v) + v[1]; } " +
		"fn down(n: int) { if (n > 0) { print n; return down(n - 1); } return 7; }"
}

// meant is a text, and how it is meant to end.
type meant struct{ text, want string }

// full is one number, told as often as may be.
func full(n int64) string { return fmt.Sprint(slices.Repeat([]int64{n}, api.MaxPrint)) }

// counted is numbers from one to another, down or up, as they are told.
func counted(from, to int) string {
	l := []int{}
	for ; from != to; from += max(-1, min(1, to-from)) {
		l = append(l, from)
	}
	return fmt.Sprint(append(l, to))
}

// 10.2: each statement: the machine ends as it is meant, x is 5.
func TestStatements(t *testing.T) {
	for _, c := range []meant{
		{"", "Done 0 []"},
		{"return 7;", "Done 7 []"},
		{"return -7;", "Done -7 []"},
		{"return -9223372036854775807 - 1;", "Done -9223372036854775808 []"},
		{"return 9223372036854775807 + 1;", "Done -9223372036854775808 []"},
		{"print x; print 2; return x;", "Done 5 [5 2]"},
		{"var y = x; y = y + 1; return y - x;", "Done 1 []"},
		{"var y = x; x = 3; print y; y = x; x = 4; print x; return y;", "Done 3 [5 4]"},
		{"x = x; x = x + x; return x;", "Done 10 []"},
		{"v = v; return len(v);", "Done 3 []"},
		{"var w = v; w[1] = 4; return v[1];", "Done 4 []"},
		{"var w = v; v = new(1); w[2] = 3; print len(w); print w[2]; return len(v);", "Done 1 [3 3]"},
		{"v[0] = 1; v[v[0]] = 2; v[v[1]] = 3; print v[0]; print v[1]; return v[2];", "Done 3 [1 2]"},
		{"v[show(1)] = show(2); print v[1]; v[show(3)] = show(4); print 5;", "Bounds 0 [1 2 2 3 4]"},
		{"v[-1] = show(1); print 2;", "Bounds 0 [1]"},
		{"v = new(x); print len(v); v[4] = 6; return v[4];", "Done 6 [5]"},
		{"v[2] = 9; v = new(3); return v[2];", "Done 0 []"},
		{"v = new(0); print len(v); v[0] = 1;", "Bounds 0 [0]"},
		{"v = new(40); v[39] = 1; print v[39]; v = new(41);", "Size 0 [1]"},
		{"print x; v = new(-1);", "Size 0 [5]"},
		{"none(); show(1); show(show(2) + 1); return none();", "Done 0 [1 2 3]"},
		{"change(v); change(v); return v[0];", "Done 6 []"},
		{"both(v, v); print v[1]; return both(v, new(2));", "Done 8 [6]"},
		{"if (x) { print 1; } print 2;", "Done 0 [1 2]"},
		{"if (x - 5) { print 1; } print 2;", "Done 0 [2]"},
		{"if (x) { print 1; } else { print 2; } if (!x) { print 3; } else { print 4; }", "Done 0 [1 4]"},
		{"if (x) { } else { print 2; } if (0) { print 3; } else { } if (1) { print 4; }", "Done 0 [4]"},
		{"if (x) { if (x - 5) { print 1; } else { print 2; } } else { print 3; } print 4;", "Done 0 [2 4]"},
		{"if (x) { return 1; } return 2;", "Done 1 []"},
		{"if (!x) { return 1; } else { return 2; } return 3;", "Done 2 []"},
		{"while (x) { print x; x = x - 1; } return x;", "Done 0 " + counted(5, 1)},
		{"while (x - 5) { print x; } return 1;", "Done 1 []"},
		{"while (1) { if (x > 7) { return x; } x = x + 1; }", "Done 8 []"},
		{"var i = 0; while (i < 3) { var j = 0; while (j < i) { print i * 10 + j; j = j + 1; } i = i + 1; } return i;", "Done 3 [10 20 21]"},
		{"return 1; print 2;", "Done 1 []"},
		{"if (1) { var y = 1; print y; } if (1) { var y = new(2); print len(y); } var y = 3; return y;", "Done 3 [1 2]"},
		{"var i = 0; while (i < 3) { var w = new(2); w[0] = w[0] + i; print w[0]; i = i + 1; }", "Done 0 [0 1 2]"},
		{"while (1) { print 7; }", "Full 0 " + full(7)},
		{"while (show(7)) { }", "Full 0 " + full(7)},
		{"x = 200; while (x) { print x; x = x - 1; } return 8;", "Done 8 " + counted(200, 1)},
		{"x = 200; while (x) { print x; x = x - 1; } print 1 / 0;", "Zero 0 " + counted(200, 1)},
		{"x = 200; while (x) { print x; x = x - 1; } print 8;", "Full 0 " + counted(200, 1)},
		{"print 1; print 1 / (x - 5); print 2;", "Zero 0 [1]"},
		{"print 1; print 1 % (x - 5); print 2;", "Zero 0 [1]"},
		{"var y = x / 0; return 3;", "Zero 0 []"},
		{"var y = v[3]; return 3;", "Bounds 0 []"},
		{"var y = len(new(99)); return 3;", "Size 0 []"},
		{"print 4; main();", "Deep 0 " + fmt.Sprint(slices.Repeat([]int{4}, api.MaxCalls))},
		{"return down(38);", "Done 7 " + counted(38, 1)},
		{"return down(39);", "Deep 0 " + counted(39, 1)},
		{"return down(50);", "Deep 0 " + counted(50, 12)},
	} {
		ends(t, inMain(c.text), c.want, 5)
	}
}

// 10.2: each FIRST, each mark, x is 5 and v has three 0.
func TestExpressions(t *testing.T) {
	for _, c := range []meant{
		{"0", "Done 0 []"}, {"007", "Done 7 []"}, {"9223372036854775807", "Done 9223372036854775807 []"}, {"x", "Done 5 []"}, {"(x)", "Done 5 []"}, {"((v))[0]", "Done 0 []"},
		{"v[2]", "Done 0 []"}, {"v[3]", "Bounds 0 []"}, {"v[v[v[1]]]", "Done 0 []"}, {"new(2)[1]", "Done 0 []"}, {"new(2)[2]", "Bounds 0 []"}, {"new(x)[4]", "Done 0 []"}, {"new(x)[x]", "Bounds 0 []"},
		{"len(v)", "Done 3 []"}, {"len(new(0))", "Done 0 []"}, {"len(new(40))", "Done 40 []"}, {"len(new(x)) * 10 + x", "Done 55 []"}, {"len(new(41))", "Size 0 []"}, {"new(41)[1 / 0]", "Size 0 []"}, {"new(1)[1 / 0]", "Zero 0 []"},
		{"input()", "Done -3 []"}, {"input() * 100 + input() * 10 + input()", "Done -280 []"}, {"input() - input()", "Done -5 []"}, {"two(input(), input())", "Done -298 []"},
		{"show(1) + show(2) * show(3)", "Done 7 [1 2 3]"}, {"show(1) - (show(2) - show(3))", "Done 2 [1 2 3]"}, {"two(show(1), two(show(2), show(3)))", "Done 303 [1 2 3]"}, {"new(show(3))[show(2)]", "Done 0 [3 2]"},
		{"v[0] + change(v) + v[0]", "Done 4 []"}, {"v[change(v)] + v[0]", "Done 3 []"}, {"both(v, v) + v[1]", "Done 15 []"}, {"none()", "Done 0 []"}, {"down(3)", "Done 7 [3 2 1]"},
		{"-x", "Done -5 []"}, {"--x", "Done 5 []"}, {"!x", "Done 0 []"}, {"!!x", "Done 1 []"}, {"!0", "Done 1 []"}, {"-!0", "Done -1 []"}, {"!-x", "Done 0 []"}, {"-v[0]", "Done 0 []"}, {"!v[0]", "Done 1 []"}, {"-(-9223372036854775807 - 1)", "Done -9223372036854775808 []"},
		{"x + 3", "Done 8 []"}, {"x - 8", "Done -3 []"}, {"x * -3", "Done -15 []"}, {"9223372036854775807 * x", "Done 9223372036854775803 []"},
		{"-7 / 2", "Done -3 []"}, {"7 / -2", "Done -3 []"}, {"-7 % 2", "Done -1 []"}, {"7 % -2", "Done 1 []"}, {"(-9223372036854775807 - 1) / -1", "Done -9223372036854775808 []"}, {"(-9223372036854775807 - 1) % -1", "Done 0 []"},
		{"x / (x - 5)", "Zero 0 []"}, {"x % (x - 5)", "Zero 0 []"}, {"0 / 0", "Zero 0 []"}, {"show(1) / (show(2) - 2) + show(3)", "Zero 0 [1 2]"},
		{"x == 5", "Done 1 []"}, {"x == 4", "Done 0 []"}, {"x != 5", "Done 0 []"}, {"x != 4", "Done 1 []"}, {"x < 5", "Done 0 []"}, {"x < 6", "Done 1 []"}, {"-6 < -5", "Done 1 []"}, {"x <= 5", "Done 1 []"}, {"x <= 4", "Done 0 []"},
		{"x > 5", "Done 0 []"}, {"x > 4", "Done 1 []"}, {"-5 > 4", "Done 0 []"}, {"x >= 5", "Done 1 []"}, {"x >= 6", "Done 0 []"}, {"-9223372036854775807 - 1 < 9223372036854775807", "Done 1 []"},
		{"x && 2", "Done 1 []"}, {"x && 0", "Done 0 []"}, {"0 && 1 / 0", "Done 0 []"}, {"x && 1 / 0", "Zero 0 []"}, {"x || 1 / 0", "Done 1 []"}, {"0 || 7", "Done 1 []"}, {"0 || 0", "Done 0 []"}, {"0 || 1 / 0", "Zero 0 []"},
		{"show(0) && show(1) || show(2) && show(3)", "Done 1 [0 2 3]"}, {"(show(1) || show(2)) && show(0)", "Done 0 [1 0]"}, {"!(show(1) && show(0)) + 4", "Done 5 [1 0]"}, {"show(0) || !show(0) || show(9)", "Done 1 [0 0]"},
		{"1 - (2 - 3) * -x", "Done -4 []"}, {"1 - 2 - 3", "Done -4 []"}, {"100 / 5 / 2", "Done 10 []"}, {"1 + 2 < 4 == 1", "Done 1 []"}, {"2 + 3 * 4 % 5", "Done 4 []"}, {"1 < 2 && 3 != 3 || x == 5", "Done 1 []"},
	} {
		ends(t, inMain("return "+c.text+";"), c.want, 5, -3, 2)
	}
}

// 10.2: each FIRST and each mark in each place where one may stand, whatever is given.
func TestExpressionsInStatements(t *testing.T) {
	exprs := []string{"0", "9223372036854775807", "x", "v[x]", "new(x)[1]", "len(v)", "len(new(x))", "input()", "none()", "show(x)", "both(new(4), v) + v[1]", "-x", "!x", "(x)", "x && show(2) || input()", "!(x || show(0)) && input()", "x / (x - 1)"}
	for _, op := range ops {
		exprs = append(exprs, "x "+op+" input()", "show(x) "+op+" -1", "2 "+op+" x")
	}
	places := []string{"return %s;", "print %s; return 4;", "x = %s; return x;", "var y = %s; print x; return y;", "var y = %s; return 3;", "v[1] = %s; return v[1];", "v[%s] = 2; return v[0];", "v = new(%s); return len(v);",
		"if (%s) { print 1; } else { print 2; } print 3;", "if (!(%s)) { print 1; } print 3;", "while (%s) { if (x > 3) { return 9; } x = x + 1; } return x;", "show(%s);", "return two(x, %s);", "return -(%s) + x;"}
	for _, s := range places {
		for _, e := range exprs {
			for _, m := range makes(t, inMain(fmt.Sprintf(s, e)), api.MaxBytes, 4096) {
				for _, in := range given[:5] {
					m.ask(t, in)
				}
			}
		}
	}
}

// 10.2: numbers of which each bit counts are told as they are.
func TestNumbers(t *testing.T) {
	l := []int64{0, 1, -1, 2047, 2048, 2049, -2048, -2049, 4095, 4096, 4097, 1<<31 - 2049, 1<<31 - 2048, 1<<31 - 1, 1 << 31, -1 << 31, -1<<31 - 1, 1<<32 - 1, 1 << 32, 6123456789012345678, math.MaxInt64, math.MinInt64 + 1, math.MinInt64}
	for i := range 62 {
		l = append(l, 1<<i+1<<(i/2), -1<<i-1)
	}
	for len(l) > 0 {
		n := min(len(l), 20)
		s := "fn main() { "
		for _, v := range l[:n] {
			if v == math.MinInt64 {
				s += "print -9223372036854775807 - 1; "
			} else {
				s += fmt.Sprint("print ", v, "; ")
			}
		}
		ends(t, s+"print input(); return input(); }", fmt.Sprint("Done ", l[0], " ", append(slices.Clone(l[:n]), l[n-1])), l[n-1], l[0])
		l = l[n:]
	}
}

// 10.2: programs of several functions.
func TestPrograms(t *testing.T) {
	ends(t, `fn main() { var n = input(); var v = new(n); var i = 0; while (i < n) { v[i] = input(); i = i + 1; } sort(v); i = 0; while (i < n) { print v[i]; i = i + 1; } return n; }
		fn sort(v: arr) { var i = 1; while (i < len(v)) { var j = i; while (j > 0 && v[j - 1] > v[j]) { var h = v[j]; v[j] = v[j - 1]; v[j - 1] = h; j = j - 1; } i = i + 1; } }`,
		"Done 6 [-4 0 1 5 5 9]", 6, 5, 9, -4, 0, 5, 1)
	ends(t, "fn main() { return fib(10); } fn fib(n: int) { if (n < 2) { return n; } return fib(n - 1) + fib(n - 2); }", "Done 55 []")
	ends(t, "fn even(n: int) { if (n == 0) { return 1; } return odd(n - 1); } fn odd(n: int) { if (n == 0) { return 0; } return even(n - 1); } fn main() { print even(10); print odd(10); print even(7); return odd(7); }", "Done 1 [1 0 0]")
	ends(t, "fn main() { var v = new(40); v[0] = 1; var i = 1; while (i < 40) { v[i] = v[i - 1] * 3; i = i + 1; } return v[39] % 1000; }", "Done 267 []")
	ends(t, "fn main() { var a = input(); var b = input(); while (b) { var r = a % b; a = b; b = r; print a; } return a; }", "Done 6 [30 12 6]", 42, 30)
	ends(t, "fn f(a: int, v: arr, b: int, w: arr, c: int) { v[0] = a; w[0] = b; a = v[0] + w[0] + c; v = w; v[1] = a; return len(v); } fn main() { var p = new(2); var q = new(3); print f(1, p, 2, q, 3); print f(4, q, 5, q, 6); print p[0]; print p[1]; print q[0]; print q[1]; return q[2]; }", "Done 0 [3 3 1 0 5 16]")
}
