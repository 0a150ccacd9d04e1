package emit_test

import (
	"slices"
	"strings"
	"testing"

	"bloomery/api"
	"bloomery/emit"
	"bloomery/run"
	"bloomery/tree"
)

// dense are statements of which a program may be full, with x, v, f and g.
var dense = []string{
	"x = x + 1;", "x = 3;", "x = x && !(x || 1);", "if (x || 1) { x = 1; }", "if (0) { } else { print 1; }", "while (!x && 0) { }", "f(1, 2);", "v = new(2);", "print new(3)[1];", "v[0] = 1;",
	"x = f(x + 1, x);", "return 1;", "x = -1 * 2;", "x = 9223372036854775807;", "print x || x || x;", "print !!!!!!!!!!!!x;", "print x == x;", "print x <= x / x % x;", "print len(v);", "print v[x];", "print input();",
	"x = 9223372036854775807 + 9223372036854775806;", "g(x, x, x, x, x, x, x, x, x, x, v, v);", "v[f(x, x)] = f(x, x);", "if (!x || !x) { }",
}

// tokens is how many tokens (4.1) a text has.
func tokens(s string) int {
	n, word := 0, false
	for i := 0; i < len(s); i++ {
		inner := s[i] == '_' || s[i] >= '0' && s[i] <= '9' || s[i] >= 'a' && s[i] <= 'z'
		switch {
		case inner && !word, !inner && s[i] != ' ':
			n++
		}
		if i+1 < len(s) && slices.Contains([]string{"&&", "||", "==", "!=", "<=", ">="}, s[i:i+2]) {
			i++
		}
		word = inner
	}
	return n
}

// full is a program full of one statement, of at most so many tokens.
func full(part string, most int) string {
	head, tail := "fn main() { var x = 1; var v = new(1); ", " } fn f(a: int, b: int) { return a - b; } fn g(a: int, b: int, c: int, d: int, e: int, f: int, g: int, h: int, i: int, j: int, v: arr, w: arr) { }"
	return head + strings.Repeat(part+" ", (most-tokens(head+tail))/tokens(part)) + tail
}

// 9.1: ErrLimit is never told of steps that Lower told, nor of those folded: the longest programs.
func TestLongest(t *testing.T) {
	for _, part := range dense {
		s := full(part, api.MaxTokens)
		if _, err := tree.Parse(s + strings.Repeat(";", 1+api.MaxTokens-tokens(s))); api.Tell(err) != api.ErrLimit {
			t.Fatalf("%s: %v, %d tokens", part, err, tokens(s))
		}
		for _, c := range lowered(t, s) {
			assembled(t, part, text(t, part, c, emit.Plan(2000, api.MaxBytes)))
		}
	}
	// As many places as a function of a program may have, or nearly so: what waits for the other parts of expressions and calls within calls.
	s := "x"
	for range 11 {
		s = "1 || 1 && 1 == 1 < 1 + 1 * f(2, 3, 4, 5, 6, 7, 8, 9, 10, 11, 12, " + s + ")"
	}
	s = "fn main() { var x = input(); print " + s + "; return x; } fn f(a: int, b: int, c: int, d: int, e: int, f: int, g: int, h: int, i: int, j: int, k: int, l: int) { return l + a; }"
	meant(t, s, nil, []int64{5})
	if c := lowered(t, s)[0]; len(c.Fns[0].Types) < 150 {
		t.Errorf("only %d places", len(c.Fns[0].Types))
	}
}

// 10.1 is built on it: of a program of at most 200 tokens, the words take at most half of 32768 bytes.
func TestShort(t *testing.T) {
	for _, part := range dense {
		for _, c := range lowered(t, full(part, 200)) {
			if n := len(planned(t, part, c, 32768)[0].list); n > 32768/4/2 {
				t.Errorf("%s: a program of 200 tokens takes %d words", part, n)
			}
		}
	}
}

// 10.1 is built on it: short programs take at most half of 1024 bytes; what nobody asks for takes nothing.
func TestSmall(t *testing.T) {
	for _, s := range []string{
		"fn main() { }",
		"fn main() { return input() / 2; }",
		"fn main() { var n = input(); while (n) { print n; n = n - 1; } return 7; }",
		"fn main() { return down(input()); } fn down(n: int) { if (n < 1) { return 0; } return down(n - 1) + 1; }",
		"fn main() { var v = new(3); return len(v); }",
	} {
		for _, c := range lowered(t, s) {
			if n := len(planned(t, s, c, 1024)[0].list); n > 1024/4/2 {
				t.Errorf("%s takes %d words", s, n)
			}
		}
	}
}

// 11.1 is built on it: what costs one by run takes at most 200 words that are done, in a machine of 32768 bytes. (Who makes arrays does not make room each time.)
func TestCost(t *testing.T) {
	for _, s := range []string{
		"fn main() { var x = 0; while (x < 600) { x = x + 1; } return x; }",
		"fn main() { var x = 0; var v = new(1); while (x < 600) { x = x + 1; v = new(40); } return len(v); }",
		"fn main() { var a = new(40); var b = new(40); var c = new(40); var d = new(40); var e = new(40); var f = new(40); var x = 0; while (x < 500) { x = x + 1; a = new(1); } return len(b); }",
		"fn main() { return fib(12); } fn fib(n: int) { if (n < 2) { return n; } return fib(n - 1) + fib(n - 2); }",
		"fn main() { var x = 0; while (x < 600) { x = x + 1; f(x); } return x; } fn f(a: int) { }",
		"fn main() { var i = 0; var v = new(40); while (i < 40) { v[i] = 40 - i; i = i + 1; } while (i > 0) { i = i - 1; print v[i] * v[i] / 2; } return v[20]; }",
	} {
		l := parse(t, s)
		cost := 1
		for run.Run(l, nil, cost).Way == api.Fuel {
			cost++
		}
		for _, c := range lowered(t, s) {
			if got, _ := goes(t, s, planned(t, s, c, 32768)[0], nil, 200*cost); tell(got) != tell(run.Run(l, nil, cost)) {
				t.Errorf("%s\ncosts %d, and ends %s after %d words", s, cost, tell(got), 200*cost)
			}
		}
	}
}

// 10.2 is built on it: the greatest machine does not end with Memory, if a program has at most 200 tokens, and no Call; however much it holds, and however often it drops that.
func TestNeverMemory(t *testing.T) {
	inner := "0"
	for range 9 {
		inner = "new(40)[" + inner + "]"
	}
	hold := "fn main() { var i = 0; "
	for _, name := range "abcdefghjkl" {
		hold += "var " + string(name) + " = new(40); "
	}
	for _, s := range []string{
		hold + "while (i < 90) { i = i + 1; a = new(" + inner + " + 40); b = a; a[1] = i; } print b[1]; return len(l); }",
		"fn main() { var i = 0; while (i < 200) { i = i + 1; print " + inner + " + len(new(39)) + " + inner + "; } return new(40)[0]; }",
		"fn main() { var i = 0; var v = new(40); while (i < 650) { v[39] = i; v = new(40); if (v[39]) { return 1; } i = i + 1; } return len(v); }",
		"fn main() { var i = 0; var v = new(1); var w = v; while (i < 400) { v = new(i % 41); w = new(40 - i % 41); i = i + 1; } return len(v) + len(w); }",
	} {
		if n := tokens(s); n > 200 {
			t.Errorf("%d tokens: %s", n, s)
		}
		ways := meant(t, s, nil)
		never(t, s, api.Memory, ways)
		never(t, s, api.Fuel, ways)
	}
}
