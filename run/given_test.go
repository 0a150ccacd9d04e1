package run_test

import (
	"fmt"
	"slices"
	"testing"

	"bloomery/api"
	"bloomery/check"
	"bloomery/run"
	"bloomery/tree"
)

// nothing asks that no field of an answer is told.
func nothing(t *testing.T, what string, e api.End) {
	t.Helper()
	if e.Way != 0 || e.Code != 0 || len(e.Out) != 0 {
		t.Errorf("%s: %s; nothing is to be told", what, tell(e))
	}
}

// P1, P2: of a program of which Check finds something nothing is promised, but that the call ends, and does not panic.
func TestFound(t *testing.T) {
	nothing(t, "no function", run.Run(nil, nil, plenty))
	nothing(t, "no function", run.Run([]api.Func{}, []int64{1}, plenty))
	for _, s := range []string{
		"fn f() { print 1; }",
		"fn main(a: int) { print a; }",
		"fn main(v: arr) { v[0] = 1; }",
		"fn main() { print 1; } fn main() { print 2; }",
		"fn main() { print 1; print x; }",
		"fn main() { print 1; x = 1; }",
		"fn main() { print 1; v[0] = 1; }",
		"fn main() { print 1; f(); }",
		"fn main() { print 1; main(2); }",
		"fn main() { print 1; f(1); } fn f(a: int, b: int) { }",
		"fn main() { print 1; f(1, 2); } fn f(a: int) { }",
		"fn main() { print 1; var x = 1; var x = 2; }",
		"fn main() { print 1; return new(1); }",
		"fn main() { print 1; return len(1) + 1[0]; }",
		"fn main() { print 1; f(1); } fn f(v: arr) { v[0] = 1; }",
		"fn main() { print 1; } fn f() { return q; }",
	} {
		l, err := tree.Parse(s)
		if err != nil || check.Check(l) == nil {
			t.Fatalf("%s: something is to be found of it", s)
		}
		for _, fuel := range []int{plenty, 0, -1} {
			nothing(t, s, run.Run(l, []int64{1, 2}, fuel))
		}
	}
}

// P1: whatever it is given, it does not panic, what Parse would never tell, too.
func TestAnything(t *testing.T) {
	for code := -1; code < 12; code++ {
		for inner := -1; inner < 12; inner++ {
			for _, x := range []*api.Expr{nil, {Code: inner}, {Code: inner, Op: "?", Name: "main", Args: []*api.Expr{nil}}, {Code: inner, Left: &api.Expr{Code: inner}}} {
				s := api.Stmt{Code: code, Name: "x", Value: x, Index: x, Then: []api.Stmt{{}}}
				run.Run([]api.Func{{Name: "main", Body: []api.Stmt{{Code: api.Var, Name: "v", Value: x}, s}}}, nil, 100)
			}
		}
	}
	nothing(t, "no Value", run.Run([]api.Func{{Name: "main", Body: []api.Stmt{{Code: api.Return}}}}, nil, plenty))
}

// P1: a program may be put together of what Parse told: of more texts than one, and of more functions than one text has.
func TestPutTogether(t *testing.T) {
	read := func(s string) []api.Func {
		l, err := tree.Parse(s)
		if err != nil {
			t.Fatal(s)
		}
		return l
	}
	l := read("fn main() { return f(4) + 1; }")
	m := read("fn f(a: int) { return a * 10; }")
	if got := tell(run.Run(slices.Concat(l, m), nil, plenty)); got != "Done 41 []" {
		t.Errorf("of two texts: %s", got)
	}
	if got := tell(run.Run(slices.Concat(m, l), nil, plenty)); got != "Done 41 []" {
		t.Errorf("of two texts: %s", got)
	}
	many := l
	for i := range 20_000 {
		f := m[0]
		f.Name = fmt.Sprint("f", i)
		many = append(many, f)
	}
	if got := tell(run.Run(append(many, m...), nil, plenty)); got != "Done 41 []" {
		t.Errorf("of many functions: %s", got)
	}
}

// nested is as many parts as the document promises to hold, in one another.
const nested = 1<<16 - 100

// The document's Limits: parts lie deep in one another, while as many calls wait as may.
func TestNested(t *testing.T) {
	text := inReturn(fmt.Sprintf("f(%d)", api.MaxCalls-1)) + "fn f(n: int) { if (n < 2) { print 1; return 1; } return f(n - 1); } fn same(n: int) { return n; }"
	one := func() *api.Expr { return &api.Expr{Code: api.Num, N: 1} }
	for name, wrap := range map[string]func(x *api.Expr) *api.Expr{
		"-": func(x *api.Expr) *api.Expr { return &api.Expr{Code: api.Un, Op: "-", Left: x} },
		"*": func(x *api.Expr) *api.Expr { return &api.Expr{Code: api.Bin, Op: "*", Left: one(), Right: x} },
	} {
		l := parse(t, text)
		last := &l[1].Body[1]
		for range nested {
			last.Value = wrap(last.Value)
		}
		if got := tell(run.Run(l, nil, plenty)); got != "Done 1 [1]" {
			t.Errorf("%s, %d times: %s", name, nested, got)
		}
	}
	l := parse(t, text)
	last := l[1].Body[1]
	for range nested {
		last = api.Stmt{Code: api.If, Value: one(), Then: []api.Stmt{last}}
	}
	l[1].Body[1] = last
	if got := tell(run.Run(l, nil, nested*api.MaxCalls)); got != "Done 1 [1]" {
		t.Errorf("if, %d times: %s", nested, got)
	}
}

// P4: nothing that is handed in is written into, nor what stands behind a list's length; what comes out is the caller's; and a call hangs on nothing that was before.
func TestUntouched(t *testing.T) {
	s := inMain("var v = new(2); var i = 0; while (i < 3) { v[0] = input(); print v[0]; f(v, i); i = i + 1; } return v[1];") + "fn f(v: arr, i: int) { if (i) { v[1] = v[1] + i; } else { var w = v; w[1] = 7; } }"
	l := parse(t, s)
	room := append(make([]api.Func, 0, len(l)+1), l...)
	in := append(make([]int64, 0, 4), 5, 6)
	first := run.Run(room, in, plenty)
	want := tell(first)
	if want != "Done 10 [5 6 0]" {
		t.Errorf("%s\nends %s", s, want)
	}
	if tree.Print(room) != tree.Print(parse(t, s)) || room[:len(l)+1][len(l)].Name != "" {
		t.Errorf("Run wrote into the program %q", s)
	}
	if all := in[:cap(in)]; !slices.Equal(all, []int64{5, 6, 0, 0}) {
		t.Errorf("Run wrote into what is given: %v", all)
	}
	second := run.Run(room, in, plenty)
	for i := range first.Out {
		first.Out[i] = 99
	}
	_ = append(first.Out, 98)
	if tell(second) != want {
		t.Errorf("two answers share what was told: %s", tell(second))
	}
	if got := tell(run.Run(room, in, plenty)); got != want {
		t.Errorf("%s\nends %s, then %s", s, want, got)
	}
	in[0] = 8
	if got := tell(second); got != want {
		t.Errorf("what is told shares memory with what is given: %s", got)
	}
}
