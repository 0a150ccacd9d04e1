package mid_test

import (
	"fmt"
	"reflect"
	"slices"
	"testing"

	"bloomery/api"
	"bloomery/mid"
	"bloomery/run"
	"bloomery/tree"
)

// P5: codes of steps.
func TestCodes(t *testing.T) {
	if got := []int{mid.Const, mid.Copy, mid.Two, mid.Jump, mid.Zero, mid.Label, mid.Call, mid.Ret, mid.New, mid.Len, mid.Load, mid.Store, mid.Print, mid.Input}; !slices.Equal(got, []int{1, 2, 3, 4, 5, 6, 7, 8, 9, 10, 11, 12, 13, 14}) {
		t.Errorf("codes: %v", got)
	}
}

// P1: whatever it is given, Lower does not panic, what Parse would never tell, too.
func TestAnything(t *testing.T) {
	for code := -1; code < 12; code++ {
		for inner := -1; inner < 12; inner++ {
			for _, x := range []*api.Expr{nil, {Code: inner}, {Code: inner, Op: "?", Name: "main", Args: []*api.Expr{nil}}, {Code: inner, Left: &api.Expr{Code: inner}}} {
				s := api.Stmt{Code: code, Name: "x", Value: x, Index: x, Then: []api.Stmt{{}}}
				c, err := mid.Lower([]api.Func{{Name: "main", Body: []api.Stmt{{Code: api.Var, Name: "v", Value: x}, s}}})
				if (err == nil) == (c == nil) {
					t.Fatalf("steps %v beside %v", c, err)
				}
				c.Run(nil, 100)
			}
		}
	}
}

// P1: steps may be anything.
func TestAnySteps(t *testing.T) {
	for _, n := range []int{-1 << 63, -1, 0, 1, 2, 3, 1<<63 - 1} {
		for code := -1; code < 17; code++ {
			s := mid.Step{Code: code, Dst: n, A: n, B: n, C: n, Label: n, Op: "+", Name: "main", Args: []int{n}}
			for _, params := range []int{n, 0} {
				c := &mid.Code{Fns: []mid.Fn{{Name: "main", Params: params, Types: []int{n, 1, n}, Steps: steps(s, s)}, {}}}
				c.Right()
				c.Steps()
				c.Run([]int64{1}, 50)
			}
		}
	}
}

// P1: a program may be put together of what Parse told.
func TestPutTogether(t *testing.T) {
	read := func(s string) []api.Func {
		l, err := tree.Parse(s)
		if err != nil {
			t.Fatal(s)
		}
		return l
	}
	l := read("fn main() { return f(4) + 1; }")
	m := read("fn f(a: int) { return a * 10; }")
	for _, l := range [][]api.Func{slices.Concat(l, m), slices.Concat(m, l)} {
		if got := tell(lower(t, "of two texts", l).Run(nil, plenty)); got != "Done 41 []" {
			t.Errorf("of two texts: %s", got)
		}
	}
	// One part may stand in more places than one.
	l = slices.Concat(l, m)
	x := l[0].Body[0].Value
	l[0].Body[0].Value = &api.Expr{Code: api.Bin, Op: "+", Left: x, Right: &api.Expr{Code: api.Bin, Op: "&&", Left: x, Right: x}}
	if got := tell(lower(t, "of one part", l).Run(nil, plenty)); got != "Done 42 []" {
		t.Errorf("of one part: %s", got)
	}
	// Of more functions than Right may have, Lower ends, and what it tells is not Right.
	many := l
	for i := range 20_000 {
		f := m[0]
		f.Name = fmt.Sprint("f", i)
		many = append(many, f)
	}
	if c, err := mid.Lower(many); err != nil || c.Right() {
		t.Errorf("of many functions: %v", err)
	}
}

// The document's Limits: parts lie deep in one another.
func TestNested(t *testing.T) {
	const nested = 1<<16 - 100
	one := &api.Expr{Code: api.Num, N: 1}
	for name, wrap := range map[string]func(x *api.Expr) *api.Expr{
		"-":  func(x *api.Expr) *api.Expr { return &api.Expr{Code: api.Un, Op: "-", Left: x} },
		"!":  func(x *api.Expr) *api.Expr { return &api.Expr{Code: api.Un, Op: "!", Left: x} },
		"*":  func(x *api.Expr) *api.Expr { return &api.Expr{Code: api.Bin, Op: "*", Left: one, Right: x} },
		"*1": func(x *api.Expr) *api.Expr { return &api.Expr{Code: api.Bin, Op: "*", Left: x, Right: one} },
		"&&": func(x *api.Expr) *api.Expr { return &api.Expr{Code: api.Bin, Op: "&&", Left: one, Right: x} },
	} {
		l := parse(t, "fn main() { if (1) { return 1; } }")
		for range nested {
			l[0].Body[0].Value = wrap(l[0].Body[0].Value)
		}
		c, err := mid.Lower(l)
		if err != nil {
			t.Errorf("%s, %d times: %v", name, nested, err)
		}
		// More steps than a function may have: but a ! takes none.
		if got := c.Right(); got != (name == "!") {
			t.Errorf("%s, %d times: Right tells %v", name, nested, got)
		}
	}
	// Within what Right allows it goes.
	for _, deep := range []int{100, 1000, 2500} {
		l := parse(t, "fn main() { return 1; }")
		for range deep {
			l[0].Body[0].Value = &api.Expr{Code: api.Bin, Op: "-", Left: one, Right: l[0].Body[0].Value}
		}
		if got, want := tell(lower(t, "-", l).Run(nil, plenty)), tell(run.Run(l, nil, 10)); got != want {
			t.Errorf("-, %d times: %s; %s is asked", deep, got, want)
		}
	}
}

// P4: nothing that is handed in is written into, nor what stands behind a list's length; what comes out is the caller's; and a call hangs on nothing that was before.
func TestUntouched(t *testing.T) {
	s := inMain("var i = 0; while (i < 3) { v[0] = input(); print v[0]; two(i, both(v, v)); i = i + 1; } return v[1] + (i && x);")
	l := parse(t, s)
	room := append(make([]api.Func, 0, len(l)+1), l...)
	c := lower(t, s, room)
	if tree.Print(room) != tree.Print(parse(t, s)) || room[:len(l)+1][len(l)].Name != "" {
		t.Errorf("Lower wrote into the program %q", s)
	}
	again := lower(t, s, room)
	in := append(make([]int64, 0, 5), 9, 5, 6)
	first := c.Run(in, plenty)
	want := tell(first)
	if want != "Done 7 [5 6 0]" {
		t.Errorf("%s\nends %s", s, want)
	}
	if all := in[:cap(in)]; !slices.Equal(all, []int64{9, 5, 6, 0, 0}) {
		t.Errorf("Run wrote into what is given: %v", all)
	}
	if !reflect.DeepEqual(c, again) {
		t.Errorf("Run wrote into the steps of %q, or Lower tells two things", s)
	}
	second := c.Run(in, plenty)
	for i := range first.Out {
		first.Out[i] = 99
	}
	_ = append(first.Out, 98)
	in[1] = 8
	if tell(second) != want {
		t.Errorf("two answers share what was told: %s", tell(second))
	}
	// What is written into one Code is not in another.
	for i := range c.Fns {
		for k := range c.Fns[i].Steps {
			for a := range c.Fns[i].Steps[k].Args {
				c.Fns[i].Steps[k].Args[a] = -1
			}
			c.Fns[i].Steps[k] = mid.Step{}
		}
		clear(c.Fns[i].Types)
		c.Fns[i] = mid.Fn{}
	}
	in[1] = 5
	if got := tell(again.Run(in, plenty)); got != want || !again.Right() {
		t.Errorf("two Codes share memory: %s", got)
	}
	if got := tell(lower(t, s, room).Run(in, plenty)); got != want {
		t.Errorf("a Code and its program share memory: %s", got)
	}
}
