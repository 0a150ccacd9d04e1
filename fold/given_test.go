package fold_test

import (
	"fmt"
	"math"
	"math/rand"
	"reflect"
	"testing"

	"bloomery/api"
	"bloomery/fold"
	"bloomery/mid"
)

// P1: steps may be anything, and none of the package's functions panics.
func TestAnything(t *testing.T) {
	try := func(f mid.Fn) {
		before := twin(&mid.Code{Fns: []mid.Fn{f}})
		for _, do := range []func(mid.Fn) mid.Fn{fold.Known, fold.Dead, fold.Reached} {
			if g := do(f); len(g.Steps) > len(f.Steps) || g.Name != f.Name || g.Params != f.Params {
				t.Errorf("%+v becomes %+v", f, g)
			}
		}
		for _, c := range []*mid.Code{{Fns: []mid.Fn{f}}, {Fns: []mid.Fn{f, {}}}, {Fns: []mid.Fn{{Name: "f"}, f}}} {
			if _, err := fold.Fold(c); (err == nil) != c.Right() {
				t.Errorf("%+v: Fold tells %v", c, err)
			}
		}
		if !reflect.DeepEqual(before.Fns[0], f) {
			t.Errorf("%+v was written into: %+v", before, f)
		}
	}
	for _, n := range []int{math.MinInt, -1, 0, 1, 2, 3, 64, math.MaxInt} {
		for code := -1; code < 17; code++ {
			s := mid.Step{Code: code, Dst: n, A: n, B: n, C: n, Label: n, Op: "+", Name: "main", Args: []int{n}}
			for _, params := range []int{n, 0, 1} {
				try(mid.Fn{Name: "main", Params: params, Types: []int{n, 1, n}, Steps: steps(s, s)})
				try(mid.Fn{Name: "main", Params: params, Types: []int{1, 2, 1}, Steps: steps(s, s, label(n), s, ret(0))})
			}
		}
	}
	try(mid.Fn{})
	try(mid.Fn{Name: "main", Steps: steps(jump(1))})
	try(mid.Fn{Name: "main", Types: []int{7, 0}, Steps: steps(copied(0, 1), zero(1, 4), label(4), label(4), length(1, 0), array(0, 1), show(0))})
	d := rand.New(rand.NewSource(85))
	for range 3000 {
		c := drawnCode(d)
		for range 1 + d.Intn(4) {
			spoil(d, c)
		}
		for _, f := range c.Fns {
			try(f)
		}
	}
}

// rich is a program with lists of every kind, each with room behind its end.
func rich() *mid.Code {
	call := call(x, "some", y, v, z)
	call.Args = append(make([]int, 0, 8), call.Args...)
	show := show(x)
	show.Args = append(make([]int, 0, 8), 3, 4)
	c := program(append(make([]mid.Step, 0, 20), input(x), num(y, 1), copied(z, y), array(v, y), call, show, zero(x, 1), label(1), label(2), ret(x)), others()...)
	c.Fns[0].Types = append(make([]int, 0, 20), c.Fns[0].Types...)
	c.Fns = append(make([]mid.Fn, 0, 5), c.Fns...)
	return c
}

// spill fills what stands behind the ends of a program's lists, and itself if it is told.
func spill(c *mid.Code, all bool) {
	for i := range c.Fns {
		f := &c.Fns[i]
		for k := range f.Steps {
			fill(f.Steps[k].Args, -7, all)
		}
		fill(f.Steps, mid.Step{Code: 99, Args: []int{8}}, all)
		fill(f.Types, 9, all)
	}
	fill(c.Fns, mid.Fn{Name: "spilt"}, all)
}

// fill fills what stands behind a list's end, and itself if it is told.
func fill[T any](l []T, with T, all bool) {
	from := len(l)
	if all {
		from = 0
	}
	for i := from; i < cap(l); i++ {
		l[:cap(l)][i] = with
	}
}

// behindEnds tells what stands in a program's lists and behind their ends.
func behindEnds(c *mid.Code) string {
	s := fmt.Sprintf("%+v", c.Fns[:cap(c.Fns)])
	for _, f := range c.Fns {
		s += fmt.Sprintf("%+v %+v", f.Types[:cap(f.Types)], f.Steps[:cap(f.Steps)])
		for _, p := range f.Steps {
			s += fmt.Sprint(p.Args[:cap(p.Args)])
		}
	}
	return s
}

// P4: nothing that is handed in is written into, nor what stands behind a list's length; what comes out is the caller's, and nothing else hangs on it.
func TestUntouched(t *testing.T) {
	c := rich()
	spill(c, false)
	want := behindEnds(c)
	d := folded(t, "rich", c)
	e := folded(t, "rich", c)
	if got := behindEnds(c); got != want {
		t.Errorf("Fold wrote into\n%s\nnow\n%s", want, got)
	}
	if !reflect.DeepEqual(d, e) {
		t.Errorf("Fold tells two things:\n%+v\n%+v", d, e)
	}
	keep := twin(d)
	spill(e, true)
	if got := behindEnds(c); got != want {
		t.Errorf("what Fold tells shares memory with what was handed in:\n%s\nnow\n%s", want, got)
	}
	spill(c, true)
	if !reflect.DeepEqual(d, keep) {
		t.Errorf("what Fold tells hangs on what was handed in, or on another answer:\n%+v\nnow\n%+v", keep, d)
	}
	// Of each part by itself.
	for name, do := range map[string]func(mid.Fn) mid.Fn{"Known": fold.Known, "Dead": fold.Dead, "Reached": fold.Reached} {
		c := rich()
		want := behindEnds(c)
		g := do(c.Fns[0])
		if got := behindEnds(c); got != want {
			t.Errorf("%s wrote into\n%s\nnow\n%s", name, want, got)
		}
		spill(&mid.Code{Fns: []mid.Fn{g}}, true)
		if got := behindEnds(c); got != want {
			t.Errorf("what %s tells shares memory with what was handed in:\n%s\nnow\n%s", name, want, got)
		}
	}
}

// P4: lists of one answer share nothing, though they were one list.
func TestOneListForAll(t *testing.T) {
	l, types := steps(input(0), call(1, "f", 0, 0), show(1), ret(0)), []int{api.Int, api.Int}
	f := mid.Fn{Name: "f", Params: 2, Types: types, Steps: l}
	g := mid.Fn{Name: "g", Params: 2, Types: types, Steps: l}
	c := &mid.Code{Fns: []mid.Fn{{Name: "main", Types: types, Steps: l}, f, g}}
	d := folded(t, "one list for all", c)
	want := fmt.Sprintf("%+v", d.Fns[1:])
	d.Fns[0].Steps[1].Args[0], d.Fns[0].Steps[0], d.Fns[0].Types[0] = 9, mid.Step{}, 9
	if got := fmt.Sprintf("%+v", d.Fns[1:]); got != want {
		t.Errorf("functions of one answer share memory:\n%s\nnow\n%s", want, got)
	}
}
