package mid_test

import (
	"fmt"
	"slices"
	"testing"

	"bloomery/api"
	"bloomery/check"
	"bloomery/mid"
	"bloomery/plain"
	"bloomery/run"
	"bloomery/tree"
)

// plenty is fuel that nothing here spends, unless it goes on for ever.
const plenty = 1_000_000

// wayNames are the Ways to end, by their numbers.
var wayNames = [...]string{"none", "Done", "Zero", "Bounds", "Size", "Deep", "Fuel", "Full", "Memory", "Fault"}

// tell is how something ended, as a text: its Way, its Code, what it told.
func tell(e api.End) string { return fmt.Sprint(wayNames[e.Way], " ", e.Code, " ", e.Out) }

// Places of main, in tests: three numbers, three arrays, one number more.
const (
	x = iota
	y
	z
	v
	w
	u
	q
	behind // the last one
)

// mainTypes are the types of these places.
func mainTypes() []int {
	return []int{api.Int, api.Int, api.Int, api.Arr, api.Arr, api.Arr, api.Int}
}

// program is steps of main, and other functions.
func program(steps []mid.Step, others ...mid.Fn) *mid.Code {
	return &mid.Code{Fns: append([]mid.Fn{{Name: "main", Types: mainTypes(), Steps: steps}}, others...)}
}

// Short ways to write steps.
func num(dst int, n int64) mid.Step { return mid.Step{Code: mid.Const, Dst: dst, N: n} }
func copied(dst, a int) mid.Step    { return mid.Step{Code: mid.Copy, Dst: dst, A: a} }
func two(dst, a int, op string, b int) mid.Step {
	return mid.Step{Code: mid.Two, Dst: dst, A: a, Op: op, B: b}
}
func jump(label int) mid.Step    { return mid.Step{Code: mid.Jump, Label: label} }
func zero(a, label int) mid.Step { return mid.Step{Code: mid.Zero, A: a, Label: label} }
func label(n int) mid.Step       { return mid.Step{Code: mid.Label, Label: n} }
func call(dst int, name string, args ...int) mid.Step {
	return mid.Step{Code: mid.Call, Dst: dst, Name: name, Args: args}
}
func ret(a int) mid.Step         { return mid.Step{Code: mid.Ret, A: a} }
func array(dst, a int) mid.Step  { return mid.Step{Code: mid.New, Dst: dst, A: a} }
func length(dst, a int) mid.Step { return mid.Step{Code: mid.Len, Dst: dst, A: a} }
func load(dst, a, b int) mid.Step {
	return mid.Step{Code: mid.Load, Dst: dst, A: a, B: b}
}
func store(a, b, c int) mid.Step { return mid.Step{Code: mid.Store, A: a, B: b, C: c} }
func show(a int) mid.Step        { return mid.Step{Code: mid.Print, A: a} }
func input(dst int) mid.Step     { return mid.Step{Code: mid.Input, Dst: dst} }

// steps is a list of them.
func steps(l ...mid.Step) []mid.Step { return l }

// ends asks that steps, with plenty of fuel, end as it is told.
func ends(t *testing.T, what string, c *mid.Code, want string, in ...int64) {
	t.Helper()
	if got := tell(c.Run(in, plenty)); got != want {
		t.Errorf("%s: ends %s; %s is asked", what, got, want)
	}
}

// costs asks that steps end as it is told with just so much fuel, and more; and that with less it is Fuel, and has told the beginning of it.
func costs(t *testing.T, what string, c *mid.Code, least int, want string, in ...int64) {
	t.Helper()
	full := c.Run(in, least)
	for _, fuel := range []int{least, least + 1, least + 2, plenty, 1<<63 - 1} {
		if got := tell(c.Run(in, fuel)); got != want {
			t.Errorf("%s: with fuel %d ends %s; %s is asked", what, fuel, got, want)
		}
	}
	for less := -1; less < least; less++ {
		got := c.Run(in, less)
		if got.Way != api.Fuel || got.Code != 0 || len(got.Out) > len(full.Out) || !slices.Equal(got.Out, full.Out[:len(got.Out)]) {
			t.Errorf("%s: with fuel %d ends %s; Fuel 0 is asked, and the beginning of %v", what, less, tell(got), full.Out)
		}
	}
}

// parse reads a program of which nothing is found.
func parse(t *testing.T, s string) []api.Func {
	t.Helper()
	l, err := tree.Parse(s)
	if err == nil {
		err = check.Check(l)
	}
	if err != nil {
		e, at := plain.Place(err)
		t.Fatalf("%q: error %d at %d; nothing is to be found of it", s, e, at)
	}
	return l
}

// lower makes Right steps of a program of which nothing is found.
func lower(t *testing.T, what string, l []api.Func) *mid.Code {
	t.Helper()
	c, err := mid.Lower(l)
	if err != nil || c == nil {
		t.Fatalf("%s\nLower tells %v", what, err)
	}
	if !c.Right() {
		t.Fatalf("%s\nis lowered to what is not Right: %+v", what, c)
	}
	return c
}

// cost is the least fuel with which a program does not end with Fuel, if it is at most so much, and how it ends then.
func cost(l []api.Func, in []int64, most int) (n int, e api.End) {
	low, high := 0, 3
	for e = run.Run(l, in, high); e.Way == api.Fuel; e = run.Run(l, in, high) {
		if low, high = high+1, high*8; low > most {
			return 0, e
		}
	}
	for low < high {
		if half := (low + high) / 2; run.Run(l, in, half).Way == api.Fuel {
			low = half + 1
		} else {
			high = half
		}
	}
	return low, e
}

// alike asks that steps end as their program, if that does not end with Fuel, and tells how it ends.
func alike(t *testing.T, what string, l []api.Func, c *mid.Code, in []int64, most int) api.End {
	t.Helper()
	n, want := cost(l, in, most)
	if want.Way == api.Fuel {
		return want
	}
	for _, fuel := range []int{(n + 1) * 10_000, 1<<63 - 1} {
		if got := c.Run(in, fuel); tell(got) != tell(want) {
			t.Fatalf("%s\nof %v costs %d, ends %s; its steps with fuel %d %s", what, in, n, tell(want), fuel, tell(got))
		}
	}
	return want
}
