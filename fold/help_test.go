package fold_test

import (
	"fmt"
	"math"
	"reflect"
	"slices"
	"testing"

	"bloomery/api"
	"bloomery/fold"
	"bloomery/mid"
	"bloomery/plain"
)

// plenty is fuel that nothing here spends, unless it goes on for ever.
const plenty = 1_000_000

// wayNames are the Ways to end, by their numbers.
var wayNames = [...]string{"none", "Done", "Zero", "Bounds", "Size", "Deep", "Fuel", "Full", "Memory", "Fault"}

// tell is how something ended, as a text: its Way, its Code, what it told.
func tell(e api.End) string { return fmt.Sprint(wayNames[e.Way], " ", e.Code, " ", e.Out) }

// Places of main, in tests: three numbers, three arrays, one number more.
const (
	x = iota
	y
	z
	v
	w
	u
	q
	behind // the last one
)

// mainTypes are the types of these places.
func mainTypes() []int {
	return []int{api.Int, api.Int, api.Int, api.Arr, api.Arr, api.Arr, api.Int}
}

// program is steps of main, and other functions.
func program(steps []mid.Step, others ...mid.Fn) *mid.Code {
	return &mid.Code{Fns: append([]mid.Fn{{Name: "main", Types: mainTypes(), Steps: steps}}, others...)}
}

// Short ways to write steps.
func num(dst int, n int64) mid.Step { return mid.Step{Code: mid.Const, Dst: dst, N: n} }
func copied(dst, a int) mid.Step    { return mid.Step{Code: mid.Copy, Dst: dst, A: a} }
func two(dst, a int, op string, b int) mid.Step {
	return mid.Step{Code: mid.Two, Dst: dst, A: a, Op: op, B: b}
}
func jump(label int) mid.Step    { return mid.Step{Code: mid.Jump, Label: label} }
func zero(a, label int) mid.Step { return mid.Step{Code: mid.Zero, A: a, Label: label} }
func label(n int) mid.Step       { return mid.Step{Code: mid.Label, Label: n} }
func call(dst int, name string, args ...int) mid.Step {
	return mid.Step{Code: mid.Call, Dst: dst, Name: name, Args: args}
}
func ret(a int) mid.Step         { return mid.Step{Code: mid.Ret, A: a} }
func array(dst, a int) mid.Step  { return mid.Step{Code: mid.New, Dst: dst, A: a} }
func length(dst, a int) mid.Step { return mid.Step{Code: mid.Len, Dst: dst, A: a} }
func load(dst, a, b int) mid.Step {
	return mid.Step{Code: mid.Load, Dst: dst, A: a, B: b}
}
func store(a, b, c int) mid.Step { return mid.Step{Code: mid.Store, A: a, B: b, C: c} }
func show(a int) mid.Step        { return mid.Step{Code: mid.Print, A: a} }
func input(dst int) mid.Step     { return mid.Step{Code: mid.Input, Dst: dst} }

// steps is a list of them.
func steps(l ...mid.Step) []mid.Step { return l }

// ops are those of 7.1.
var ops = []string{"+", "-", "*", "/", "%", "==", "!=", "<", "<=", ">", ">="}

// given are lists of numbers that programs are given.
var given = [][]int64{nil, {0}, {1}, {2, 1, 0}, {3, -1, 4}, {-1, 5, 0, 7}, {40, 1 << 40}, {math.MinInt64, -1}}

// twin is a Code that is the same, and shares nothing.
func twin(c *mid.Code) *mid.Code {
	d := &mid.Code{Fns: slices.Clone(c.Fns)}
	for i := range d.Fns {
		f := &d.Fns[i]
		f.Types, f.Steps = slices.Clone(f.Types), slices.Clone(f.Steps)
		for k := range f.Steps {
			f.Steps[k].Args = slices.Clone(f.Steps[k].Args)
		}
	}
	return d
}

// byName are functions by their names.
func byName(c *mid.Code) map[string]mid.Fn {
	m := map[string]mid.Fn{}
	for _, f := range c.Fns {
		m[f.Name] = f
	}
	return m
}

// folded folds steps that are Right, and asks what can be asked of what it tells without a Run: that they are Right, no more, of the same functions with the same parameters, and that those that were handed in are as they were.
func folded(t *testing.T, what string, c *mid.Code) *mid.Code {
	t.Helper()
	before := twin(c)
	d, err := fold.Fold(c)
	if err != nil || d == nil {
		t.Fatalf("%s: Fold tells %v, %v", what, d, err)
	}
	if !reflect.DeepEqual(c, before) {
		t.Fatalf("%s: Fold wrote into\n%+v\nthat is now\n%+v", what, before, c)
	}
	if !d.Right() {
		t.Fatalf("%s\n%+v\nis folded to what is not Right:\n%+v", what, c, d)
	}
	if d.Steps() > c.Steps() {
		t.Errorf("%s\n%+v\nof %d steps is folded to %d", what, c, c.Steps(), d.Steps())
	}
	ours, theirs := byName(c), byName(d)
	if len(d.Fns) != len(c.Fns) || len(theirs) != len(ours) {
		t.Fatalf("%s: %d functions are folded to %d", what, len(c.Fns), len(d.Fns))
	}
	for name, f := range ours {
		g := theirs[name]
		if g.Name != name || g.Params != f.Params || !slices.Equal(g.Types[:g.Params], f.Types[:f.Params]) {
			t.Fatalf("%s: %q with %v of %v is folded to %q with %v of %v", what, name, f.Params, f.Types, g.Name, g.Params, g.Types)
		}
	}
	return d
}

// least is the least fuel with which steps do not end with Fuel, if it is at most so much, and how they end then.
func least(c *mid.Code, in []int64, most int) (n int, e api.End) {
	low, high := 0, 8
	for e = c.Run(in, high); e.Way == api.Fuel; e = c.Run(in, high) {
		if low, high = high+1, high*4; low > most {
			return 0, e
		}
	}
	for low < high {
		if half := (low + high) / 2; c.Run(in, half).Way == api.Fuel {
			low = half + 1
		} else {
			high = half
		}
	}
	return low, e
}

// fuels are those with which something that costs so much is looked at: all up to it, if they are not too many, and some beyond.
func fuels(cost int) []int {
	l := []int{-1, 0, 1, 2, cost - 1, cost, cost + 1, cost + 2, cost + 50, plenty, math.MaxInt}
	for fuel := range min(cost, 60) {
		l = append(l, fuel)
	}
	return l
}

// alike asks that folded steps end as those that they were made of, if these do not end with Fuel; and tells how these end.
func alike(t *testing.T, what string, c, d *mid.Code, in []int64) api.End {
	t.Helper()
	cost, end := least(c, in, 20_000)
	if end.Way == api.Fuel {
		d.Run(in, 100)
		return end
	}
	for _, fuel := range fuels(cost) {
		want := c.Run(in, fuel)
		if want.Way == api.Fuel {
			continue
		}
		if got := d.Run(in, fuel); tell(got) != tell(want) {
			t.Fatalf("%s\n%+v\nof %v with fuel %d (%d is enough) ends %s; folded\n%+v\nends %s", what, c, in, fuel, cost, tell(want), d, tell(got))
		}
	}
	return end
}

// same folds steps, once and twice, and asks all of 8.1, whatever they are given; it tells those that are folded once, and in which Ways they ended.
func same(t *testing.T, what string, c *mid.Code, lists ...[]int64) (once *mid.Code, ways []int) {
	t.Helper()
	once = folded(t, what, c)
	twice := folded(t, what+", twice", once)
	for _, in := range lists {
		ways = append(ways, alike(t, what, c, once, in).Way)
		alike(t, what+", twice", c, twice, in)
	}
	return once, ways
}

// wrong asks for ErrArg, and no steps.
func wrong(t *testing.T, what string, c *mid.Code) {
	t.Helper()
	if c.Right() {
		t.Fatalf("%s: is Right", what)
	}
	d, err := fold.Fold(c)
	if e, at := plain.Place(err); d != nil || e != api.ErrArg || at != -1 {
		t.Errorf("%s: Fold tells %v, error %d at %d; no steps and ErrArg are asked", what, d, e, at)
	}
}
