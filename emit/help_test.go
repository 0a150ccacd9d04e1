package emit_test

import (
	"fmt"
	"reflect"
	"slices"
	"strings"
	"testing"

	"bloomery/api"
	"bloomery/asm"
	"bloomery/emit"
	"bloomery/machine"
	"bloomery/mid"
	"bloomery/plain"
)

const (
	plenty = 50_000_000 // fuel of a machine that nothing here spends, unless it goes on for ever
	some   = 2_000      // fuel of a machine whose steps go on for ever
	road   = 20_000     // fuel of steps: those that need more go on for ever
)

// wayNames are the Ways to end, by their numbers.
var wayNames = [...]string{"none", "Done", "Zero", "Bounds", "Size", "Deep", "Fuel", "Full", "Memory", "Fault"}

// tell is how something ended, as a text: its Way, its Code, what it told.
func tell(e api.End) string { return fmt.Sprint(wayNames[e.Way], " ", e.Code, " ", e.Out) }

// Places of main, in tests: three numbers, three arrays, one number more.
const (
	x = iota
	y
	z
	v
	w
	u
	q
	behind // the last one
)

// mainTypes are the types of these places.
func mainTypes() []int {
	return []int{api.Int, api.Int, api.Int, api.Arr, api.Arr, api.Arr, api.Int}
}

// program is steps of main, and other functions.
func program(steps []mid.Step, others ...mid.Fn) *mid.Code {
	return &mid.Code{Fns: append([]mid.Fn{{Name: "main", Types: mainTypes(), Steps: steps}}, others...)}
}

// main is a program of these steps alone.
func main(l ...mid.Step) *mid.Code { return program(l) }

// Short ways to write steps.
func num(dst int, n int64) mid.Step { return mid.Step{Code: mid.Const, Dst: dst, N: n} }
func copied(dst, a int) mid.Step    { return mid.Step{Code: mid.Copy, Dst: dst, A: a} }
func two(dst, a int, op string, b int) mid.Step {
	return mid.Step{Code: mid.Two, Dst: dst, A: a, Op: op, B: b}
}
func jump(label int) mid.Step    { return mid.Step{Code: mid.Jump, Label: label} }
func zero(a, label int) mid.Step { return mid.Step{Code: mid.Zero, A: a, Label: label} }
func label(n int) mid.Step       { return mid.Step{Code: mid.Label, Label: n} }
func call(dst int, name string, args ...int) mid.Step {
	return mid.Step{Code: mid.Call, Dst: dst, Name: name, Args: args}
}
func ret(a int) mid.Step         { return mid.Step{Code: mid.Ret, A: a} }
func array(dst, a int) mid.Step  { return mid.Step{Code: mid.New, Dst: dst, A: a} }
func length(dst, a int) mid.Step { return mid.Step{Code: mid.Len, Dst: dst, A: a} }
func load(dst, a, b int) mid.Step {
	return mid.Step{Code: mid.Load, Dst: dst, A: a, B: b}
}
func store(a, b, c int) mid.Step { return mid.Step{Code: mid.Store, A: a, B: b, C: c} }
func show(a int) mid.Step        { return mid.Step{Code: mid.Print, A: a} }
func input(dst int) mid.Step     { return mid.Step{Code: mid.Input, Dst: dst} }

// steps is a list of them.
func steps(l ...mid.Step) []mid.Step { return l }

// numbers are the types of so many places for numbers, lists of so many for arrays.
func numbers(n int) []int { return slices.Repeat([]int{api.Int}, n) }
func lists(n int) []int   { return slices.Repeat([]int{api.Arr}, n) }

// ops are those of 7.1.
var ops = []string{"+", "-", "*", "/", "%", "==", "!=", "<", "<=", ">", ">="}

// twin is a Code that is the same, and shares nothing.
func twin(c *mid.Code) *mid.Code {
	d := &mid.Code{Fns: slices.Clone(c.Fns)}
	for i := range d.Fns {
		f := &d.Fns[i]
		f.Types, f.Steps = slices.Clone(f.Types), slices.Clone(f.Steps)
		for k := range f.Steps {
			f.Steps[k].Args = slices.Clone(f.Steps[k].Args)
		}
	}
	return d
}

// assembled are a text's instructions.
func assembled(t *testing.T, what, text string) []api.Inst {
	t.Helper()
	l, err := asm.Assemble(text)
	if err != nil {
		e, at := plain.Place(err)
		t.Fatalf("%s: Assemble tells error %d at line %d of\n%.3000s", what, e, at, text)
	}
	return l
}

// words are a text's words.
func words(t *testing.T, what, text string) []uint32 {
	t.Helper()
	l, err := asm.Words(assembled(t, what, text))
	if err != nil {
		t.Fatalf("%s: Words tells %v", what, err)
	}
	return l
}

// text is what Text tells of steps for a layout, and asks that it tells that again, and that the steps are as they were.
func text(t *testing.T, what string, c *mid.Code, l emit.Layout) string {
	t.Helper()
	before := twin(c)
	s, err := emit.Text(c, l)
	if err != nil {
		t.Fatalf("%s: Text tells %v of\n%+v", what, err, c)
	}
	again, err := emit.Text(c, l)
	if err != nil || s != again {
		t.Fatalf("%s: Text tells two things of\n%+v", what, c)
	}
	if !reflect.DeepEqual(c, before) {
		t.Fatalf("%s: Text wrote into\n%+v\nthat is now\n%+v", what, before, c)
	}
	return s
}

// made is words, and the layout that they were made for.
type made struct {
	list []uint32
	l    emit.Layout
}

// planned are the words of steps, for machines of so many bytes each, with layouts for just so many words. (Of machines that have no room for them there are none.)
func planned(t *testing.T, what string, c *mid.Code, sizes ...int) []made {
	t.Helper()
	count := len(assembled(t, what, text(t, what, c, emit.Plan(0, sizes[0]))))
	var all []made
	for _, bytes := range sizes {
		l := emit.Plan(count, bytes)
		s, err := emit.Text(c, l)
		list := words(t, what, s)
		if err != nil || len(list)*4 > l.Code {
			t.Fatalf("%s: %d words (%v) are told for a layout of %+v", what, len(list), err, l)
		}
		if len(list)*4 <= bytes {
			all = append(all, made{list, l})
		}
	}
	return all
}

// afar are the words of steps, for a machine of so many bytes, in which all is reached as if it were far away.
func afar(t *testing.T, what string, c *mid.Code, bytes int) made {
	t.Helper()
	var m made
	for range 2 {
		m.l = emit.Plan(len(m.list), bytes)
		s, ok := emit.FromAfar(c, m.l)
		if !ok {
			t.Fatalf("%s: a function is too long", what)
		}
		m.list = words(t, what, s)
	}
	return m
}

// begins: is what was told the beginning of what is to be told?
func begins(told, all []int64) bool {
	return len(told) <= len(all) && slices.Equal(told, all[:len(told)])
}

// ask runs a machine with words for a layout, and asks that it ends as the steps do, or with Memory; it tells how the machine ended.
func ask(t *testing.T, what string, c *mid.Code, has made, in []int64) api.End {
	t.Helper()
	want, fuel := c.Run(in, road), plenty
	if want.Way == api.Fuel {
		fuel = some
	}
	got, m := goes(t, what, has, in, fuel)
	ok := tell(got) == tell(want)
	if got.Way == api.Memory || got.Way == api.Fuel && want.Way == api.Fuel {
		ok = got.Code == 0 && begins(got.Out, want.Out)
	}
	if !ok {
		t.Fatalf("%s\n%+v\nof %v ends %s; a machine with %+v: %s", what, c, in, tell(want), has.l, tell(got))
	}
	kept(t, what, m, has)
	return got
}

// askAs is ask, of steps whose end is known.
func askAs(t *testing.T, what string, has made, in []int64, want string) api.End {
	t.Helper()
	got, m := goes(t, what, has, in, plenty)
	told := strings.TrimSuffix(fmt.Sprint(got.Out), "]")
	if tell(got) != want && (got.Way != api.Memory || got.Code != 0 || !strings.Contains(want, told)) {
		t.Fatalf("%s: of %v %s is asked; a machine with %+v ends %s", what, in, want, has.l, tell(got))
	}
	kept(t, what, m, has)
	return got
}

// goes runs a machine with words for a layout.
func goes(t *testing.T, what string, has made, in []int64, fuel int) (api.End, *machine.Machine) {
	t.Helper()
	m, err := machine.New(has.list, has.l.Bytes, in)
	if err != nil {
		t.Fatalf("%s: New tells %v of %d words and %+v", what, err, len(has.list), has.l)
	}
	return m.Run(fuel), m
}

// kept asks that a machine wrote neither into its words, nor between them and the roots, nor between the spaces and the stack.
func kept(t *testing.T, what string, m *machine.Machine, has made) {
	t.Helper()
	list, l := has.list, has.l
	half := l.Other - l.Space
	for at := 0; at < l.Bytes; at += 8 {
		if at >= l.Roots && at < l.Other+half || at >= l.Floor {
			continue
		}
		want := int64(0)
		for i := at / 4; i < min(at/4+2, len(list)); i++ {
			want |= int64(list[i]) << (32 * (i - at/4))
		}
		if got, err := m.Load(int64(at)); err != nil || got != want {
			t.Fatalf("%s: byte %d of %+v is %x, not %x (%v)", what, at, l, got, want, err)
		}
	}
}

// sizes are how many bytes machines have, in tests.
var sizes = []int{api.MaxBytes, 32768, 8000, 3008, 1528, 1024, 800}

// each asks steps of machines of all these sizes; it tells how the first one ended.
func each(t *testing.T, what string, c *mid.Code, in []int64) (first api.End) {
	t.Helper()
	for i, m := range append(planned(t, what, c, sizes...), afar(t, what+", from afar", c, api.MaxBytes)) {
		if e := ask(t, what, c, m, in); i == 0 {
			first = e
		}
	}
	return first
}

// ends asks that steps, and machines with their words, end as it is told; the greatest ones not with Memory.
func ends(t *testing.T, what string, c *mid.Code, want string, in ...int64) {
	t.Helper()
	if got := tell(c.Run(in, road)); got != want {
		t.Fatalf("%s: steps end %s; %s is asked", what, got, want)
	}
	if got := tell(each(t, what, c, in)); got != want {
		t.Errorf("%s: a machine ends %s; %s is asked", what, got, want)
	}
}

// wrong asks for ErrArg, and no text.
func wrong(t *testing.T, what string, c *mid.Code) {
	t.Helper()
	if c.Right() {
		t.Fatalf("%s: is Right", what)
	}
	for _, l := range []emit.Layout{emit.Plan(200, 4096), {}} {
		s, err := emit.Text(c, l)
		if e, at := plain.Place(err); s != "" || e != api.ErrArg || at != -1 {
			t.Errorf("%s: Text tells %q, error %d at %d; no text and ErrArg are asked", what, s, e, at)
		}
	}
}
