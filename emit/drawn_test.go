package emit_test

import (
	"math/rand"
	"testing"

	"bloomery/api"
	"bloomery/mid"
)

// 9.1: drawn steps: machines end as they do.
func TestDrawn(t *testing.T) {
	d := rand.New(rand.NewSource(92))
	ways := map[int]int{}
	for range 4000 {
		c := drawnCode(d)
		machines := planned(t, "drawn", c, api.MaxBytes, 8*(1+d.Intn(600)))
		if d.Intn(4) == 0 {
			machines = append(machines, afar(t, "drawn, from afar", c, api.MaxBytes))
		}
		for range 3 {
			in := drawnNumbers(d)
			for _, m := range machines {
				got := ask(t, "drawn", c, m, in)
				ways[got.Way]++
				if got.Way == api.Memory && m.l.Bytes == api.MaxBytes {
					t.Fatalf("%+v\nof %v ends %s; the greatest machine with Memory", c, in, tell(c.Run(in, road)))
				}
			}
		}
	}
	for _, way := range []int{api.Done, api.Zero, api.Bounds, api.Size, api.Deep, api.Fuel, api.Full, api.Memory} {
		if ways[way] < 100 {
			t.Errorf("%s was met %d times alone", wayNames[way], ways[way])
		}
	}
}

// drawnNumbers are some that a program is given.
func drawnNumbers(d *rand.Rand) []int64 {
	in := make([]int64, d.Intn(5))
	for i := range in {
		in[i] = []int64{0, 1, 2, 3, -1, 1 << 40}[d.Intn(6)]
	}
	return in
}

// drawnCode is steps that are Right.
func drawnCode(d *rand.Rand) *mid.Code {
	names := []string{"main", "f", "g"}[:1+d.Intn(3)]
	c := &mid.Code{}
	for _, s := range names {
		f := mid.Fn{Name: s}
		if s != "main" {
			f.Params = d.Intn(4)
		}
		for range f.Params + d.Intn(3) {
			f.Types = append(f.Types, api.Int+d.Intn(5)/3)
		}
		f.Types = append(f.Types, api.Int, api.Arr)
		c.Fns = append(c.Fns, f)
	}
	for i := range c.Fns {
		drawSteps(d, c, &c.Fns[i])
	}
	return c
}

// drawSteps draws those of one function.
func drawSteps(d *rand.Rand, c *mid.Code, f *mid.Fn) {
	place := func(kind int) int {
		i := d.Intn(len(f.Types))
		for f.Types[i] != kind {
			i = d.Intn(len(f.Types))
		}
		return i
	}
	i, a := func() int { return place(api.Int) }, func() int { return place(api.Arr) }
	labels := d.Perm(4)
	put := func() {
		if len(labels) > 0 {
			f.Steps, labels = append(f.Steps, label(labels[0])), labels[1:]
		}
	}
	for range 2 + d.Intn(16) {
		switch n := d.Intn(19); n {
		case 0, 1, 2, 3:
			f.Steps = append(f.Steps, num(i(), []int64{-1, 0, 1, 2, 3, 40, 41, 1 << 62}[d.Intn(8)]))
		case 4, 5:
			f.Steps = append(f.Steps, []mid.Step{copied(i(), i()), copied(i(), i()), copied(a(), a())}[d.Intn(3)])
		case 6, 7, 8:
			f.Steps = append(f.Steps, two(i(), i(), ops[d.Intn(len(ops))], i()))
		case 9, 10:
			f.Steps = append(f.Steps, []mid.Step{jump(d.Intn(4)), zero(i(), d.Intn(4)), zero(i(), d.Intn(4))}[d.Intn(3)])
		case 11, 12:
			// Often more than one in a row.
			for range 1 + d.Intn(2) {
				put()
			}
		case 13:
			f.Steps = append(f.Steps, drawnCall(d, c, place, i()))
		case 14:
			f.Steps = append(f.Steps, []mid.Step{input(i()), array(a(), i())}[d.Intn(2)])
		case 15:
			f.Steps = append(f.Steps, []mid.Step{length(i(), a()), ret(i())}[d.Intn(2)])
		case 16:
			f.Steps = append(f.Steps, []mid.Step{load(i(), a(), i()), store(a(), i(), i())}[d.Intn(2)])
		default:
			f.Steps = append(f.Steps, show(i()))
		}
	}
	for len(labels) > 0 {
		put()
	}
	f.Steps = append(f.Steps, []mid.Step{ret(i()), ret(i()), jump(d.Intn(4))}[d.Intn(3)])
	for i := range f.Steps {
		if d.Intn(4) == 0 {
			beside(d, &f.Steps[i])
		}
	}
}

// drawnCall draws a call.
func drawnCall(d *rand.Rand, c *mid.Code, place func(kind int) int, dst int) mid.Step {
	f := c.Fns[d.Intn(len(c.Fns))]
	s := call(dst, f.Name)
	for _, t := range f.Types[:f.Params] {
		s.Args = append(s.Args, place(t))
	}
	return s
}

// beside writes into what a step has not, and what means nothing.
func beside(d *rand.Rand, s *mid.Step) {
	for _, k := range kinds() {
		if k.step.Code != s.Code {
			continue
		}
		for i, p := range parts(s) {
			if k.types[i] == 0 {
				*p = d.Intn(9) - 1
			}
		}
	}
	if s.Code != mid.Const {
		s.N = int64(d.Intn(3))
	}
	if s.Code != mid.Two {
		s.Op = []string{"+", "/", ""}[d.Intn(3)]
	}
	if s.Code != mid.Call {
		s.Name, s.Args = "f", []int{-1, 0, 99}[:d.Intn(4)]
	}
	if s.Code != mid.Jump && s.Code != mid.Zero && s.Code != mid.Label {
		s.Label = d.Intn(5) - 1
	}
}

// spoil changes something, so that steps are often not Right any more.
func spoil(d *rand.Rand, c *mid.Code) {
	f := &c.Fns[d.Intn(len(c.Fns))]
	s := &f.Steps[d.Intn(len(f.Steps))]
	n := d.Intn(10) - 2
	switch d.Intn(12) {
	case 0:
		s.Dst = n
	case 1:
		s.A = n
	case 2:
		s.B = n
	case 3:
		s.C = n
	case 4:
		s.Code = n * 2
	case 5:
		s.Label = n
	case 6:
		s.Op = "&&"
	case 7:
		s.Name = "h"
	case 8:
		s.Args = append(s.Args, n)
	case 9:
		f.Types[d.Intn(len(f.Types))] = n
	case 10:
		f.Params = n
	default:
		f.Name = "main"
	}
}
