package emit_test

import (
	"fmt"
	"math"
	"math/rand"
	"testing"

	"bloomery/api"
	"bloomery/emit"
	"bloomery/mid"
)

// all is a program with every step, every mark, and every part that is shared.
func all() *mid.Code {
	l := steps(input(x), num(y, 3), num(z, -5_000_000_000), copied(q, y))
	for _, op := range ops {
		l = append(l, two(x, y, op, q), show(x))
	}
	l = append(l, array(v, y), copied(w, v), length(x, w), num(x, 1), store(v, x, z), load(z, w, x), show(z), call(z, "some", y, v, x), zero(z, 1), jump(2), label(1), ret(x), label(2), ret(z))
	return program(l, others()...)
}

// P1: layouts may be anything: Text tells instructions, and does not panic.
func TestAnyLayout(t *testing.T) {
	ends(t, "all", all(), "Done 3 [6 0 9 1 0 1 0 0 1 0 1 -5000000000]")
	anything := []int{math.MinInt, math.MinInt64 + 1, -1 << 40, -1<<31 - 1, -1 << 31, -4097, -8, -1, 0, 1, 7, 8, 2047, 2048, 4095, 4096, 65536, 1<<31 - 2049, 1<<31 - 2048, 1<<31 - 1, 1 << 31, 1 << 40, math.MaxInt}
	for _, n := range anything {
		for _, l := range []emit.Layout{{Code: n}, {Roots: n}, {Space: n}, {Other: n}, {Floor: n}, {Bytes: n}, {n, n, n, n, n, n}} {
			assembled(t, fmt.Sprintf("%+v", l), text(t, fmt.Sprintf("%+v", l), all(), l))
		}
	}
	d := rand.New(rand.NewSource(94))
	one := func() int { return anything[d.Intn(len(anything))] + d.Intn(3) - 1 }
	for range 300 {
		l := emit.Layout{Code: one(), Roots: one(), Space: one(), Other: one(), Floor: one(), Bytes: one()}
		assembled(t, fmt.Sprintf("%+v", l), text(t, fmt.Sprintf("%+v", l), all(), l))
	}
}

// 9.1: as many words are told whatever is planned: so one may plan for just so many.
func TestAsManyWords(t *testing.T) {
	d := rand.New(rand.NewSource(95))
	for range 40 {
		c := drawnCode(d)
		count := -1
		for _, bytes := range []int{0, 8, 1024, 2048, 4096, 8192, 65536, 1 << 20} {
			for _, planned := range []int{0, 1, 100, 511, 512, 513, 2000, 16384} {
				n := len(assembled(t, "drawn", text(t, "drawn", c, emit.Plan(planned, bytes))))
				if count >= 0 && n != count {
					t.Fatalf("%+v\nis told in %d words, and for %d words and %d bytes in %d", c, count, planned, bytes, n)
				}
				count = n
			}
		}
	}
}

// P4: nothing that is handed in is written into, nor what stands behind a list's length; what is told does not hang on that.
func TestUntouched(t *testing.T) {
	c := all()
	for i := range c.Fns {
		f := &c.Fns[i]
		for k := range f.Steps {
			f.Steps[k].Args = append(make([]int, 0, 9), f.Steps[k].Args...)
		}
		f.Types = append(make([]int, 0, 30), f.Types...)
		f.Steps = append(make([]mid.Step, 0, 90), f.Steps...)
	}
	l := emit.Plan(300, 4096)
	want := text(t, "all", c, l)
	for i := range c.Fns {
		f := &c.Fns[i]
		for k := range f.Steps {
			fill(f.Steps[k].Args, -7)
		}
		fill(f.Types, 9)
		fill(f.Steps, mid.Step{Code: 99, Args: []int{8}})
	}
	before := fmt.Sprintf("%+v", behindEnds(c))
	if text(t, "all", c, l) != want {
		t.Errorf("what Text tells hangs on what stands behind the ends of lists")
	}
	if got := fmt.Sprintf("%+v", behindEnds(c)); got != before {
		t.Errorf("Text wrote into\n%s\nnow\n%s", before, got)
	}
	// What was asked ahead of it makes no difference.
	for range 3 {
		text(t, "down", down(4), emit.Plan(100, 1024))
		if text(t, "all", c, l) != want {
			t.Errorf("Text tells something else after another call")
		}
	}
}

// fill fills what stands behind a list's end.
func fill[T any](l []T, with T) {
	for i := len(l); i < cap(l); i++ {
		l[:cap(l)][i] = with
	}
}

// behindEnds is what stands in a program's lists and behind their ends.
func behindEnds(c *mid.Code) (l []string) {
	for _, f := range c.Fns {
		l = append(l, fmt.Sprintf("%+v %+v", f.Types[:cap(f.Types)], f.Steps[:cap(f.Steps)]))
		for _, s := range f.Steps {
			l = append(l, fmt.Sprint(s.Args[:cap(s.Args)]))
		}
	}
	return l
}

// P4: lists that several functions share are no matter.
func TestOneListForAll(t *testing.T) {
	l, types := steps(input(0), zero(0, 1), call(1, "g", 0, 0), show(1), label(1), ret(0)), numbers(2)
	f := mid.Fn{Name: "f", Params: 2, Types: types, Steps: l}
	g := mid.Fn{Name: "g", Params: 2, Types: types, Steps: l}
	ends(t, "one list for all", &mid.Code{Fns: []mid.Fn{g, {Name: "main", Types: types, Steps: l}, f}}, "Done 4 [0 6 5]", 4, 5, 6)
}

// 9.1: Full comes from the machine: where it is met, nothing more is told, whatever waits.
func TestFullInCalls(t *testing.T) {
	f := mid.Fn{Name: "f", Params: 1, Types: numbers(2), Steps: steps(label(1), show(0), jump(1))}
	want := make([]int64, api.MaxPrint)
	for i := range want {
		want[i] = 6
	}
	ends(t, "told for ever in a call", program(steps(num(x, 6), show(x), call(y, "f", x), show(y), ret(y)), f), "Full 0 "+fmt.Sprint(want))
}
