package fold_test

import (
	"fmt"
	"math"
	"math/rand"
	"testing"

	"bloomery/api"
	"bloomery/mid"
)

// line is a function of 8.2: numbers alone, each written ahead of where it is read, and a Ret at the end.
func line(name string, places int, l ...mid.Step) mid.Fn {
	f := mid.Fn{Name: name, Steps: l}
	for range places {
		f.Types = append(f.Types, api.Int)
	}
	return f
}

// short asks 8.1 of a program, and 8.2 of a function of it that is such.
func short(t *testing.T, what string, c *mid.Code, name string) {
	t.Helper()
	d, _ := same(t, what, c, nil, []int64{3})
	if n := len(byName(d)[name].Steps); n > 2 {
		t.Errorf("%s\n%+v\nis folded to %d steps; at most two are asked: %+v", what, byName(c)[name], n, byName(d)[name])
	}
}

// within is a program in which a function of 8.2 stands: alone, if it is main, and beside others, which call it, or do not.
func within(f mid.Fn) []*mid.Code {
	if f.Name == "main" {
		return []*mid.Code{{Fns: []mid.Fn{f}}, {Fns: append(others(), f, down())}}
	}
	calls := program(steps(call(x, f.Name), show(x), call(y, f.Name), two(z, x, "-", y), ret(z)), f)
	calls.Fns = append(calls.Fns, others()...)
	return []*mid.Code{calls, program(steps(ret(x)), f), program(steps(input(x), label(1), zero(x, 2), input(x), jump(1), label(2), call(x, f.Name), ret(x)), f)}
}

// 8.2: written by hand.
func TestLines(t *testing.T) {
	const least = math.MinInt64
	for what, l := range map[string][]mid.Step{
		"a number":                                 steps(num(0, 5), ret(0)),
		"a nought":                                 steps(num(0, 0), ret(0)),
		"a copy":                                   steps(num(0, 5), copied(1, 0), ret(1)),
		"a copy of a copy":                         steps(num(0, 5), copied(1, 0), copied(2, 1), copied(3, 2), ret(3)),
		"a copy, and what it is of is written":     steps(num(0, 5), copied(1, 0), num(0, 6), ret(1)),
		"a copy of itself":                         steps(num(0, 5), copied(0, 0), ret(0)),
		"a copy of a copy of itself":               steps(num(0, 5), copied(1, 0), copied(0, 1), num(1, 7), copied(1, 0), ret(1)),
		"written twice":                            steps(num(0, 5), num(0, 6), ret(0)),
		"written as it was":                        steps(num(0, 5), num(0, 5), num(0, 5), ret(0)),
		"written, and another one, and again":      steps(num(0, 5), num(0, 6), num(0, 5), ret(0)),
		"a nought written again and again":         steps(num(0, 5), num(0, 0), num(1, 5), num(1, 0), ret(1)),
		"nobody asks for most":                     steps(num(0, 5), num(1, 6), two(2, 0, "+", 1), two(3, 2, "*", 2), ret(1)),
		"into itself":                              steps(num(0, 5), two(0, 0, "+", 0), two(0, 0, "*", 0), two(0, 0, "-", 0), ret(0)),
		"the most and one":                         steps(num(0, math.MaxInt64), num(1, 1), two(2, 0, "+", 1), ret(2)),
		"the least less one":                       steps(num(0, least), num(1, 1), two(2, 0, "-", 1), ret(2)),
		"the least by -1":                          steps(num(0, least), num(1, -1), two(2, 0, "/", 1), ret(2)),
		"what is left of the least by -1":          steps(num(0, least), num(1, -1), two(2, 0, "%", 1), ret(2)),
		"the least times itself":                   steps(num(0, least), two(1, 0, "*", 0), ret(1)),
		"the most times itself":                    steps(num(0, math.MaxInt64), two(1, 0, "*", 0), ret(1)),
		"two that change places":                   steps(num(0, 5), num(1, 6), copied(2, 0), copied(0, 1), copied(1, 2), two(3, 0, "-", 1), ret(3)),
		"one of what is known, under another name": steps(num(0, 5), num(1, 5), num(0, 6), ret(1)),
	} {
		for _, name := range []string{"main", "f"} {
			for i, c := range within(line(name, 4, l...)) {
				short(t, fmt.Sprint(what, " in ", name, " ", i), c, name)
			}
		}
	}
	// As many steps, and places, as there may be.
	long := steps(num(0, 1))
	for i := 1; i < 5999; i++ {
		long = append(long, two(i%3000, (i-1)%3000, ops[i%3], max(i-7, 0)%3000))
	}
	short(t, "the longest", &mid.Code{Fns: []mid.Fn{line("main", 3000, append(long, ret(5998%3000))...)}}, "main")
}

// 8.2: every Op, of numbers at their ends.
func TestLineOfEachOp(t *testing.T) {
	numbers := []int64{0, 1, -1, 2, -2, 3, 7, -7, 40, 1 << 31, -1 << 31, 3037000500, math.MaxInt64, math.MaxInt64 - 1, math.MinInt64, math.MinInt64 + 1}
	for _, op := range ops {
		for _, a := range numbers {
			for _, b := range numbers {
				f := line("main", 3, num(0, a), num(1, b), two(2, 0, op, 1), copied(0, 2), ret(0))
				c := &mid.Code{Fns: []mid.Fn{f}}
				what := fmt.Sprint(a, " ", op, " ", b)
				if _, way := mid.Both(op, a, b); way != 0 {
					// Then 8.2 asks nothing.
					d, _ := same(t, what, c, nil)
					if got := tell(d.Run(nil, 10)); got != "Zero 0 []" {
						t.Errorf("%s: ends %s", what, got)
					}
					continue
				}
				short(t, what, c, "main")
			}
		}
	}
}

// drawnLine draws a function of 8.2, and tells whether Both tells a way of its numbers.
func drawnLine(d *rand.Rand, name string) (f mid.Fn, ends bool) {
	places := 1 + d.Intn(6)
	known := map[int]int64{}
	some := func() int {
		for {
			if p := d.Intn(places); len(known) > 0 {
				if _, ok := known[p]; ok {
					return p
				}
			}
		}
	}
	var l []mid.Step
	for i := range 1 + d.Intn(20) {
		dst := d.Intn(places)
		switch n := d.Intn(4); {
		case i == 0 || n == 0:
			known[dst] = []int64{0, 1, -1, 2, 3, 5, 63, math.MaxInt64, math.MinInt64}[d.Intn(9)]
			l = append(l, num(dst, known[dst]))
		case n == 1:
			s := copied(dst, some())
			known[dst] = known[s.A]
			l = append(l, s)
		default:
			s := two(dst, some(), ops[d.Intn(len(ops))], some())
			n, way := mid.Both(s.Op, known[s.A], known[s.B])
			ends = ends || way != 0
			known[dst] = n
			l = append(l, s)
		}
	}
	return line(name, places, append(l, ret(some()))...), ends
}

// 8.2: drawn ones; those of which Both tells a way end so.
func TestLinesDrawn(t *testing.T) {
	d := rand.New(rand.NewSource(83))
	count := [2]int{}
	for range 3000 {
		name := []string{"main", "f"}[d.Intn(2)]
		f, ends := drawnLine(d, name)
		for _, c := range within(f) {
			if !ends {
				count[0]++
				short(t, "drawn", c, name)
				continue
			}
			count[1]++
			same(t, "drawn, and ends", c, nil, []int64{3})
		}
	}
	if count[0] < 1000 || count[1] < 1000 {
		t.Errorf("%d that tell, %d that end", count[0], count[1])
	}
}
