package emit_test

import (
	"fmt"
	"slices"
	"testing"

	"bloomery/api"
	"bloomery/emit"
	"bloomery/mid"
)

// down calls itself as often as it is told, and tells how often that was; then main goes through it.
func down(n int64) *mid.Code {
	return program(steps(num(x, n), call(y, "down", x), show(y), ret(x)), mid.Fn{Name: "down", Params: 1, Types: numbers(3), Steps: steps(
		zero(0, 1), num(1, 1), two(2, 0, "-", 1), call(2, "down", 2), two(2, 2, "+", 1), ret(2), label(1), ret(0),
	)})
}

// 9.1: calls within calls, up to those that are Deep.
func TestDeep(t *testing.T) {
	// main waits, and down(n) lets n more wait.
	for _, n := range []int64{0, 1, 2, 20, api.MaxCalls - 3, api.MaxCalls - 2} {
		ends(t, fmt.Sprint("down ", n), down(n), fmt.Sprint("Done ", n, " [", n, "]"))
	}
	for _, n := range []int64{api.MaxCalls - 1, api.MaxCalls, -1} {
		ends(t, fmt.Sprint("down ", n), down(n), "Deep 0 []")
	}
	ends(t, "main calls itself", main(show(x), call(x, "main"), ret(x)), "Deep 0 "+fmt.Sprint(make([]int64, api.MaxCalls)))
	ends(t, "main calls itself, if it is given", main(input(x), show(x), zero(x, 1), call(y, "main"), two(x, x, "+", y), label(1), ret(x)), "Done 6 [1 2 3 0]", 1, 2, 3)
	two := []mid.Fn{{Name: "f", Types: numbers(1), Steps: steps(call(0, "g"), ret(0))}, {Name: "g", Types: numbers(1), Steps: steps(call(0, "f"), ret(0))}}
	ends(t, "two call one another", program(steps(call(x, "f"), ret(x)), two...), "Deep 0 []")
	// Those that have ended do not wait.
	ends(t, "one behind the other", program(steps(num(x, 300), num(z, 1), label(1), zero(x, 2), call(y, "f"), two1(), jump(1), label(2), ret(y)), mid.Fn{Name: "f", Types: numbers(1), Steps: steps(num(0, 6), ret(0))}), "Done 6 []")
	again := down(api.MaxCalls - 2)
	again.Fns[0].Steps = steps(num(x, api.MaxCalls-2), call(y, "down", x), show(y), call(y, "down", x), show(y), num(x, api.MaxCalls-1), call(y, "down", x), ret(x))
	ends(t, "as deep again, and deeper", again, "Deep 0 [38 38]")
}

func two1() mid.Step { return two(x, x, "-", z) }

// 9.1: a call's parameters are its Args, in their order; Dst is what it tells; other places stay as they are.
func TestCalls(t *testing.T) {
	sub := mid.Fn{Name: "sub", Params: 2, Types: numbers(2), Steps: steps(two(0, 0, "-", 1), ret(0))}
	for what, c := range map[string]struct {
		step mid.Step
		want string
	}{
		"apart":       {call(z, "sub", x, y), "Done 7 [10 3 7]"},
		"Dst is one":  {call(x, "sub", x, y), "Done 7 [7 3 0]"},
		"Dst is two":  {call(y, "sub", x, y), "Done 7 [10 7 0]"},
		"twice":       {call(z, "sub", x, x), "Done 0 [10 3 0]"},
		"turned":      {call(z, "sub", y, x), "Done -7 [10 3 -7]"},
		"turned, Dst": {call(x, "sub", y, x), "Done -7 [-7 3 0]"},
	} {
		ends(t, what, program(steps(num(x, 10), num(y, 3), c.step, show(x), show(y), show(z), ret(c.step.Dst)), sub), c.want)
	}
	mixed := mid.Fn{Name: "mixed", Params: 5, Types: []int{api.Arr, api.Int, api.Arr, api.Arr, api.Int, api.Arr, api.Int}, Steps: steps(
		length(6, 0), show(6), show(1), length(6, 2), show(6), length(6, 3), show(6), show(4), length(6, 5), show(6), ret(4),
	)}
	ends(t, "of both types", program(steps(num(x, 1), array(v, x), num(x, 2), array(w, x), num(x, 7), num(y, 8), call(z, "mixed", w, x, v, u, y), show(x), show(y), ret(z)), mixed), "Done 8 [2 7 1 0 8 0 7 8]")
	idle := mid.Fn{Name: "idle", Params: 4, Types: []int{api.Int, api.Arr, api.Int, api.Arr}, Steps: steps(ret(2))}
	ends(t, "parameters nobody reads", program(steps(num(x, 5), num(y, 6), call(z, "idle", x, v, y, w), ret(z)), idle), "Done 6 []")
	names := []mid.Fn{{Name: "", Types: numbers(1), Steps: steps(num(0, 1), ret(0))}, {Name: "\xff f:\n", Types: numbers(1), Steps: steps(num(0, 2), ret(0))}, {Name: "MAIN", Types: numbers(1), Steps: steps(num(0, 4), ret(0))}}
	ends(t, "names of any kind", program(steps(call(x, ""), call(y, "\xff f:\n"), call(z, "MAIN"), two(x, x, "+", y), two(x, x, "+", z), ret(x)), names...), "Done 7 []")
	last := program(steps(call(x, "f"), ret(x)), mid.Fn{Name: "f", Types: numbers(1), Steps: steps(num(0, 3), ret(0))})
	slices.Reverse(last.Fns)
	ends(t, "main last", last, "Done 3 []")
}

// wide hands on so many numbers (at least two), and so many arrays; the callee tells what all of them come to, in their order, and main, then, what it has itself.
func wide(n, m int) *mid.Code {
	types := slices.Concat(numbers(n), lists(m))
	hash := steps()
	for i := 2; i < n; i++ {
		hash = append(hash, two(0, 0, "*", 1), two(0, 0, "+", i))
	}
	all, l := []int{}, steps()
	for i := range m {
		l = append(l, num(0, int64(i%(api.MaxArray+1))), array(n+i, 0))
		hash = append(hash, two(0, 0, "*", 1), copied(n-1, 0), length(0, n+i), two(0, 0, "+", n-1))
	}
	for i := range n + m {
		all = append(all, i)
		if i < n {
			l = append(l, num(i, int64(2*i+3)))
		}
	}
	f := mid.Fn{Name: "f", Params: n + m, Types: types, Steps: append(slices.Clone(hash), ret(0))}
	main := mid.Fn{Name: "main", Types: append(types, api.Int), Steps: append(l, call(n+m, "f", all...), show(n+m))}
	main.Steps = append(append(main.Steps, hash...), show(0), two(0, 0, "+", n+m), ret(0))
	return &mid.Code{Fns: []mid.Fn{main, f}}
}

// 9.1: many parameters, and many places: as many as a load reaches, and more.
func TestWide(t *testing.T) {
	for _, c := range [][2]int{{2, 0}, {2, 1}, {12, 3}, {100, 10}, {253, 1}, {254, 1}, {255, 1}, {256, 1}, {257, 2}, {400, 0}, {5, 30}, {320, 12}} {
		code := wide(c[0], c[1])
		want := code.Run(nil, road)
		ends(t, fmt.Sprint(c, " numbers and arrays"), code, tell(want))
		if want.Way != api.Done || len(want.Out) != 2 || want.Out[0] == 0 || want.Out[0] != want.Out[1] {
			t.Errorf("%v: ends %s", c, tell(want))
		}
	}
	// Arrays without numbers take no room but that of their places.
	for _, n := range []int{254, 255, 256, 257, 258, 700} {
		l := steps(num(0, 1), array(1, 0))
		for i := range n {
			l = append(l, copied(2+i, 1+i))
		}
		ends(t, fmt.Sprint(n, " arrays"), &mid.Code{Fns: []mid.Fn{{Name: "main", Types: slices.Concat(numbers(1), lists(n+1)), Steps: append(l, length(0, n+1), ret(0))}}}, "Done 1 []")
	}
	// As many as there may be are too many for any machine.
	for _, types := range [][]int{numbers(3000), append(numbers(1), lists(1999)...)} {
		l := steps(show(0))
		for i, kind := range types {
			l = append(l, []mid.Step{num(i, 1), length(0, i)}[kind-api.Int])
		}
		c := &mid.Code{Fns: []mid.Fn{{Name: "main", Types: types, Steps: append(l, ret(0))}}}
		if got := tell(each(t, "many places", c, nil)); got != "Memory 0 []" {
			t.Errorf("%d places: %s", len(types), got)
		}
	}
	// Those that no step has take no room.
	ends(t, "3000 places nobody asks for", &mid.Code{Fns: []mid.Fn{{Name: "main", Types: slices.Concat(numbers(1500), lists(1499), numbers(1)), Steps: steps(num(2999, 7), show(2999), ret(0))}}}, "Done 0 [7]")
}

// 9.1: a call that has no room ends with Memory, and what was told by then is told.
func TestNoRoomForCalls(t *testing.T) {
	c := program(steps(num(x, 1), show(x), call(x, "f", x), ret(x)), mid.Fn{Name: "f", Params: 1, Types: numbers(200), Steps: steps(show(0), copied(1, 0), two(0, 0, "+", 1), call(2, "f", 0), ret(2))})
	for i := 3; i < 200; i++ {
		c.Fns[1].Steps = slices.Insert(c.Fns[1].Steps, 1, num(i, int64(i)))
	}
	got := each(t, "f of 200 places", c, nil)
	if got.Way != api.Memory || len(got.Out) < 5 {
		t.Errorf("f of 200 places: %s", tell(got))
	}
	// Arrays, too: their places, not themselves.
	c = program(steps(num(x, 1), show(x), call(x, "f", x), ret(x)), mid.Fn{Name: "f", Params: 1, Types: slices.Concat(numbers(1), lists(100)), Steps: steps(show(0), call(0, "f", 0), ret(0))})
	for i := 1; i <= 100; i++ {
		c.Fns[1].Steps = slices.Insert(c.Fns[1].Steps, 1, copied(i, 1))
	}
	got = each(t, "f of 100 arrays", c, nil)
	if got.Way != api.Memory || len(got.Out) < 3 {
		t.Errorf("f of 100 arrays: %s", tell(got))
	}
}

// 9.1: where the words take more than Code, machines do nothing but end with Memory.
func TestNoRoomForWords(t *testing.T) {
	c := main(num(x, 1), show(x), num(x, 3), array(v, x), ret(x))
	n := len(assembled(t, "words", text(t, "words", c, emit.Plan(0, 4096))))
	for count := range n + 3 {
		l := emit.Plan(count, 4096)
		list := words(t, "words", text(t, "words", c, l))
		want := "Done 3 [1]"
		if len(list)*4 > l.Code {
			want = "Memory 0 []"
		}
		if got := tell(ask(t, "words", c, made{list, l}, nil)); got != want {
			t.Errorf("%d words for %+v end %s, not %s", len(list), l, got, want)
		}
	}
}
