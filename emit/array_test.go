package emit_test

import (
	"fmt"
	"math"
	"slices"
	"testing"

	"bloomery/api"
	"bloomery/mid"
)

// 9.1: New, Len: arrays of every size, all numbers 0; too great ones.
func TestNew(t *testing.T) {
	for n := int64(0); n <= api.MaxArray; n++ {
		// Round by round, the last number first.
		c := main(num(x, n), array(v, x), length(y, v), show(y), num(z, 1), label(1), zero(y, 2), two(y, y, "-", z), load(x, v, y), show(x), store(v, y, y), jump(1), label(2), ret(x))
		ends(t, fmt.Sprint("an array of ", n), c, fmt.Sprint("Done ", []int64{n, 0}[min(n, 1)], " ", append([]int64{n}, make([]int64, n)...)))
		c = main(num(x, n), array(v, x), length(y, v), ret(y))
		ends(t, fmt.Sprint("how many are in an array of ", n), c, fmt.Sprint("Done ", n, " []"))
	}
	for _, n := range append(edge(), 41, 42, 48, 64, 128, 1<<13+1, 1<<60, 1<<61, 1<<61+1, 1<<61+2) {
		if n < 0 || n > api.MaxArray {
			ends(t, fmt.Sprint("an array of ", n), main(num(x, n), show(x), array(v, x), show(x), ret(x)), fmt.Sprint("Size 0 [", n, "]"))
		}
	}
	ends(t, "another one in its place", main(num(x, 3), array(v, x), num(x, 2), array(v, x), length(x, v), ret(x)), "Done 2 []")
	ends(t, "one without numbers in its place", main(num(x, 3), array(v, x), num(x, 0), array(v, x), length(x, v), show(x), load(x, v, x), ret(x)), "Bounds 0 [0]")
}

// 9.1: Load, Store: every number of an array, and those that it has not.
func TestItems(t *testing.T) {
	for _, size := range []int64{1, 2, 3, 39, api.MaxArray} {
		l := steps(num(x, size), array(v, x))
		out := []int64{}
		for i := range size {
			n := few[i%int64(len(few))] + i
			l = append(l, num(y, i), num(z, n), store(v, y, z))
			out = append(out, n)
		}
		for i := range size {
			l = append(l, num(y, i), load(z, v, y), show(z))
		}
		ends(t, fmt.Sprint("all of ", size), main(append(l, ret(y))...), fmt.Sprint("Done ", size-1, " ", out))
	}
	for _, size := range []int64{0, 1, 5, api.MaxArray} {
		for _, i := range append(edge(), size, size+1, -size, 1<<60, 1<<61, 1<<61+1, -1<<61, math.MinInt64+8) {
			if i >= 0 && i < size {
				continue
			}
			head := steps(num(x, size), array(v, x), array(w, x), num(y, i), show(x))
			want := fmt.Sprint("Bounds 0 [", size, "]")
			ends(t, fmt.Sprint(i, " of ", size), main(append(head, load(z, v, y), show(z), ret(z))...), want)
			ends(t, fmt.Sprint(i, " of ", size, ", written"), main(append(head, store(v, y, x), show(z), ret(z))...), want)
		}
	}
	ends(t, "Dst is B", main(num(x, 3), array(v, x), num(x, 2), num(y, 40), store(v, x, y), load(x, v, x), ret(x)), "Done 40 []")
	ends(t, "B is C", main(num(x, 4), array(v, x), num(x, 3), store(v, x, x), load(y, v, x), show(x), ret(y)), "Done 3 [3]")
	ends(t, "an array beside it", main(num(x, 2), array(v, x), array(w, x), array(u, x), num(y, 1), num(z, -1), store(w, y, z), store(w, x, z), ret(x)), "Bounds 0 []")
	ends(t, "arrays beside it", main(num(x, 2), array(v, x), array(w, x), array(u, x), num(y, 1), num(z, -1), store(w, y, z), store(w, q, z),
		load(z, v, y), show(z), load(z, v, q), show(z), load(z, u, y), show(z), load(z, u, q), show(z), length(z, v), show(z), length(z, u), ret(z)), "Done 2 [0 0 0 0 2]")
}

// 9.1: who has an array, has it, and not another one alike: two places, two functions; one of them writes.
func TestHeldByTwo(t *testing.T) {
	ends(t, "two places", main(num(x, 3), array(v, x), copied(w, v), num(y, 1), num(z, 7), store(w, y, z), load(x, v, y), show(x),
		num(x, 2), array(w, x), length(x, v), show(x), length(x, w), show(x), load(x, v, y), ret(x)), "Done 7 [7 3 2]")
	ends(t, "a place itself", main(num(x, 4), array(v, x), copied(v, v), length(x, v), ret(x)), "Done 4 []")
	ends(t, "one nobody wrote", main(num(x, 3), array(v, x), copied(v, w), length(x, v), ret(x)), "Done 0 []")
	set := mid.Fn{Name: "set", Params: 2, Types: []int{api.Arr, api.Int, api.Int}, Steps: steps(load(2, 0, 1), store(0, 1, 1), ret(2))}
	ends(t, "two functions", program(steps(num(x, 3), array(v, x), num(x, 2), call(y, "set", v, x), show(y), call(y, "set", v, x), show(y), load(y, v, x), ret(y)), set), "Done 2 [0 2]")
	// A parameter that becomes another array, does so in the callee alone.
	other := mid.Fn{Name: "other", Params: 2, Types: []int{api.Arr, api.Arr, api.Int, api.Int}, Steps: steps(num(2, 5), array(0, 2), num(3, 4), store(0, 3, 2), num(3, 0), store(1, 3, 2), length(2, 0), ret(2))}
	ends(t, "another one for the callee", program(steps(num(x, 1), array(v, x), call(y, "other", v, v), show(y), length(y, v), show(y), load(y, v, z), ret(y)), other), "Done 5 [5 1]")
	down := mid.Fn{Name: "down", Params: 2, Types: []int{api.Arr, api.Int, api.Int, api.Int, api.Arr}, Steps: steps(
		num(3, 1), load(2, 0, 1), two(2, 2, "+", 1), store(0, 1, 2), zero(1, 1), two(1, 1, "-", 3), copied(4, 0), call(2, "down", 4, 1), label(1), ret(1),
	)}
	ends(t, "handed on and on", program(steps(num(x, 4), array(v, x), num(x, 3), call(y, "down", v, x), call(y, "down", v, x), show(y),
		load(y, v, z), show(y), num(z, 1), load(y, v, z), show(y), num(z, 2), load(y, v, z), show(y), num(z, 3), load(y, v, z), ret(y)), down), "Done 6 [2 0 2 4]")
}

// churn makes arrays of so many numbers again and again, writes all of their numbers, drops them, and tells whether one of them had other numbers than 0 at first. It has places 3 to 5 of type Int, 0 and 1 (sizes, rounds) are parameters, 2 is the array.
func churn() mid.Fn {
	return mid.Fn{Name: "churn", Params: 2, Types: []int{api.Int, api.Int, api.Arr, api.Int, api.Int, api.Int}, Steps: steps(
		num(3, 1),
		label(1), zero(1, 4), two(1, 1, "-", 3), array(2, 0), copied(4, 0),
		label(2), zero(4, 1), two(4, 4, "-", 3), load(5, 2, 4), zero(5, 3), ret(5),
		label(3), num(5, -1), store(2, 4, 5), jump(2),
		label(4), num(5, 0), ret(5),
	)}
}

// 9.1: arrays that are made again and again and dropped, and those that are held meanwhile by places (two have one of them) and by calls that wait.
func TestMoved(t *testing.T) {
	fill := func(list int) []mid.Step {
		return steps(num(y, 0), num(z, int64(list)), store(list, y, z), num(y, 1), store(list, y, y))
	}
	tells := func(list int) []mid.Step {
		return steps(length(y, list), show(y), num(y, 0), load(z, list, y), show(z), num(y, 1), load(z, list, y), show(z))
	}
	for _, size := range []int64{1, 2, 7, 39, api.MaxArray} {
		for _, rounds := range []int64{1, 10, 150} {
			l := slices.Concat(steps(num(x, 5), array(v, x), num(x, api.MaxArray), array(w, x)), fill(v), fill(w), steps(copied(u, v), num(x, size), num(y, rounds), call(q, "churn", x, y)),
				tells(v), tells(w), steps(num(y, 1), num(z, 77), store(u, y, z)), tells(v), steps(show(q), num(x, size), num(y, rounds), call(q, "churn", x, y)), tells(u), steps(ret(q)))
			what, want := fmt.Sprint(rounds, " arrays of ", size), "Done 0 [5 3 1 40 4 1 5 3 77 0 5 3 77]"
			c := program(l, churn())
			if got := tell(c.Run(nil, 1_000_000)); got != want {
				t.Fatalf("%s: steps end %s", what, got)
			}
			done, moved := 0, 0
			for _, m := range planned(t, what, c, 2400, 2800, 3200, 3600, 4096, 4800, 6000, 8192, 16384, api.MaxBytes) {
				if got := tell(askAs(t, what, m, nil, want)); got == want {
					done++
					if 2*rounds*(size+1)*8 > int64(m.l.Other-m.l.Space) {
						moved++
					}
				}
			}
			if done < 5 || rounds > 100 && size > 5 && moved < 4 {
				t.Errorf("%s: %d machines are done with it, %d of them made room", what, done, moved)
			}
		}
	}
}

// 9.1: a call that waits, and calls within it, hold arrays while others make room.
func TestMovedInCalls(t *testing.T) {
	// f(n): its own array has n at its end and is held while f(n - 1), and then churn, are called; then it tells both ends of it.
	f := mid.Fn{Name: "f", Params: 2, Types: []int{api.Int, api.Arr, api.Arr, api.Int, api.Int, api.Int, api.Int}, Steps: steps(
		num(3, 1), two(4, 0, "+", 3), array(2, 4), store(2, 0, 0), zero(0, 1), two(5, 0, "-", 3), call(6, "f", 5, 2),
		label(1), num(4, 9), num(5, 13), call(6, "churn", 4, 5), show(6), load(6, 2, 0), show(6), length(6, 2), show(6), num(4, 0), load(5, 1, 4), two(5, 5, "+", 3), store(1, 4, 5), ret(5),
	)}
	c := program(steps(num(x, 2), array(v, x), num(x, 6), call(y, "f", x, v), show(y), load(y, v, z), ret(y)), f, churn())
	want := "Done 1 [0 0 1 0 1 2 0 2 3 0 3 4 0 4 5 0 5 6 0 6 7 1]"
	if got := tell(c.Run(nil, 1_000_000)); got != want {
		t.Fatalf("steps end %s", got)
	}
	done := 0
	bytes := []int{}
	for n := 1160; n < 5000; n += 40 {
		bytes = append(bytes, n)
	}
	for _, m := range planned(t, "in calls", c, bytes...) {
		if got := tell(askAs(t, "in calls", m, nil, want)); got == want {
			done++
		}
	}
	if done < 40 {
		t.Errorf("only %d machines are done with it", done)
	}
}
