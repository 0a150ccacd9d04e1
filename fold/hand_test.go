package fold_test

import (
	"fmt"
	"math"
	"testing"

	"bloomery/api"
	"bloomery/mid"
)

// hand is a program written by hand, how it ends of 2, 1, 0, and how many steps it has at most when it is folded (0: that is not asked).
type hand struct {
	what string
	code *mid.Code
	ends string
	most int
}

// look asks 8.1 of programs that are written by hand.
func look(t *testing.T, l []hand) {
	t.Helper()
	for _, h := range l {
		if got := tell(h.code.Run([]int64{2, 1, 0}, 5000)); got != h.ends {
			t.Errorf("%s: ends %s; %s is asked", h.what, got, h.ends)
		}
		d, _ := same(t, h.what, h.code, given...)
		if h.most > 0 && d.Steps() > h.most {
			t.Errorf("%s: has %d steps when it is folded, not at most %d: %+v", h.what, d.Steps(), h.most, d)
		}
		for _, in := range given {
			everyFuel(t, h.what, h.code, d, in)
		}
	}
}

// everyFuel asks that folded steps end as those that they were made of with every fuel, from 0 on up to where these end, and beyond.
func everyFuel(t *testing.T, what string, c, d *mid.Code, in []int64) {
	t.Helper()
	for fuel, beyond := 0, 0; fuel < 1500 && beyond < 10; fuel++ {
		want := c.Run(in, fuel)
		if want.Way == api.Fuel {
			d.Run(in, fuel)
			continue
		}
		beyond++
		if got := d.Run(in, fuel); tell(got) != tell(want) {
			t.Fatalf("%s: of %v with fuel %d ends %s, folded %s", what, in, fuel, tell(want), tell(got))
		}
	}
}

// main is a program of these steps alone.
func main(l ...mid.Step) *mid.Code { return program(l) }

// 8.1: labels, jumps, and what nobody comes to.
func TestRoads(t *testing.T) {
	look(t, []hand{
		{"labels in a row", main(input(x), zero(x, 1), zero(x, 3), num(y, 1), jump(2), label(1), label(2), label(3), show(y), ret(x)), "Done 2 [1]", 7},
		{"labels in a row, a jump ahead of them to the last one", main(input(x), jump(3), label(1), label(2), label(3), show(x), input(x), zero(x, 4), jump(1), label(4), ret(x)), "Done 0 [2 1]", 8},
		{"labels in a row, a jump ahead of them to the first one", main(input(x), jump(1), label(1), label(2), label(3), show(x), input(x), zero(x, 4), jump(2), label(4), ret(x)), "Done 0 [2 1]", 8},
		{"labels in a row, to which it goes from behind alone", main(label(1), label(2), label(3), input(x), show(x), zero(x, 4), input(y), zero(y, 2), zero(z, 1), label(4), ret(x)), "Done 0 [2 0]", 0},
		{"labels in a row, with jumps to the next step between", main(input(x), zero(x, 3), label(1), jump(2), label(2), jump(3), label(3), zero(x, 4), input(x), jump(1), label(4), ret(x)), "Done 0 []", 7},
		{"labels that nobody goes to", main(label(1), input(x), label(2), show(x), label(3), label(4), ret(x)), "Done 2 [2]", 3},
		{"a jump to the next step", main(input(x), jump(1), label(1), ret(x)), "Done 2 []", 2},
		{"a Zero to the next step", main(input(x), zero(x, 1), label(1), ret(x)), "Done 2 []", 2},
		{"jumps to the next step, one by one", main(input(x), zero(x, 1), zero(x, 1), zero(y, 1), jump(1), label(1), ret(x)), "Done 2 []", 2},
		{"a jump to the next step that is gone to from behind, too", main(input(x), jump(1), label(1), show(x), input(x), zero(x, 2), jump(1), label(2), ret(x)), "Done 0 [2 1]", 8},
		{"steps that nobody comes to", main(input(x), jump(1), show(x), label(2), show(y), jump(2), label(1), ret(x), show(x), ret(y)), "Done 2 []", 2},
		{"steps behind the end", main(input(x), ret(x), label(1), input(x), jump(1)), "Done 2 []", 2},
		{"a road that is known", main(num(x, 0), zero(x, 1), show(x), label(1), ret(x)), "Done 0 []", 1},
		{"another road that is known", main(num(x, 7), zero(x, 1), show(x), label(1), ret(x)), "Done 7 [7]", 3},
		{"a loop that ends nowhere", main(label(1), jump(1)), "Fuel 0 []", 2},
		{"a loop of two that ends nowhere", main(label(1), jump(2), label(2), jump(1)), "Fuel 0 []", 2},
		{"a loop that ends nowhere, and reckons", main(label(1), two(x, x, "+", y), num(y, 1), jump(1)), "Fuel 0 []", 2},
		{"a loop that ends nowhere, in one that is not come to", main(input(x), zero(x, 1), ret(x), label(1), label(2), jump(2)), "Done 2 []", 0},
		{"a loop that ends with Full", main(label(1), show(x), jump(1)), "Full 0 " + fmt.Sprint(make([]int64, api.MaxPrint)), 3},
		{"a loop that ends", main(num(x, 3), label(1), zero(x, 2), show(x), num(y, 1), two(x, x, "-", y), jump(1), label(2), ret(x)), "Done 0 [3 2 1]", 0},
		{"the first step is a label that is gone to", main(label(1), show(x), zero(x, 2), ret(x), label(2), num(x, 5), jump(1)), "Done 5 [0 5]", 0},
		{"a jump last", main(jump(2), label(1), ret(x), label(2), input(x), jump(1)), "Done 2 []", 0},
		{"Ret alone", main(ret(x)), "Done 0 []", 1},
		{"labels of any numbers", main(input(x), zero(x, math.MinInt), jump(-1), label(math.MinInt), label(0), show(y), ret(y), label(-1), show(x), zero(y, math.MaxInt), jump(0), label(math.MaxInt), ret(x)), "Done 2 [2]", 0},
		{"label 0, and steps that have none", main(input(x), jump(0), show(x), label(0), zero(x, 1), show(x), label(1), ret(x)), "Done 2 [2]", 5},
	})
}

// 8.1: copies.
func TestCopies(t *testing.T) {
	look(t, []hand{
		{"a copy", main(input(x), copied(y, x), show(y), ret(y)), "Done 2 [2]", 3},
		{"a copy of a copy", main(input(x), copied(y, x), copied(z, y), copied(q, z), show(q), ret(z)), "Done 2 [2]", 3},
		{"a copy, and what it is of is written", main(input(x), copied(y, x), input(x), show(x), show(y), ret(y)), "Done 2 [1 2]", 6},
		{"a copy that is written", main(input(x), copied(y, x), input(y), show(x), show(y), ret(x)), "Done 2 [2 1]", 5},
		{"a copy of a copy, and the one between is written", main(input(x), copied(y, x), copied(z, y), input(y), show(z), show(y), ret(x)), "Done 2 [2 1]", 5},
		{"a copy of a copy, and the first one is written", main(input(x), copied(y, x), copied(z, y), input(x), show(z), show(y), ret(x)), "Done 1 [2 2]", 6},
		{"a copy of a copy, and the last one is written", main(input(x), copied(y, x), copied(z, y), input(z), show(z), show(y), ret(x)), "Done 2 [1 2]", 5},
		{"a copy back", main(input(x), copied(y, x), copied(x, y), show(x), ret(y)), "Done 2 [2]", 3},
		{"two that change places", main(input(x), input(y), copied(z, x), copied(x, y), copied(y, z), show(x), show(y), ret(x)), "Done 1 [1 2]", 0},
		{"a copy of itself", main(input(x), copied(x, x), show(x), ret(x)), "Done 2 [2]", 3},
		{"a copy of what is known, and it is written", main(num(x, 5), copied(y, x), num(x, 6), show(y), show(x), ret(y)), "Done 5 [5 6]", 5},
		{"a copy on one road", main(input(x), input(y), zero(y, 1), copied(z, x), label(1), show(z), show(x), ret(z)), "Done 2 [2 2]", 0},
		{"a copy in a loop, and what it is of is written there", main(input(x), label(1), copied(y, x), zero(y, 2), input(x), show(y), show(x), jump(1), label(2), ret(y)), "Done 0 [2 1 1 0]", 0},
		{"a copy ahead of a loop", main(input(x), copied(y, x), label(1), show(y), zero(x, 2), input(x), jump(1), label(2), ret(y)), "Done 2 [2 2 2]", 0},
		{"a copy of an array", program(steps(num(x, 2), array(v, x), copied(w, v), store(w, y, x), load(z, v, y), ret(z))), "Done 2 []", 5},
		{"a copy of an array, and what it is of is written", main(num(x, 2), array(v, x), copied(w, v), store(v, y, x), array(v, x), store(v, y, y), load(z, w, y), ret(z)), "Done 2 []", 0},
		{"a copy of an array that is written", main(num(x, 2), array(v, x), copied(w, v), array(w, y), store(v, y, x), length(z, w), show(z), load(z, v, y), ret(z)), "Done 2 [0]", 0},
	})
}

// 8.1: what is known, and where it is not.
func TestKnownHere(t *testing.T) {
	const least = math.MinInt64
	look(t, []hand{
		{"known on one road", main(input(x), zero(x, 1), num(y, 5), label(1), show(y), ret(y)), "Done 5 [5]", 0},
		{"known on both roads, not the same", main(input(x), zero(x, 1), num(y, 5), jump(2), label(1), num(y, 6), label(2), show(y), ret(y)), "Done 5 [5]", 0},
		{"known ahead, not behind a loop", main(num(y, 3), label(1), show(y), num(z, 1), two(y, y, "-", z), zero(y, 2), jump(1), label(2), ret(y)), "Done 0 [3 2 1]", 0},
		{"written in a loop, once", main(label(1), show(y), zero(y, 2), ret(y), label(2), num(y, 4), jump(1)), "Done 4 [0 4]", 0},
		{"nobody wrote it", main(show(x), zero(x, 1), show(y), label(1), two(z, x, "==", y), ret(z)), "Done 1 [0]", 3},
		{"nobody wrote it, behind a loop", main(label(1), input(x), zero(x, 2), jump(1), label(2), two(z, q, "==", y), show(q), ret(z)), "Done 1 [0]", 8},
		{"nobody wrote it yet", main(show(x), num(x, 3), show(x), ret(x)), "Done 3 [0 3]", 4},
		{"nobody wrote that array", main(length(x, v), show(x), load(y, v, x), ret(y)), "Bounds 0 [0]", 0},
		{"nobody wrote that array, behind a loop", main(label(1), input(x), zero(x, 2), jump(1), label(2), length(y, w), ret(y)), "Done 0 []", 7},
		{"nobody wrote that array yet", main(length(x, v), show(x), num(y, 4), array(v, y), length(x, v), show(x), ret(x)), "Done 4 [0 4]", 0},
		{"that array in a loop", main(label(1), length(x, v), show(x), zero(x, 2), ret(x), label(2), num(y, 4), array(v, y), jump(1)), "Done 4 [0 4]", 0},
		{"an array whose numbers are counted", main(num(x, 3), array(v, x), length(y, v), two(z, y, "+", y), ret(z)), "Done 6 []", 4},
		{"an array of a number that is given", main(input(x), array(v, x), length(y, v), show(y), ret(y)), "Done 2 [2]", 5},
		{"Dst is A", main(input(x), num(y, 3), two(x, x, "-", y), two(x, x, "*", x), show(x), ret(x)), "Done 1 [1]", 6},
		{"Dst is B", main(input(x), num(y, 3), two(y, x, "-", y), two(x, y, "-", x), show(y), ret(x)), "Done -3 [-1]", 6},
		{"Dst is A, of known ones", main(num(x, 3), two(x, x, "+", x), two(x, x, "*", x), show(x), ret(x)), "Done 36 [36]", 3},
		{"Dst is A of an array's place", main(num(x, 2), array(v, x), num(y, 1), store(v, y, x), load(y, v, y), length(x, v), ret(y)), "Done 2 []", 0},
		{"Dst is an arg", program(steps(input(x), call(x, "f", x), show(x), ret(x)), mid.Fn{Name: "f", Params: 1, Types: []int{api.Int}, Steps: steps(two(0, 0, "+", 0), ret(0))}), "Done 4 [4]", 0},
		{"numbers that wrap", main(num(x, math.MaxInt64), num(y, 1), two(z, x, "+", y), show(z), two(z, z, "-", y), show(z), two(z, x, "*", x), ret(z)), "Done 1 [-9223372036854775808 9223372036854775807]", 0},
		{"the least number by -1", main(num(x, least), num(y, -1), two(z, x, "/", y), show(z), two(z, x, "%", y), ret(z)), "Done 0 [-9223372036854775808]", 0},
		{"a number that is told again", main(num(x, 5), num(y, 5), show(x), show(y), num(x, 6), show(y), num(y, 5), ret(y)), "Done 5 [5 5 5]", 0},
		{"a number that it is already", main(num(x, 0), num(y, 7), num(y, 7), copied(y, y), show(y), ret(x)), "Done 0 [7]", 3},
		{"written, and nobody asks", main(input(x), num(y, 1), num(y, 2), two(z, y, "+", x), length(z, v), copied(q, z), ret(x)), "Done 2 []", 2},
		{"written once more ahead of being asked for", main(input(x), two(y, x, "+", x), two(y, x, "*", x), show(y), num(y, 1), ret(x)), "Done 2 [4]", 4},
		{"only asked for by one that nobody asks for", main(label(1), input(x), two(y, y, "+", x), copied(z, y), zero(x, 2), jump(1), label(2), ret(x)), "Done 0 []", 6},
		{"asked for on one road", main(input(x), num(y, 9), zero(x, 1), show(y), label(1), ret(x)), "Done 2 [9]", 6},
		{"asked for in the next round alone", main(label(1), show(y), input(x), num(y, 3), zero(x, 2), jump(1), label(2), ret(x)), "Done 0 [0 3 3]", 8},
	})
}

// 8.1: what ends it, ends it, though nobody asks for its number; what is told and given is so in its order.
func TestEffects(t *testing.T) {
	look(t, []hand{
		{"a division by 0 that nobody asks for", main(num(x, 1), show(x), two(z, x, "/", y), ret(x)), "Zero 0 [1]", 0},
		{"what is left over by 0, nobody asks for it", main(num(x, 1), two(z, x, "%", y), show(x), ret(x)), "Zero 0 []", 0},
		{"a division by what is given, nobody asks for it", main(input(x), input(y), input(z), show(x), two(q, x, "/", z), ret(y)), "Zero 0 [2]", 0},
		{"a division that does not end it", main(input(x), num(y, 2), two(z, x, "/", y), show(z), ret(z)), "Done 1 [1]", 5},
		{"0 by 0", main(two(x, y, "/", z), ret(x)), "Zero 0 []", 2},
		{"a division by 0 behind the end", main(ret(x), two(x, y, "/", z), ret(x)), "Done 0 []", 1},
		{"a division by 0 on a road that is not gone", main(num(x, 1), zero(x, 1), ret(x), label(1), two(z, x, "/", y), ret(z)), "Done 1 []", 2},
		{"an array that is too great, nobody asks for it", main(num(x, 41), show(x), array(v, x), ret(y)), "Size 0 [41]", 0},
		{"an array of less than none, nobody asks for it", main(num(x, -1), array(v, x), show(x), ret(y)), "Size 0 []", 0},
		{"an array of as many as may be", main(num(x, 40), array(v, x), length(y, v), ret(y)), "Done 40 []", 0},
		{"a place that is not in it, nobody asks for it", main(num(x, 2), array(v, x), show(x), load(y, v, x), ret(x)), "Bounds 0 [2]", 0},
		{"a place below it, nobody asks for it", main(num(x, 2), array(v, x), num(y, -1), load(z, v, y), show(x), ret(x)), "Bounds 0 []", 0},
		{"a place that is not in it, written", main(num(x, 2), array(v, x), store(v, x, x), show(x), ret(x)), "Bounds 0 []", 0},
		{"a place of an array without numbers", main(load(x, v, y), ret(x)), "Bounds 0 []", 2},
		{"a place that is in it, nobody asks for it", main(num(x, 2), array(v, x), load(y, v, y), ret(x)), "Done 2 []", 0},
		{"what is told, in its order", main(num(x, 1), num(y, 2), show(y), show(x), show(y), show(y), ret(x)), "Done 1 [2 1 2 2]", 0},
		{"what is given, in its order", main(input(x), input(y), input(x), show(y), show(x), ret(y)), "Done 1 [1 0]", 0},
		{"what is given, and nobody asks for it", main(input(x), input(x), ret(y)), "Done 0 []", 3},
		{"what is given, two times into one place", main(input(x), input(x), show(x), ret(y)), "Done 0 [1]", 0},
		{"a call whose number nobody asks for", program(steps(call(x, "f"), call(x, "f"), ret(y)), mid.Fn{Name: "f", Types: []int{api.Int}, Steps: steps(input(0), show(0), ret(0))}), "Done 0 [2 1]", 6},
		{"a function that ends it, and nobody asks for its number", program(steps(show(x), call(x, "f"), ret(y)), mid.Fn{Name: "f", Types: []int{api.Int}, Steps: steps(two(0, 0, "/", 0), ret(0))}), "Zero 0 [0]", 0},
		{"calls that are Deep", main(show(x), call(x, "main"), ret(x)), "Deep 0 " + fmt.Sprint(make([]int64, api.MaxCalls)), 3},
		{"calls that are Deep, and nobody asks for their number", program(steps(call(x, "f", y), ret(z)), mid.Fn{Name: "f", Params: 1, Types: []int{api.Int}, Steps: steps(call(0, "f", 0), ret(0))}), "Deep 0 []", 0},
		{"told too much", main(num(y, 100), label(1), show(x), show(y), jump(1)), "Full 0 " + fmt.Sprint(zeros(0, 100, 100)), 0},
	})
}

// zeros is two numbers in turn, so many times.
func zeros(a, b int64, times int) (l []int64) {
	for range times {
		l = append(l, a, b)
	}
	return l
}

// down is a function that calls itself as often as it is told, and tells how often.
func down() mid.Fn {
	return mid.Fn{Name: "down", Params: 1, Types: []int{api.Int, api.Int, api.Int}, Steps: steps(
		zero(0, 1), num(1, 1), two(2, 0, "-", 1), call(2, "down", 2), two(2, 2, "+", 1), ret(2), label(1), ret(0))}
}

// 8.1: calls: as deep as may be, and deeper; parameters, of numbers and of arrays.
func TestCalls(t *testing.T) {
	for n := int64(api.MaxCalls - 4); n < api.MaxCalls+2; n++ {
		c := program(steps(num(x, n), call(y, "down", x), show(y), ret(y)), down())
		want := fmt.Sprint("Done ", n, " [", n, "]")
		if n > api.MaxCalls-2 {
			want = "Deep 0 []"
		}
		look(t, []hand{{fmt.Sprint("down of ", n), c, want, 0}})
	}
	take := func(l ...mid.Step) mid.Fn {
		return mid.Fn{Name: "f", Params: 3, Types: []int{api.Int, api.Arr, api.Int, api.Arr, api.Int}, Steps: l}
	}
	two40 := func(l ...mid.Step) []mid.Step {
		return append(steps(num(x, 2), array(v, x), num(y, 40)), l...)
	}
	look(t, []hand{
		{"a parameter is what it is given", program(two40(call(z, "f", x, v, y), show(z), call(z, "f", y, v, x), ret(z)), take(two(4, 0, "-", 2), ret(4))), "Done 38 [-38]", 0},
		{"a parameter that is written", program(two40(call(z, "f", x, v, y), show(x), ret(z)), take(show(0), num(0, 5), show(0), two(4, 0, "+", 2), ret(4))), "Done 45 [2 5 2]", 0},
		{"a parameter on two roads", program(two40(call(z, "f", x, v, y), call(q, "f", u0, v, y), show(z), ret(q)), take(zero(0, 1), num(2, 7), label(1), ret(2))), "Done 40 [7]", 0},
		{"a parameter that nobody writes, behind a label", program(two40(call(z, "f", x, v, y), ret(z)), take(label(1), zero(0, 2), num(4, 1), two(0, 0, "-", 4), jump(1), label(2), ret(2))), "Done 40 []", 0},
		{"a parameter's array is counted", program(two40(call(z, "f", x, v, y), show(z), call(z, "f", x, w, y), ret(z)), take(length(4, 1), ret(4))), "Done 0 [2]", 0},
		{"an array of another function is written", program(two40(num(q, 1), call(z, "f", q, v, y), load(z, v, q), ret(z)), take(store(1, 0, 2), ret(4))), "Done 40 []", 0},
		{"an array of another function's copy is written", program(two40(num(q, 1), call(z, "f", q, v, y), load(z, v, q), ret(z)), take(copied(3, 1), array(1, 0), store(3, 0, 2), length(4, 1), ret(4))), "Done 40 []", 0},
		{"an array twice in one call", program(two40(num(q, 1), copied(w, v), call(z, "g", v, w), load(z, v, q), show(z), load(z, w, q), ret(z)), mid.Fn{Name: "g", Params: 2, Types: []int{api.Arr, api.Arr, api.Int, api.Int}, Steps: steps(num(2, 1), store(0, 2, 2), load(3, 1, 2), two(3, 3, "+", 2), store(1, 2, 3), ret(3))}), "Done 2 [2]", 0},
		{"an array that is written between two looks", program(two40(load(z, v, u0), show(z), call(z, "f", u0, v, y), load(z, v, u0), show(z), ret(z)), take(store(1, 0, 2), ret(4))), "Done 40 [0 40]", 0},
		{"what is told in another function", program(two40(show(x), call(z, "f", x, v, y), show(y), ret(z)), take(show(2), input(4), show(4), ret(4))), "Done 2 [2 40 2 40]", 0},
	})
}

// u0 is a place of main that is 0 in these tests.
const u0 = q

// 8.1: arrays that are had by two places.
func TestArrays(t *testing.T) {
	look(t, []hand{
		{"written by one place, read by the other", main(num(x, 3), array(v, x), copied(w, v), num(y, 1), store(w, y, x), load(z, v, y), show(z), store(v, y, y), load(z, w, y), ret(z)), "Done 1 [3]", 0},
		{"two that are alike are two", main(num(x, 3), array(v, x), array(w, x), store(v, y, x), load(z, w, y), show(z), load(z, v, y), ret(z)), "Done 3 [0]", 0},
		{"a number of an array is not known", main(num(x, 3), array(v, x), copied(w, v), store(v, y, x), load(z, v, y), show(z), num(q, 5), store(w, y, q), load(z, v, y), ret(z)), "Done 5 [3]", 0},
		{"another array on one road", main(num(x, 3), array(v, x), array(w, x), store(w, y, x), input(q), zero(q, 1), copied(v, w), label(1), load(z, v, y), show(z), store(v, y, q), load(z, w, y), ret(z)), "Done 2 [3]", 0},
		{"another array in each round", main(num(x, 2), label(1), array(v, x), load(z, v, y), show(z), store(v, y, x), input(q), zero(q, 2), jump(1), label(2), length(z, v), ret(z)), "Done 2 [0 0 0]", 0},
		{"an array in a loop that grows", main(label(1), length(x, v), show(x), num(y, 1), two(x, x, "+", y), array(v, x), input(q), zero(q, 2), jump(1), label(2), ret(x)), "Done 3 [0 1 2]", 0},
		{"an array that another place lets go", main(num(x, 2), array(v, x), copied(w, v), copied(v, u), length(y, v), show(y), length(y, w), ret(y)), "Done 2 [0]", 0},
	})
}

// 8.1: each kind of step, at the beginning, behind each other kind, and in a loop.
func TestKindsOfSteps(t *testing.T) {
	for _, k := range kinds() {
		same(t, k.name, around(k.step), given...)
		for _, l := range kinds() {
			first, second := k.step, l.step
			if first.Code == mid.Label {
				first.Label = 3
			}
			c := program(steps(input(x), input(y), first, second, show(x), show(y), label(1), ret(x)), others()...)
			same(t, k.name+", "+l.name, c, given...)
			c = program(steps(input(y), num(z, 3), array(w, y), label(8), input(q), first, second, show(x), show(y), length(z, v), show(z), zero(q, 1), jump(8), label(1), ret(x)), others()...)
			same(t, k.name+", "+l.name+" in a loop", c, given...)
		}
	}
}
