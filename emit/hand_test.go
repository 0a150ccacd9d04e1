package emit_test

import (
	"fmt"
	"math"
	"slices"
	"strings"
	"testing"

	"bloomery/api"
	"bloomery/mid"
)

// edge are numbers at their ends, and about what an instruction has room for.
func edge() []int64 {
	l := []int64{0, 1, -1, 2, -2, 7, -7, math.MaxInt64, math.MaxInt64 - 1, math.MinInt64, math.MinInt64 + 1, 0x7fffffff7fffffff, 0x123456789abcdef0, -0x123456789abcdef0, 0x7ff7ff7ff7ff7ff, 0x800800800800800}
	for _, bits := range []int{11, 12, 20, 31, 32, 43, 44, 52, 55, 62} {
		for _, more := range []int64{-2049, -2048, -1, 0, 1, 2047, 2048} {
			l = append(l, 1<<bits+more, -1<<bits+more)
		}
	}
	return l
}

// few are some of these.
var few = []int64{0, 1, -1, 2, -2, 7, -7, 3_000_000_000, math.MaxInt64, math.MaxInt64 - 1, math.MinInt64, math.MinInt64 + 1}

// reckoned is what a mark comes to, as 6.2 tells it.
func reckoned(op string, a, b int64) (n int64, way int) {
	truth := func(yes bool) (int64, int) {
		if yes {
			return 1, 0
		}
		return 0, 0
	}
	switch op {
	case "+":
		return a + b, 0
	case "-":
		return a - b, 0
	case "*":
		return a * b, 0
	case "==":
		return truth(a == b)
	case "!=":
		return truth(a != b)
	case "<":
		return truth(a < b)
	case "<=":
		return truth(a <= b)
	case ">":
		return truth(a > b)
	case ">=":
		return truth(a >= b)
	}
	switch {
	case b == 0:
		return 0, api.Zero
	case op == "/" && b == -1:
		return -a, 0
	case op == "/":
		return a / b, 0
	case b == -1:
		return 0, 0
	}
	return a % b, 0
}

// 9.1: Const, Copy: every number is told as it is; only Dst is written.
func TestConstCopy(t *testing.T) {
	l, out := steps(), []int64{}
	for i, n := range edge() {
		if i%40 == 0 && i > 0 {
			ends(t, "numbers", main(append(l, ret(x))...), "Done 0 "+fmt.Sprint(out))
			l, out = nil, nil
		}
		l = append(l, num(y, n), copied(z, y), num(y, 5), show(z), show(x), show(q))
		out = append(out, n, 0, 0)
	}
	ends(t, "numbers", main(append(l, ret(x))...), "Done 0 "+fmt.Sprint(out))
	ends(t, "Const again", main(num(x, 1), num(x, 2), ret(x)), "Done 2 []")
	for _, n := range few {
		ends(t, "Ret", main(num(y, n), ret(y)), fmt.Sprint("Done ", n, " []"))
	}
	ends(t, "Ret, and what stands behind", main(num(y, 5), ret(y), show(y), num(y, 6), ret(y)), "Done 5 []")
}

// 9.1: Two: every mark, of numbers at their ends; and where the places are the same.
func TestTwo(t *testing.T) {
	for _, op := range ops {
		for _, a := range few {
			l, out := steps(num(x, a)), []int64{}
			for _, b := range few {
				n, way := reckoned(op, a, b)
				if way != 0 {
					ends(t, fmt.Sprint(a, op, b), main(num(x, a), num(y, b), show(y), two(z, x, op, y), show(z), ret(z)), fmt.Sprint(wayNames[way], " 0 [", b, "]"))
					continue
				}
				l = append(l, num(y, b), two(z, x, op, y), show(z), show(x), show(y))
				out = append(out, n, a, b)
			}
			ends(t, fmt.Sprint(a, op), main(append(l, ret(z))...), fmt.Sprint("Done ", out[len(out)-3], " ", out))
		}
		ends(t, "Dst is A, "+op, main(num(x, 9), num(y, 4), two(x, x, op, y), show(y), ret(x)), fmt.Sprint("Done ", first(reckoned(op, 9, 4)), " [4]"))
		ends(t, "Dst is B, "+op, main(num(x, 9), num(y, 4), two(y, x, op, y), show(x), ret(y)), fmt.Sprint("Done ", first(reckoned(op, 9, 4)), " [9]"))
		ends(t, "A is B, "+op, main(num(x, 9), two(y, x, op, x), show(x), ret(y)), fmt.Sprint("Done ", first(reckoned(op, 9, 9)), " [9]"))
		ends(t, "all are one, "+op, main(num(x, 9), two(x, x, op, x), ret(x)), fmt.Sprint("Done ", first(reckoned(op, 9, 9)), " []"))
	}
}

func first(n int64, _ int) int64 { return n }

// 9.1: places into which nobody wrote are 0, or an array without numbers, in each call.
func TestUnwritten(t *testing.T) {
	for _, place := range []int{x, y, z, q} {
		ends(t, "a number nobody wrote", main(show(place), ret(place)), "Done 0 [0]")
	}
	for _, place := range []int{v, w, u} {
		ends(t, "an array nobody wrote", main(num(x, 9), length(x, place), ret(x)), "Done 0 []")
		ends(t, "its first number", main(show(x), load(x, place, y), ret(x)), "Bounds 0 [0]")
		ends(t, "its first number, written", main(show(x), store(place, x, y), ret(x)), "Bounds 0 [0]")
	}
	f := mid.Fn{Name: "f", Params: 1, Types: []int{api.Int, api.Int, api.Arr, api.Int}, Steps: steps(
		show(1), length(3, 2), show(3), num(1, 8), num(3, 3), array(2, 3), length(3, 2), show(3), ret(0),
	)}
	ends(t, "two calls", program(steps(num(x, 5), call(y, "f", x), call(y, "f", y), ret(y)), f), "Done 5 [0 0 3 0 0 3]")
	f.Steps = steps(show(1), num(1, 1), zero(0, 1), two(0, 0, "-", 1), call(3, "f", 0), show(1), label(1), ret(3))
	ends(t, "a call within a call", program(steps(num(x, 2), call(y, "f", x), ret(y)), f), "Done 0 [0 0 0 1 1]")
	// All of them, where another call left numbers and arrays in just these places, and room is made meanwhile.
	leave := mid.Fn{Name: "leave", Types: slices.Concat(numbers(4), lists(4))}
	find := mid.Fn{Name: "find", Types: leave.Types, Steps: steps(num(0, 40))}
	for i := range 4 {
		leave.Steps = append(leave.Steps, num(i, int64(i+1)), array(4+i, i))
		if i > 0 {
			find.Steps = append(find.Steps, show(i))
		}
		find.Steps = append(find.Steps, length(0, 4+i), show(0))
	}
	leave.Steps, find.Steps = append(leave.Steps, ret(0)), append(find.Steps, ret(0))
	c := program(steps(num(x, 40), call(y, "leave"), call(y, "find"), call(y, "leave"), array(v, x), array(v, x), array(v, x), call(y, "find"), show(y), ret(x)), leave, find)
	ends(t, "places another call had", c, "Done 40 [0 0 0 0 0 0 0 0 0 0 0 0 0 0 0]")
	m := tight(t, "places another call had", c, 5*8, 2*41*8, 8*8)
	if got := tell(ask(t, "places another call had", c, m, nil)); got != tell(c.Run(nil, road)) {
		t.Errorf("places another call had, with little room: %s", got)
	}
}

// 9.1: Jump, Zero, Label.
func TestJumps(t *testing.T) {
	ends(t, "ahead", main(num(x, 1), jump(5), num(x, 2), label(4), num(x, 3), label(5), ret(x)), "Done 1 []")
	ends(t, "back", main(jump(1), label(2), show(x), ret(x), label(1), num(x, 6), jump(2)), "Done 6 [6]")
	ends(t, "to the next one", main(jump(1), label(1), zero(x, 2), label(2), ret(x)), "Done 0 []")
	ends(t, "labels one behind the other", main(label(3), label(1), label(-2), num(x, 4), ret(x)), "Done 4 []")
	all := []int{math.MinInt, math.MinInt + 1, -10, -1, 0, 1, 10, 11, math.MaxInt}
	l := steps()
	for i, n := range all {
		l = append(l, num(x, int64(i)), jump(n), show(q), label(n), show(x))
	}
	ends(t, "labels of any number", main(append(l, ret(x))...), "Done 8 [0 1 2 3 4 5 6 7 8]")
	far := mid.Fn{Name: "f", Types: []int{api.Int}, Steps: steps(jump(math.MinInt), label(2), num(0, 9), ret(0), label(math.MinInt), show(0), jump(2))}
	crowd := []mid.Fn{far}
	for len(crowd) < api.MaxFuncs-1 {
		far.Name += "f"
		crowd = append(crowd, far)
	}
	ends(t, "labels of another function", program(steps(jump(1), show(x), label(1), call(x, "f"), call(y, far.Name), label(2), ret(x)), crowd...), "Done 9 [0 0]")
	for _, n := range append(edge(), 256, 1<<32) {
		want := "Done 0 [8]"
		if n == 0 {
			want = "Done 0 []"
		}
		ends(t, fmt.Sprint("Zero of ", n), main(num(y, n), num(z, 8), zero(y, 1), show(z), label(1), ret(x)), want)
	}
	ends(t, "a round of three", main(num(x, 3), num(y, 1), label(1), show(x), two(x, x, "-", y), zero(x, 2), jump(1), label(2), ret(x)), "Done 0 [3 2 1]")
	for _, l := range [][]mid.Step{steps(label(1), jump(1)), steps(jump(1), ret(x), label(1), label(2), jump(1)), steps(label(1), input(x), jump(1))} {
		ends(t, "for ever", main(l...), "Fuel 0 []", 4, 5)
	}
}

// 9.1: a jump ahead, and back, over many steps: further than a branch reaches.
func TestFarJumps(t *testing.T) {
	for _, n := range []int{100, 340, 345, 520, 1000, 1600} {
		over := slices.Repeat(steps(two(y, y, "-", z)), n)
		ends(t, "ahead", main(slices.Concat(steps(zero(x, 1)), over, steps(label(1), ret(y)))...), "Done 0 []")
		ends(t, "not ahead", main(slices.Concat(steps(num(z, 1), zero(z, 1)), over, steps(label(1), ret(y)))...), fmt.Sprint("Done ", -n, " []"))
		ends(t, "back", main(slices.Concat(steps(num(z, 1), jump(2), label(1), ret(y), label(2)), over, steps(zero(x, 1), jump(2)))...), fmt.Sprint("Done ", -n, " []"))
		ends(t, "there and back", main(slices.Concat(steps(num(z, 1), num(x, 3), label(1), zero(x, 2)), over, steps(two(x, x, "-", z), jump(1), label(2), ret(y)))...), fmt.Sprint("Done ", -3*n, " []"))
		ends(t, "a call over many steps", program(slices.Concat(steps(jump(1)), over, steps(label(1), call(x, "f"), ret(x))),
			mid.Fn{Name: "f", Types: numbers(3), Steps: slices.Concat(steps(zero(0, 1)), slices.Repeat(steps(show(0)), n), steps(label(1), num(0, 4), ret(0)))}), "Done 4 []")
	}
}

// 9.1: Print: what is told, up to MaxPrint and beyond it.
func TestPrint(t *testing.T) {
	ends(t, "numbers at their ends", main(num(x, math.MaxInt64), num(y, math.MinInt64), show(x), show(y), show(z), ret(z)), "Done 0 [9223372036854775807 -9223372036854775808 0]")
	all := make([]int64, api.MaxPrint)
	for i := range all {
		all[i] = int64(i) * 3
	}
	told := strings.TrimSuffix(fmt.Sprint(all), "]")
	count := func(n int64, last ...mid.Step) *mid.Code {
		return main(slices.Concat(steps(num(y, n), num(z, 3), label(1), zero(y, 2), show(x), two(x, x, "+", z), num(q, 1), two(y, y, "-", q), jump(1), label(2)), last, steps(ret(y)))...)
	}
	ends(t, "MaxPrint", count(api.MaxPrint), "Done 0 "+told+"]")
	ends(t, "one more", count(api.MaxPrint+1), "Full 0 "+told+"]")
	ends(t, "one more, behind", count(api.MaxPrint, show(x)), "Full 0 "+told+"]")
	ends(t, "MaxPrint, and by 0", count(api.MaxPrint, two(x, x, "/", y)), "Zero 0 "+told+"]")
	ends(t, "for ever", main(num(x, 1), label(1), show(x), jump(1)), "Full 0 "+fmt.Sprint(slices.Repeat([]int64{1}, api.MaxPrint)))
	ends(t, "in a call", program(steps(show(x), num(x, 2), call(y, "f", x), show(y), ret(x)), mid.Fn{Name: "f", Params: 1, Types: numbers(2), Steps: steps(show(0), num(1, 3), show(1), ret(1))}), "Done 2 [0 2 3 3]")
}

// 9.1: Input: what is given, and beyond it.
func TestInput(t *testing.T) {
	three := main(num(x, 9), input(x), input(y), show(y), input(z), show(z), ret(x))
	ends(t, "nothing", three, "Done 0 [0 0]")
	ends(t, "one", three, "Done 5 [0 0]", 5)
	ends(t, "three", three, "Done 5 [-6 7]", 5, -6, 7)
	ends(t, "more", three, "Done 9223372036854775807 [-9223372036854775808 1]", math.MaxInt64, math.MinInt64, 1, 2, 3)
	sum := main(label(1), input(x), zero(x, 2), two(y, y, "+", x), jump(1), label(2), show(y), input(z), ret(z))
	ends(t, "until 0", sum, "Done 4 [6]", 1, 2, 3, 0, 4)
	ends(t, "until none is left", sum, "Done 0 [6]", 1, 2, 3)
	many := make([]int64, 500)
	for i := range many {
		many[i] = int64(i + 1)
	}
	ends(t, "many", sum, "Done 0 [125250]", many...)
	ends(t, "in a call", program(steps(input(x), call(y, "f"), input(z), show(x), show(y), ret(z)), mid.Fn{Name: "f", Types: numbers(1), Steps: steps(input(0), ret(0))}), "Done 3 [1 2]", 1, 2, 3)
}

// 9.1: a place that one step alone has, and that alone once, is a place like any other: 0, or an array without numbers.
func TestPlacesAlone(t *testing.T) {
	some := mid.Fn{Name: "f", Params: 2, Types: []int{api.Int, api.Arr}, Steps: steps(show(0), ret(0))}
	for what, c := range map[string]struct {
		steps []mid.Step
		want  string
	}{
		"Const":        {steps(num(q, 4)), "Done 5 []"},
		"Copy, Dst":    {steps(copied(q, x)), "Done 5 []"},
		"Copy, A":      {steps(copied(x, q)), "Done 0 []"},
		"Copy, arrays": {steps(copied(u, w)), "Done 5 []"},
		"Two, Dst":     {steps(two(q, x, "+", x)), "Done 5 []"},
		"Two, A":       {steps(two(x, q, "-", x)), "Done -5 []"},
		"Two, B":       {steps(two(x, x, "-", q)), "Done 5 []"},
		"Zero":         {steps(zero(q, 1), num(x, 6), label(1)), "Done 5 []"},
		"Call, Dst":    {steps(call(q, "f", x, v)), "Done 5 [5]"},
		"Call, Args":   {steps(call(x, "f", q, w)), "Done 0 [0]"},
		"Ret":          {steps(ret(q)), "Done 0 []"},
		"New, Dst":     {steps(array(u, x)), "Done 5 []"},
		"New, A":       {steps(array(v, q), length(x, v)), "Done 0 []"},
		"Len, Dst":     {steps(length(q, v)), "Done 5 []"},
		"Len, A":       {steps(length(x, w)), "Done 0 []"},
		"Load, Dst":    {steps(load(q, v, y)), "Done 5 []"},
		"Load, A":      {steps(load(x, w, y)), "Bounds 0 []"},
		"Load, B":      {steps(load(x, v, q)), "Done 7 []"},
		"Store, A":     {steps(store(w, x, x)), "Bounds 0 []"},
		"Store, B":     {steps(store(v, q, x), load(x, v, y)), "Done 5 []"},
		"Store, C":     {steps(store(v, y, q), load(x, v, y)), "Done 0 []"},
		"Print":        {steps(show(q)), "Done 5 [0]"},
		"Input":        {steps(input(q)), "Done 5 []"},
	} {
		head := steps(num(x, 1), array(v, x), num(z, 7), store(v, y, z), num(x, 5))
		ends(t, what, program(slices.Concat(head, c.steps, steps(ret(x))), some), c.want)
	}
}
