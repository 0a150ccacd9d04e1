package mid_test

import (
	"fmt"
	"math"
	"strings"
	"testing"

	"bloomery/api"
	"bloomery/mid"
)

// 7.2: steps that are not Right end with Fault, and nothing is told, whatever stands ahead of what is wrong.
func TestFault(t *testing.T) {
	for what, c := range map[string]*mid.Code{
		"a place that is not there":   program(steps(num(x, 1), show(x), show(99), ret(x))),
		"a step that nobody comes to": program(steps(show(x), ret(x), show(99), ret(x))),
		"a function nobody calls":     program(steps(show(x), ret(x)), mid.Fn{Name: "f"}),
		"no last step":                program(steps(show(x))),
		"no main":                     {Fns: []mid.Fn{{Name: "f", Types: mainTypes(), Steps: steps(show(x), ret(x))}}},
	} {
		for _, fuel := range []int{plenty, 1, 0, -1} {
			if got := tell(c.Run([]int64{1}, fuel)); got != "Fault 0 []" {
				t.Errorf("%s, with fuel %d: %s", what, fuel, got)
			}
		}
	}
}

// 7.2: what main tells is the Code.
func TestRet(t *testing.T) {
	for _, n := range []int64{0, 1, -1, 7, math.MaxInt64, math.MinInt64} {
		ends(t, "Ret", program(steps(num(y, n), ret(y))), fmt.Sprint("Done ", n, " []"))
	}
	ends(t, "Ret, and what stands behind", program(steps(num(y, 5), ret(y), show(y), num(y, 6), ret(y))), "Done 5 []")
}

// 7.2: other places than parameters are 0, or an array without numbers.
func TestUnwritten(t *testing.T) {
	for _, place := range []int{x, y, z, q} {
		ends(t, "a number nobody wrote", program(steps(show(place), ret(place))), "Done 0 [0]")
	}
	for _, place := range []int{v, w, u} {
		ends(t, "an array nobody wrote", program(steps(num(x, 9), length(x, place), ret(x))), "Done 0 []")
		ends(t, "its first number", program(steps(show(x), load(x, place, y), ret(x))), "Bounds 0 [0]")
		ends(t, "its first number, written", program(steps(show(x), store(place, x, y), ret(x))), "Bounds 0 [0]")
	}
	// So they are in each call, whatever one ahead of it wrote.
	f := mid.Fn{Name: "f", Params: 1, Types: []int{api.Int, api.Int, api.Arr, api.Int}, Steps: steps(
		show(1), length(3, 2), show(3), num(1, 8), num(3, 3), array(2, 3), length(3, 2), show(3), ret(0),
	)}
	ends(t, "two calls", program(steps(num(x, 5), call(y, "f", x), call(y, "f", y), ret(y)), f), "Done 5 [0 0 3 0 0 3]")
	// And in one that is within another.
	f.Steps = steps(show(1), num(1, 1), zero(0, 1), two(0, 0, "-", 1), call(3, "f", 0), show(1), label(1), ret(3))
	ends(t, "a call within a call", program(steps(num(x, 2), call(y, "f", x), ret(y)), f), "Done 0 [0 0 0 1 1]")
}

// 7.2: Const: Dst is N; Copy: A; only Dst is written.
func TestConstCopy(t *testing.T) {
	for _, n := range []int64{0, 1, -1, math.MaxInt64, math.MinInt64} {
		ends(t, "Const", program(steps(num(y, n), show(x), show(y), show(z), ret(x))), fmt.Sprint("Done 0 [0 ", n, " 0]"))
		ends(t, "Copy", program(steps(num(x, 3), num(y, n), copied(x, y), num(y, 4), show(x), ret(y))), fmt.Sprint("Done 4 [", n, "]"))
	}
	ends(t, "Const again", program(steps(num(x, 1), num(x, 2), ret(x))), "Done 2 []")
	// Of an array it is the same one, until another one lies there.
	ends(t, "Copy of an array", program(steps(
		num(x, 3), array(v, x), copied(w, v), num(y, 1), num(z, 7), store(w, y, z), load(x, v, y), show(x),
		num(x, 2), array(w, x), length(x, v), show(x), length(x, w), show(x), load(x, v, y), ret(x),
	)), "Done 7 [7 3 2]")
	ends(t, "Copy of an array nobody wrote", program(steps(num(x, 3), array(v, x), copied(v, w), length(x, v), ret(x))), "Done 0 []")
}

// 7.2: a place may be both written and read by one step.
func TestDstIsA(t *testing.T) {
	for what, c := range map[string]struct {
		step mid.Step
		want int64
	}{
		"Copy":                {copied(x, x), 2},
		"Two, A":              {two(x, x, "-", y), -3},
		"Two, B":              {two(y, x, "-", y), -3},
		"Two, both":           {two(x, x, "*", x), 4},
		"Two, twice the same": {two(z, y, "+", y), 10},
		"Load":                {load(x, v, x), 40},
		"Call":                {call(x, "sub", y, x), 3},
		"Call, twice":         {call(x, "sub", x, x), 0},
	} {
		sub := mid.Fn{Name: "sub", Params: 2, Types: []int{api.Int, api.Int}, Steps: steps(two(0, 0, "-", 1), ret(0))}
		code := program(steps(num(x, 5), array(v, x), num(x, 2), num(y, 40), store(v, x, y), num(y, 5), c.step, ret(c.step.Dst)), sub)
		ends(t, what, code, fmt.Sprint("Done ", c.want, " []"))
	}
	ends(t, "Copy of an array", program(steps(num(x, 4), array(v, x), copied(v, v), length(x, v), ret(x))), "Done 4 []")
	ends(t, "Store, B and C", program(steps(num(x, 4), array(v, x), num(x, 3), store(v, x, x), load(y, v, x), ret(y))), "Done 3 []")
}

// 7.2: Jump: it goes on behind that Label, ahead or back; Label: nothing.
func TestJump(t *testing.T) {
	ends(t, "ahead", program(steps(num(x, 1), jump(5), num(x, 2), label(4), num(x, 3), label(5), ret(x))), "Done 1 []")
	ends(t, "back", program(steps(jump(1), label(2), show(x), ret(x), label(1), num(x, 6), jump(2))), "Done 6 [6]")
	ends(t, "to the next one", program(steps(jump(1), label(1), ret(x))), "Done 0 []")
	ends(t, "labels one behind the other", program(steps(label(3), label(1), label(-2), num(x, 4), ret(x))), "Done 4 []")
	ends(t, "any number", program(steps(jump(math.MinInt), label(math.MaxInt), ret(x), label(math.MinInt), num(x, 2), jump(math.MaxInt))), "Done 2 []")
	ends(t, "of this function", program(steps(jump(1), show(x), label(1), call(x, "f"), ret(x)),
		mid.Fn{Name: "f", Types: []int{api.Int}, Steps: steps(jump(1), label(2), num(0, 9), ret(0), label(1), show(0), jump(2))}), "Done 9 [0]")
	for _, l := range [][]mid.Step{steps(label(1), jump(1)), steps(jump(1), ret(x), label(1), label(2), jump(1)), steps(label(1), show(x), jump(1))} {
		if got := program(l).Run(nil, 150); got.Way != api.Fuel || got.Code != 0 {
			t.Errorf("for ever: %s", tell(got))
		}
	}
}

// 7.2: Zero: likewise, if A is 0.
func TestZero(t *testing.T) {
	for _, n := range []int64{0, 1, -1, 2, 256, 1 << 32, math.MaxInt64, math.MinInt64} {
		want := "Done 0 [8]"
		if n == 0 {
			want = "Done 0 []"
		}
		ends(t, fmt.Sprint("Zero of ", n), program(steps(num(y, n), num(z, 8), zero(y, 1), show(z), label(1), ret(x))), want)
	}
	ends(t, "back", program(steps(
		num(x, 3), num(y, 1), label(1), show(x), two(x, x, "-", y), two(z, x, "<=", q), zero(z, 1), ret(x),
	)), "Done 0 [3 2 1]")
}

// 7.2: New: an array of so many 0 (Size: not from 0 to MaxArray); Len.
func TestNewLen(t *testing.T) {
	for _, n := range []int64{math.MinInt64, -41, -1, 0, 1, 2, 39, 40, 41, 1 << 32, math.MaxInt64} {
		c := program(steps(num(x, n), show(x), array(v, x), length(y, v), ret(y)))
		want := fmt.Sprint("Size 0 [", n, "]")
		if n >= 0 && n <= api.MaxArray {
			want = fmt.Sprint("Done ", n, " [", n, "]")
		}
		ends(t, fmt.Sprint("New of ", n), c, want)
	}
	// All of it is 0.
	var l []mid.Step
	l = append(l, num(x, api.MaxArray), array(v, x))
	for i := range int64(api.MaxArray) {
		l = append(l, num(y, i), load(z, v, y), show(z))
	}
	ends(t, "all 0", program(append(l, ret(x))), "Done 40 ["+strings.TrimSpace(strings.Repeat("0 ", api.MaxArray))+"]")
	// Another one each time.
	ends(t, "another one", program(steps(num(x, 1), array(v, x), array(w, x), store(v, y, x), load(z, w, y), show(z), load(z, v, y), ret(z))), "Done 1 [0]")
}

// 7.2: Load, Store: A at B (Bounds: it has none).
func TestLoadStore(t *testing.T) {
	for _, at := range []int64{math.MinInt64, -1, 0, 1, 2, 3, 40, 1 << 32, math.MaxInt64} {
		in := at >= 0 && at < 3
		want := "Bounds 0 [7]"
		if in {
			want = "Done 0 [7]"
		}
		ends(t, fmt.Sprint("Load at ", at), program(steps(num(y, 7), show(y), num(x, 3), array(v, x), num(x, at), load(y, v, x), ret(y))), want)
		if in {
			want = "Done 7 [7]"
		}
		ends(t, fmt.Sprint("Store at ", at), program(steps(num(y, 7), show(y), num(x, 3), array(v, x), num(x, at), store(v, x, y), load(z, v, x), ret(z))), want)
	}
	// Only that number is written.
	ends(t, "one of them", program(steps(
		num(x, 3), array(v, x), num(x, 1), num(y, 9), store(v, x, y),
		load(z, v, q), show(z), load(z, v, x), show(z), num(x, 2), load(z, v, x), show(z), ret(x),
	)), "Done 2 [0 9 0]")
	ends(t, "of none", program(steps(array(v, x), load(y, v, x), ret(y))), "Bounds 0 []")
}

// 7.2: Print: it is told (Full: MaxPrint were).
func TestPrint(t *testing.T) {
	var l []mid.Step
	var told []string
	for i := range int64(api.MaxPrint) {
		l = append(l, num(x, i-3), show(x))
		told = append(told, fmt.Sprint(i-3))
	}
	all := "[" + strings.Join(told, " ") + "]"
	ends(t, "MaxPrint", program(append(l, ret(y))), "Done 0 "+all)
	ends(t, "MaxPrint, and another end", program(append(l, two(x, x, "/", y), ret(x))), "Zero 0 "+all)
	ends(t, "one more", program(append(l, show(y), ret(y))), "Full 0 "+all)
}

// 7.2: Input: the next of in (0: none is left).
func TestInput(t *testing.T) {
	c := program(steps(input(x), show(x), num(y, 9), input(y), show(y), call(z, "f"), show(z), input(x), ret(x)),
		mid.Fn{Name: "f", Types: []int{api.Int}, Steps: steps(input(0), ret(0))})
	for _, k := range []struct {
		in   []int64
		want string
	}{
		{nil, "Done 0 [0 0 0]"},
		{[]int64{4}, "Done 0 [4 0 0]"},
		{[]int64{4, -5, 6}, "Done 0 [4 -5 6]"},
		{[]int64{math.MinInt64, 0, math.MaxInt64, 8}, fmt.Sprint("Done 8 [", math.MinInt64, " 0 ", math.MaxInt64, "]")},
		{[]int64{1, 2, 3, 4, 5, 6}, "Done 4 [1 2 3]"},
	} {
		ends(t, fmt.Sprint("given ", k.in), c, k.want, k.in...)
	}
}

// 7.2: Call: Dst is what Name tells; parameters are Args.
func TestCall(t *testing.T) {
	sub := mid.Fn{Name: "sub", Params: 2, Types: []int{api.Int, api.Int, api.Int}, Steps: steps(two(2, 0, "-", 1), num(0, 99), num(1, 98), ret(2))}
	twice := mid.Fn{Name: "twice", Params: 1, Types: []int{api.Int, api.Int}, Steps: steps(num(1, 3), call(1, "sub", 0, 1), call(0, "sub", 1, 0), ret(0))}
	ends(t, "args in their order", program(steps(num(x, 9), num(y, 4), call(z, "sub", x, y), show(z), call(z, "sub", y, x), show(x), show(y), ret(z)), sub), "Done -5 [5 9 4]")
	ends(t, "a call within a call", program(steps(num(x, 9), call(y, "twice", x), show(x), ret(y)), sub, twice), "Done -3 [9]")
	ends(t, "functions in any order", &mid.Code{Fns: []mid.Fn{twice, sub, {Name: "main", Types: []int{api.Int}, Steps: steps(num(0, 9), call(0, "twice", 0), ret(0))}}}, "Done -3 []")
	// It goes on behind the call, and has its own places still.
	ends(t, "places of its own", program(steps(num(x, 1), num(y, 2), num(z, 3), call(q, "sub", x, z), show(x), show(y), show(z), ret(q)), sub), "Done -2 [1 2 3]")
	// It may tell what is below 0, or the greatest.
	tells := mid.Fn{Name: "f", Types: []int{api.Int}, Steps: steps(num(0, math.MinInt64), ret(0))}
	ends(t, "the least", program(steps(call(x, "f"), ret(x)), tells), fmt.Sprint("Done ", math.MinInt64, " []"))
	// What is told, and taken, in a call stands in one row with the rest.
	ends(t, "one row", program(steps(input(x), show(x), call(x, "f"), input(x), show(x), ret(x)),
		mid.Fn{Name: "f", Types: []int{api.Int}, Steps: steps(input(0), show(0), ret(0))}), "Done 3 [1 2 3]", 1, 2, 3)
}

// 7.2: parameters that are arrays are those of the caller, as long as no other array lies there.
func TestArrayArgs(t *testing.T) {
	put := mid.Fn{Name: "put", Params: 3, Types: []int{api.Arr, api.Int, api.Int}, Steps: steps(store(0, 1, 2), ret(2))}
	ends(t, "written into", program(steps(
		num(x, 3), array(v, x), copied(w, v), num(x, 2), num(y, 8), call(z, "put", v, x, y), load(z, w, x), ret(z),
	), put), "Done 8 []")
	other := mid.Fn{Name: "other", Params: 1, Types: []int{api.Arr, api.Int}, Steps: steps(num(1, 1), array(0, 1), store(0, 1, 1), ret(1))}
	ends(t, "another one", program(steps(num(x, 3), array(v, x), call(y, "other", v), ret(y)), other), "Bounds 0 []")
	other.Steps = steps(array(0, 1), length(1, 0), ret(1))
	ends(t, "another one, of the callee alone", program(steps(num(x, 3), array(v, x), call(y, "other", v), length(x, v), show(x), ret(y)), other), "Done 0 [3]")
	both := mid.Fn{Name: "both", Params: 2, Types: []int{api.Arr, api.Arr, api.Int, api.Int}, Steps: steps(num(2, 6), store(0, 3, 2), load(2, 1, 3), ret(2))}
	ends(t, "one array for two", program(steps(num(x, 1), array(v, x), call(y, "both", v, v), ret(y)), both), "Done 6 []")
	ends(t, "two arrays", program(steps(num(x, 1), array(v, x), array(w, x), call(y, "both", v, w), ret(y)), both), "Done 0 []")
	ends(t, "an array nobody wrote", program(steps(num(x, 1), call(y, "both", v, w), ret(y)), both), "Bounds 0 []")
}

// down is steps that call themselves so often, and then do something.
func down(n int64, last ...mid.Step) *mid.Code {
	f := mid.Fn{Name: "f", Params: 1, Types: []int{api.Int, api.Int, api.Int}, Steps: append(steps(
		show(0), zero(0, 1), num(1, 1), two(1, 0, "-", 1), call(2, "f", 1), show(0), ret(2), label(1)), last...)}
	return program(steps(num(x, n), call(y, "f", x), ret(y)), f, mid.Fn{Name: "g", Types: []int{api.Int}, Steps: steps(show(0), ret(0))})
}

// told are numbers from one down to another.
func told(from, to int) string {
	var l []string
	for i := from; i >= to; i-- {
		l = append(l, fmt.Sprint(i))
	}
	return strings.Join(l, " ")
}

// 7.2: A call (Deep: MaxCalls wait already): with main, MaxCalls may wait for one another, and no more.
func TestDeep(t *testing.T) {
	const most = api.MaxCalls
	ends(t, "one fewer", down(most-3, num(1, 4), ret(1)), "Done 4 ["+told(most-3, 0)+" "+up(1, most-3)+"]")
	ends(t, "MaxCalls", down(most-2, num(1, 4), ret(1)), "Done 4 ["+told(most-2, 0)+" "+up(1, most-2)+"]")
	ends(t, "one more", down(most-1, num(1, 4), ret(1)), "Deep 0 ["+told(most-1, 1)+"]")
	ends(t, "one more, of another", down(most-2, call(1, "g"), ret(1)), "Deep 0 ["+told(most-2, 0)+"]")
	ends(t, "as many, of another", down(most-3, call(1, "g"), ret(1)), "Done 0 ["+told(most-3, 0)+" 0 "+up(1, most-3)+"]")
	// Calls that ended wait no more.
	var l []mid.Step
	for range 3 * most {
		l = append(l, call(x, "g"))
	}
	ends(t, "one behind the other", program(append(l, ret(x)), mid.Fn{Name: "g", Types: []int{api.Int}, Steps: steps(ret(0))}), "Done 0 []")
	ends(t, "main itself", program(steps(call(x, "main"), ret(x))), "Deep 0 []")
}

// up are numbers from one up to another.
func up(from, to int) string {
	var l []string
	for i := from; i <= to; i++ {
		l = append(l, fmt.Sprint(i))
	}
	return strings.Join(l, " ")
}

// 7.2: where it ends in another Way than Done, in whichever call, Code is 0, and Out is all that was told.
func TestWays(t *testing.T) {
	for _, k := range []struct {
		name string
		last []mid.Step
		want string
	}{
		{"by 0", steps(two(1, 0, "/", 0), ret(1)), "Zero 0 [3 2 1 0]"},
		{"the rest by 0", steps(two(1, 0, "%", 0), ret(1)), "Zero 0 [3 2 1 0]"},
		{"ahead of Ret", steps(num(1, 7), show(1), two(2, 1, "/", 0), ret(1)), "Zero 0 [3 2 1 0 7]"},
		{"Done", steps(num(1, 7), ret(1)), "Done 7 [3 2 1 0 1 2 3]"},
		{"Deep", steps(call(1, "main"), ret(1)), "Deep 0 [" + strings.TrimSpace(strings.Repeat("3 2 1 0 ", 8)) + "]"},
		{"Full", steps(label(2), show(0), jump(2)), "Full 0 [3 2 1 " + strings.TrimSpace(strings.Repeat("0 ", api.MaxPrint-3)) + "]"},
	} {
		ends(t, k.name, down(3, k.last...), k.want)
	}
	wrong := mid.Fn{Name: "f", Params: 1, Types: []int{api.Arr, api.Int, api.Int}, Steps: nil}
	for want, l := range map[string][]mid.Step{
		"Bounds 0 [5 0]": steps(show(1), load(1, 0, 1), ret(1)),
		"Bounds 0 [5]":   steps(num(1, -1), store(0, 1, 1), show(1), ret(1)),
		"Size 0 [5]":     steps(num(1, 41), array(0, 1), show(1), ret(1)),
		"Size 0 [5 0]":   steps(show(1), num(1, -1), array(0, 1), show(1), ret(1)),
	} {
		wrong.Steps = l
		ends(t, "within a call", program(steps(num(x, 5), show(x), call(x, "f", v), show(x), ret(x)), wrong), want)
	}
	// Fuel, within a call.
	if got := tell(down(3, steps(label(2), jump(2))...).Run(nil, 500)); got != "Fuel 0 [3 2 1 0]" {
		t.Errorf("within a call: %s", got)
	}
}

// 7.2: each step costs one, whichever it is, a Label, too; those that it goes past, nothing.
func TestCost(t *testing.T) {
	for _, k := range kinds() {
		if k.step.Code == mid.Ret || k.step.Code == mid.Jump || k.step.Code == mid.Zero || k.step.Code == mid.Call {
			continue
		}
		l := steps(num(x, 1), array(v, x), num(x, 0), k.step, ret(y))
		want := "Done 0 []"
		if k.step.Code == mid.Print {
			want = "Done 0 [0]"
		}
		costs(t, k.name, program(l), len(l), want)
	}
	costs(t, "Ret", program(steps(ret(x))), 1, "Done 0 []")
	costs(t, "Ret, and what stands behind", program(steps(ret(x), num(x, 1), ret(x))), 1, "Done 0 []")
	// It goes on behind the Label, which costs nothing then.
	costs(t, "Jump", program(steps(jump(1), label(1), ret(x))), 2, "Done 0 []")
	costs(t, "Jump past others", program(steps(jump(1), num(x, 1), label(2), num(x, 2), label(1), ret(x))), 2, "Done 0 []")
	costs(t, "Zero that goes", program(steps(zero(x, 1), num(x, 1), label(1), ret(x))), 2, "Done 0 []")
	costs(t, "Zero that goes on", program(steps(num(x, 1), zero(x, 1), show(x), label(1), ret(x))), 5, "Done 1 [1]")
	costs(t, "labels", program(steps(label(1), label(2), label(3), ret(x))), 4, "Done 0 []")
	// Three rounds of four; the Label costs where it is come to from above alone.
	costs(t, "rounds", program(steps(num(x, 3), num(y, 1), label(1), show(x), two(x, x, "-", y), two(z, x, "==", q), zero(z, 1), ret(x))), 2+1+3*4+1, "Done 0 [3 2 1]")
	none := mid.Fn{Name: "none", Types: []int{api.Int}, Steps: steps(ret(0))}
	costs(t, "Call", program(steps(call(x, "none"), ret(x)), none), 3, "Done 0 []")
	costs(t, "Call of more", program(steps(call(x, "none"), call(y, "none"), ret(x)), mid.Fn{Name: "none", Types: []int{api.Int}, Steps: steps(num(0, 2), label(1), show(0), ret(0))}), 11, "Done 2 [2 2]")
}

// 7.2: each other Way costs what was done ahead of it, and that step.
func TestCostOfWays(t *testing.T) {
	costs(t, "Zero", program(steps(num(x, 1), show(x), two(x, x, "/", y), show(x), ret(x))), 3, "Zero 0 [1]")
	costs(t, "Bounds", program(steps(show(x), load(x, v, y), show(x), ret(x))), 2, "Bounds 0 [0]")
	costs(t, "Bounds of Store", program(steps(show(x), store(v, y, y), show(x), ret(x))), 2, "Bounds 0 [0]")
	costs(t, "Size", program(steps(num(x, 41), array(v, x), show(x), ret(x))), 2, "Size 0 []")
	costs(t, "Deep", program(steps(call(x, "main"), ret(x))), api.MaxCalls, "Deep 0 []")
	costs(t, "Full", program(steps(label(1), show(x), jump(1))), 1+2*api.MaxPrint+1, "Full 0 ["+strings.TrimSpace(strings.Repeat("0 ", api.MaxPrint))+"]")
}

// 7.2: with fuel of 0, or below, no step is done.
func TestNoFuel(t *testing.T) {
	for _, fuel := range []int{0, -1, -2, math.MinInt} {
		for _, k := range kinds() {
			if got := tell(around(k.step).Run(nil, fuel)); got != "Fuel 0 []" {
				t.Errorf("%s with fuel %d: %s", k.name, fuel, got)
			}
		}
	}
}

// 7.2: it is paid ahead of what a step does.
func TestPaidAhead(t *testing.T) {
	for _, s := range []mid.Step{show(x), two(x, x, "/", y), load(x, v, x), store(v, x, x), array(v, z), call(x, "main"), ret(x), input(x)} {
		c := program(steps(num(z, -1), show(z), s, ret(x)))
		if got := tell(c.Run(nil, 2)); got != "Fuel 0 [-1]" {
			t.Errorf("%v with no fuel left: %s", s, got)
		}
	}
	// A call that is Deep is paid first.
	c := program(steps(call(x, "main"), ret(x)))
	if got := tell(c.Run(nil, api.MaxCalls-1)); got != "Fuel 0 []" {
		t.Errorf("a call that is Deep: %s", got)
	}
}
