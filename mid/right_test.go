package mid_test

import (
	"fmt"
	"math"
	"slices"
	"testing"

	"bloomery/api"
	"bloomery/mid"
)

// others are functions that main may call.
func others() []mid.Fn {
	return []mid.Fn{
		{Name: "none", Types: []int{api.Int}, Steps: steps(label(7), ret(0))},
		{Name: "some", Params: 3, Types: []int{api.Int, api.Arr, api.Int, api.Arr}, Steps: steps(ret(0))},
	}
}

// around is a program in which this step stands, with a label 1 behind it.
func around(s mid.Step) *mid.Code {
	return program(steps(s, label(1), ret(x)), others()...)
}

// is asks whether steps are Right, and that they end with Fault, and nothing told, if they are not.
func is(t *testing.T, what string, c *mid.Code, want bool) {
	t.Helper()
	if got := c.Right(); got != want {
		t.Errorf("%s: Right tells %v", what, got)
	}
	if want {
		if e := c.Run(nil, 100); e.Way == api.Fault {
			t.Errorf("%s: is Right, and ends %s", what, tell(e))
		}
		return
	}
	for _, fuel := range []int{100, 0, -1} {
		if got := tell(c.Run([]int64{1, 2}, fuel)); got != "Fault 0 []" {
			t.Errorf("%s: is not Right, and ends %s", what, got)
		}
	}
}

// field is one of a step's fields that are numbers of places.
type field struct {
	name string
	at   func(s *mid.Step) *int
}

func fields() []field {
	return []field{
		{"Dst", func(s *mid.Step) *int { return &s.Dst }},
		{"A", func(s *mid.Step) *int { return &s.A }},
		{"B", func(s *mid.Step) *int { return &s.B }},
		{"C", func(s *mid.Step) *int { return &s.C }},
	}
}

// kinds are steps that are Right, and of which type their places must be: Dst, A, B, C (0: there is none such).
func kinds() []struct {
	name  string
	step  mid.Step
	types [4]int
} {
	const i, a = api.Int, api.Arr
	return []struct {
		name  string
		step  mid.Step
		types [4]int
	}{
		{"Const", num(x, 5), [4]int{i, 0, 0, 0}},
		{"Copy of a number", copied(x, y), [4]int{i, i, 0, 0}},
		{"Copy of an array", copied(v, w), [4]int{a, a, 0, 0}},
		{"Two", two(x, y, "+", z), [4]int{i, i, i, 0}},
		{"Jump", jump(1), [4]int{}},
		{"Zero", zero(x, 1), [4]int{0, i, 0, 0}},
		{"Label", label(2), [4]int{}},
		{"Call", call(x, "none"), [4]int{i, 0, 0, 0}},
		{"Ret", ret(x), [4]int{0, i, 0, 0}},
		{"New", array(v, x), [4]int{a, i, 0, 0}},
		{"Len", length(x, v), [4]int{i, a, 0, 0}},
		{"Load", load(x, v, y), [4]int{i, a, i, 0}},
		{"Store", store(v, x, y), [4]int{0, a, i, i}},
		{"Print", show(x), [4]int{0, i, 0, 0}},
		{"Input", input(x), [4]int{i, 0, 0, 0}},
	}
}

// 7.1: all places that a step has are there, and of their types; of what it has not, nothing is asked.
func TestPlacesOfSteps(t *testing.T) {
	types := mainTypes()
	for _, k := range kinds() {
		is(t, k.name, around(k.step), true)
		for i, f := range fields() {
			for _, place := range []int{math.MinInt, -2, -1, x, y, z, v, w, u, q, behind, behind + 1, api.MaxArray, 5000, math.MaxInt} {
				s := k.step
				*f.at(&s) = place
				want := k.types[i] == 0 || place >= 0 && place < behind && types[place] == k.types[i]
				is(t, fmt.Sprintf("%s with %s %d", k.name, f.name, place), around(s), want)
			}
		}
	}
}

// 7.1: Copy: Dst as A.
func TestCopyOfOneType(t *testing.T) {
	types := mainTypes()
	for dst := -1; dst <= behind; dst++ {
		for a := -1; a <= behind; a++ {
			want := dst >= 0 && a >= 0 && dst < behind && a < behind && types[dst] == types[a]
			is(t, fmt.Sprintf("Copy %d of %d", dst, a), around(copied(dst, a)), want)
		}
	}
}

// 7.1: Op one of 11.
func TestOpOfTwo(t *testing.T) {
	for _, op := range []string{"+", "-", "*", "/", "%", "==", "!=", "<", "<=", ">", ">="} {
		is(t, "Two with "+op, around(two(x, y, op, z)), true)
	}
	for _, op := range []string{"", "x", "&&", "||", "!", "=", "===", "<>", "=<", "=>", "<<", ">>", "+ ", " +", "++", "-0", "&", "|", "^", "+\x00", "＋", "\xff"} {
		is(t, "Two with "+op, around(two(x, y, op, z)), false)
		// No other step has one.
		for _, k := range kinds() {
			if k.step.Code != mid.Two {
				s := k.step
				s.Op = op
				is(t, k.name+" with "+op, around(s), true)
			}
		}
	}
}

// 7.1: a Code that is no step.
func TestNoStep(t *testing.T) {
	for _, code := range []int{0, -1, -14, 15, 16, 100, math.MaxInt, math.MinInt} {
		is(t, fmt.Sprint("Code ", code), around(mid.Step{Code: code, Op: "+", Label: 1, Name: "none"}), false)
		is(t, fmt.Sprint("Code ", code, " last"), program(steps(ret(x), mid.Step{Code: code, Op: "+", Name: "none"})), false)
	}
}

// 7.1: Jump, Zero: their Label is there, in the same function; no Label twice.
func TestLabels(t *testing.T) {
	for _, n := range []int{0, -1, 2, 7, 5999, math.MaxInt, math.MinInt} {
		is(t, fmt.Sprint("Jump to no label ", n), around(jump(n)), false)
		is(t, fmt.Sprint("Zero to no label ", n), around(zero(x, n)), false)
		is(t, fmt.Sprint("label ", n), program(steps(jump(n), label(n), ret(x))), true)
		is(t, fmt.Sprint("label ", n, " ahead"), program(steps(label(n), zero(x, n), jump(n))), true)
		is(t, fmt.Sprint("label ", n, " twice"), program(steps(label(n), label(n), ret(x))), false)
		is(t, fmt.Sprint("label ", n, " twice, one of them behind the end"), program(steps(label(n), jump(n), label(n), ret(x))), false)
		is(t, fmt.Sprint("label ", n, " that nobody goes to"), program(steps(label(n), ret(x))), true)
	}
	is(t, "no label", program(steps(jump(0))), false)
	is(t, "no label", program(steps(zero(x, 0), ret(x))), false)
	// What is no Label has none that is there.
	is(t, "a label of a Const", program(steps(jump(3), mid.Step{Code: mid.Const, Label: 3}, ret(x))), false)
	is(t, "two Const with a label", program(steps(mid.Step{Code: mid.Const, Label: 3}, mid.Step{Code: mid.Const, Label: 3}, label(3), ret(x))), true)
	is(t, "a label of each function", program(steps(jump(7), label(7), ret(x)), others()...), true)
	is(t, "a label of another function", program(steps(jump(7), ret(x)), others()...), false)
	is(t, "a label twice in another function", program(steps(ret(x)), mid.Fn{Name: "f", Types: []int{api.Int}, Steps: steps(label(1), label(1), ret(0))}), false)
}

// 7.1: Call: Name a function's, Args as many as its Params, each of its type.
func TestArgs(t *testing.T) {
	for _, name := range []string{"", "None", "non", "none ", "f", "main\x00"} {
		is(t, "Call of "+name, around(call(x, name)), false)
	}
	is(t, "Call of main", around(call(x, "main")), true)
	is(t, "Call of itself", program(steps(ret(x)), mid.Fn{Name: "f", Params: 1, Types: []int{api.Arr, api.Int}, Steps: steps(call(1, "f", 0), ret(1))}), true)
	is(t, "Call of one behind", program(steps(ret(x)), slices.Concat([]mid.Fn{{Name: "f", Types: []int{api.Int}, Steps: steps(call(0, "none"), ret(0))}}, others())...), true)
	is(t, "Call with an arg of none", around(call(x, "none", x)), false)
	is(t, "Call of main with an arg", around(call(x, "main", x)), false)
	is(t, "Call with all args", around(call(x, "some", y, v, z)), true)
	is(t, "Call with one place for two", around(call(x, "some", x, v, x)), true)
	for _, args := range [][]int{nil, {y}, {y, v}, {y, v, z, w}, {y, v, z, x}, {v, v, v}, {x, x, x}, {v, x, v}} {
		is(t, fmt.Sprint("Call with ", args), around(call(x, "some", args...)), false)
	}
	types, want := mainTypes(), []int{api.Int, api.Arr, api.Int}
	for i := range want {
		for _, place := range []int{math.MinInt, -1, x, y, z, v, w, u, q, behind, 100, math.MaxInt} {
			args := []int{y, v, z}
			args[i] = place
			is(t, fmt.Sprint("Call with ", args), around(call(x, "some", args...)), place >= 0 && place < behind && types[place] == want[i])
		}
	}
	// Of steps that have no Args nothing is asked, nor of Name.
	for _, k := range kinds() {
		if k.step.Code != mid.Call {
			s := k.step
			s.Args, s.Name = []int{-1, 99}, "nobody"
			is(t, k.name+" with Args", around(s), true)
		}
	}
}

// named are so many functions with these names, and without parameters.
func named(names ...string) *mid.Code {
	c := &mid.Code{}
	for _, s := range names {
		c.Fns = append(c.Fns, mid.Fn{Name: s, Types: []int{api.Int}, Steps: steps(ret(0))})
	}
	return c
}

// 7.1: at most MaxFuncs functions, none called as another one, one of them main without parameters.
func TestFunctions(t *testing.T) {
	var none *mid.Code
	is(t, "no Code", none, false)
	is(t, "no function", &mid.Code{}, false)
	is(t, "no function", &mid.Code{Fns: []mid.Fn{}}, false)
	is(t, "main", named("main"), true)
	is(t, "another one", named("f"), false)
	is(t, "no name", named(""), false)
	is(t, "Main", named("Main"), false)
	is(t, "any names", named("", "main", " ", "\xff", "Main", "fn", "1"), true)
	is(t, "two of one name", named("main", "f", "f"), false)
	is(t, "two of one name, apart", named("f", "g", "main", "f"), false)
	is(t, "two without a name", named("", "main", ""), false)
	is(t, "two main", named("main", "main"), false)
	var l []string
	for i := range api.MaxFuncs - 1 {
		l = append(l, fmt.Sprint("f", i))
	}
	is(t, "MaxFuncs", named(append([]string{"main"}, l...)...), true)
	is(t, "MaxFuncs, main last", named(append(l, "main")...), true)
	is(t, "one more", named(append([]string{"main", "g"}, l...)...), false)
	is(t, "one more, main last", named(append(append(l, "g"), "main")...), false)
	is(t, "as many without main", named(append([]string{"g"}, l...)...), false)
	for _, kind := range []int{api.Int, api.Arr} {
		c := named("main")
		c.Fns[0].Params, c.Fns[0].Types = 1, []int{kind, api.Int}
		c.Fns[0].Steps = steps(ret(1))
		is(t, "main with a parameter", c, false)
		c.Fns[0].Params = 0
		is(t, "main without", c, true)
	}
	// The other one is as it must be, too, though nobody calls it.
	c := named("main", "f")
	c.Fns[1].Steps = nil
	is(t, "another one without steps", c, false)
}

// placed is a program with a function of so many parameters and these places, that main calls not; and main itself with these places.
func placed(params int, types []int) (other, main *mid.Code) {
	n := num(0, 1)
	n.Dst = slices.Index(types, api.Int)
	other = named("main", "f")
	other.Fns[1].Params, other.Fns[1].Types = params, types
	other.Fns[1].Steps = steps(label(1), jump(1))
	if n.Dst >= 0 {
		other.Fns[1].Steps = steps(n, ret(n.Dst))
	}
	main = &mid.Code{Fns: []mid.Fn{{Name: "main", Params: params, Types: types, Steps: other.Fns[1].Steps}}}
	return other, main
}

// 7.1: of each at most 3000 places, at least Params, Int or Arr.
func TestPlaces(t *testing.T) {
	ask := func(what string, params int, types []int, want bool) {
		t.Helper()
		other, main := placed(params, types)
		is(t, what, other, want)
		is(t, what+", main", main, want && params == 0)
	}
	for _, n := range []int{0, 1, 2999, 3000, 3001, 6000, 100_000} {
		ask(fmt.Sprint(n, " numbers"), 0, slices.Repeat([]int{api.Int}, n), n <= 3000)
		ask(fmt.Sprint(n, " arrays"), 0, slices.Repeat([]int{api.Arr}, n), n <= 3000)
		ask(fmt.Sprint(n, " parameters"), n, slices.Repeat([]int{api.Int}, n), n <= 3000)
		ask(fmt.Sprint(n, " parameters, one place more"), n, slices.Repeat([]int{api.Int}, n+1), n < 3000)
		ask(fmt.Sprint(n+1, " parameters, one place less"), n+1, slices.Repeat([]int{api.Int}, n), false)
	}
	for _, params := range []int{-1, -2, -3000, math.MinInt} {
		ask(fmt.Sprint(params, " parameters"), params, []int{api.Int, api.Arr}, false)
		ask(fmt.Sprint(params, " parameters, no place"), params, nil, false)
	}
	for _, params := range []int{3, 4, 3000, math.MaxInt} {
		ask(fmt.Sprint(params, " parameters"), params, []int{api.Int, api.Arr}, false)
	}
	for _, kind := range []int{0, -1, 3, 9, math.MaxInt, math.MinInt} {
		for _, types := range [][]int{{kind}, {kind, api.Int}, {api.Int, kind}, {api.Int, api.Arr, kind, api.Arr}} {
			ask(fmt.Sprint("types ", types), 0, types, false)
			ask(fmt.Sprint("types ", types, " of parameters"), len(types), types, false)
		}
	}
	// A call looks at the places of what it calls, whatever these are.
	for _, params := range []int{-1, 1, 2} {
		other, _ := placed(params, []int{api.Int})
		other.Fns[0].Steps = steps(call(0, "f", slices.Repeat([]int{0}, max(params, 0))...), ret(0))
		is(t, fmt.Sprint("a call of one with a place and ", params, " parameters"), other, params == 1)
	}
}

// 7.1: 1 to 6000 steps, the last one Ret or Jump.
func TestCountOfSteps(t *testing.T) {
	for _, n := range []int{0, 1, 2, 5999, 6000, 6001, 12_000} {
		l := slices.Repeat(steps(num(x, 1)), n)
		if n > 0 {
			l[n-1] = ret(x)
		}
		is(t, fmt.Sprint(n, " steps"), program(l), n >= 1 && n <= 6000)
		other := named("main", "f")
		other.Fns[1].Steps = l
		is(t, fmt.Sprint(n, " steps of another function"), other, n >= 1 && n <= 6000)
		if n > 1 {
			l[0], l[n-1] = label(1), jump(1)
			is(t, fmt.Sprint(n, " steps, a Jump last"), program(l), n <= 6000)
		}
	}
	// All of them together may be more.
	c := named("main", "f", "g")
	for i := range c.Fns {
		c.Fns[i].Steps = append(slices.Repeat(steps(num(0, 1)), 5999), ret(0))
	}
	is(t, "6000 steps of three functions", c, true)
	for _, k := range kinds() {
		last := k.step.Code == mid.Ret || k.step.Code == mid.Jump
		is(t, k.name+" last", program(steps(label(1), k.step), others()...), last)
		is(t, k.name+" last, Ret ahead", program(steps(label(1), ret(x), k.step), others()...), last)
		if !last {
			is(t, k.name+" behind Ret, and Ret", program(steps(label(1), ret(x), k.step, ret(x)), others()...), true)
		}
	}
}
