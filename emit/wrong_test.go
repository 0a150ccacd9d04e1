package emit_test

import (
	"fmt"
	"math"
	"math/rand"
	"slices"
	"testing"

	"bloomery/api"
	"bloomery/emit"
	"bloomery/mid"
)

// others are functions that main may call.
func others() []mid.Fn {
	return []mid.Fn{
		{Name: "none", Types: []int{api.Int}, Steps: steps(label(7), ret(0))},
		{Name: "some", Params: 3, Types: []int{api.Int, api.Arr, api.Int, api.Arr}, Steps: steps(ret(0))},
	}
}

// around is a program in which this step stands, with a label 1 behind it.
func around(s mid.Step) *mid.Code {
	return program(steps(s, label(1), ret(x)), others()...)
}

// kind is a step that is Right, and of which type its places must be: Dst, A, B, C (0: there is none such).
type kind struct {
	name  string
	step  mid.Step
	types [4]int
}

func kinds() []kind {
	const i, a = api.Int, api.Arr
	return []kind{
		{"Const", num(x, 5), [4]int{i, 0, 0, 0}},
		{"Copy of a number", copied(x, y), [4]int{i, i, 0, 0}},
		{"Copy of an array", copied(v, w), [4]int{a, a, 0, 0}},
		{"Two", two(x, y, "+", z), [4]int{i, i, i, 0}},
		{"Jump", jump(1), [4]int{}},
		{"Zero", zero(x, 1), [4]int{0, i, 0, 0}},
		{"Label", label(2), [4]int{}},
		{"Call", call(x, "none"), [4]int{i, 0, 0, 0}},
		{"Ret", ret(x), [4]int{0, i, 0, 0}},
		{"New", array(v, x), [4]int{a, i, 0, 0}},
		{"Len", length(x, v), [4]int{i, a, 0, 0}},
		{"Load", load(x, v, y), [4]int{i, a, i, 0}},
		{"Store", store(v, x, y), [4]int{0, a, i, i}},
		{"Print", show(x), [4]int{0, i, 0, 0}},
		{"Input", input(x), [4]int{i, 0, 0, 0}},
	}
}

// parts are a step's places.
func parts(s *mid.Step) [4]*int { return [4]*int{&s.Dst, &s.A, &s.B, &s.C} }

// 9.1: ErrArg, unless c is Right: places of steps. What a step has not, may be anything, and nothing is done by it.
func TestWrongPlaces(t *testing.T) {
	types := mainTypes()
	for _, k := range kinds() {
		for i := range k.types {
			for _, place := range []int{math.MinInt, -1, x, y, z, v, w, u, q, behind, behind + 1, 5000, math.MaxInt} {
				s := k.step
				*parts(&s)[i] = place
				what := fmt.Sprintf("%s with place %d of 4: %d", k.name, i, place)
				if k.types[i] == 0 || place >= 0 && place < behind && types[place] == k.types[i] {
					each(t, what, around(s), nil)
					each(t, what, around(s), []int64{3})
				} else {
					wrong(t, what, around(s))
				}
			}
		}
	}
	wrong(t, "Copy of another type", around(copied(x, v)))
	wrong(t, "Copy of another type", around(copied(v, x)))
}

// 9.1: ErrArg, unless c is Right: codes, ops, labels, calls.
func TestWrongSteps(t *testing.T) {
	for _, code := range []int{0, -1, 15, 100, math.MaxInt, math.MinInt} {
		wrong(t, fmt.Sprint("Code ", code), around(mid.Step{Code: code, Op: "+", Label: 1, Name: "none"}))
		wrong(t, fmt.Sprint("Code ", code, " behind the end"), program(steps(ret(x), mid.Step{Code: code}, ret(x))))
	}
	for _, op := range []string{"", "&&", "||", "!", "=", "<>", "+ ", "\xff"} {
		wrong(t, "Two with "+op, around(two(x, y, op, z)))
		wrong(t, "Two with "+op+" that nobody comes to", program(steps(ret(x), two(x, y, op, z), ret(x))))
	}
	for _, n := range []int{0, -1, 2, 7, math.MaxInt, math.MinInt} {
		wrong(t, fmt.Sprint("Jump to no label ", n), around(jump(n)))
		wrong(t, fmt.Sprint("Zero to no label ", n), around(zero(x, n)))
		wrong(t, fmt.Sprint("label ", n, " twice"), program(steps(label(n), label(n), ret(x))))
		wrong(t, fmt.Sprint("label ", n, " twice, once behind the end"), program(steps(label(n), jump(n), label(n), ret(x))))
	}
	for _, name := range []string{"", "None", "f"} {
		wrong(t, "Call of "+name, around(call(x, name)))
	}
	wrong(t, "Call with an arg of none", around(call(x, "none", x)))
	for _, args := range [][]int{nil, {y}, {y, v}, {y, v, z, w}, {v, v, v}, {x, x, x}, {v, x, v}, {-1, v, z}, {y, behind, z}, {y, v, math.MaxInt}} {
		wrong(t, fmt.Sprint("Call with ", args), around(call(x, "some", args...)))
	}
	for _, k := range kinds() {
		if k.step.Code != mid.Ret && k.step.Code != mid.Jump {
			wrong(t, k.name+" last", program(steps(label(1), k.step), others()...))
			wrong(t, k.name+" last, Ret ahead", program(steps(label(1), ret(x), k.step), others()...))
		}
	}
}

// named are functions with these names, and without parameters.
func named(names ...string) *mid.Code {
	c := &mid.Code{}
	for _, s := range names {
		c.Fns = append(c.Fns, mid.Fn{Name: s, Types: []int{api.Int}, Steps: steps(ret(0))})
	}
	return c
}

// 9.1: ErrArg, unless c is Right: functions, their names, parameters, places and how many steps they have.
func TestWrongFunctions(t *testing.T) {
	wrong(t, "no Code", nil)
	wrong(t, "no function", &mid.Code{})
	wrong(t, "no main", named("f"))
	wrong(t, "two of one name", named("main", "f", "f"))
	wrong(t, "two main", named("main", "main"))
	most := []string{"main"}
	for len(most) < api.MaxFuncs {
		most = append(most, fmt.Sprint("f", len(most)))
	}
	each(t, "MaxFuncs", named(most...), nil)
	wrong(t, "one more", named(append(most, "g")...))
	change := func(what string, do func(f *mid.Fn)) {
		for i := range 2 {
			c := named("main", "f")
			do(&c.Fns[i])
			wrong(t, fmt.Sprint(what, " of function ", i), c)
		}
	}
	c := named("main")
	c.Fns[0].Params = 1
	wrong(t, "main with a parameter", c)
	change("Params below 0", func(f *mid.Fn) { f.Params = -1 })
	change("more Params than places", func(f *mid.Fn) { f.Params = 2 })
	change("no place", func(f *mid.Fn) { f.Types = nil })
	change("3001 places", func(f *mid.Fn) { f.Types = slices.Repeat(f.Types, 3001) })
	change("type 0", func(f *mid.Fn) { f.Types = append(f.Types, 0) })
	change("type 3", func(f *mid.Fn) { f.Types = append(f.Types, 3) })
	change("no step", func(f *mid.Fn) { f.Steps = nil })
	change("6001 steps", func(f *mid.Fn) { f.Steps = slices.Repeat(f.Steps, 6001) })
}

// 9.1: ErrArg, unless c is Right: drawn ones.
func TestWrongDrawn(t *testing.T) {
	d := rand.New(rand.NewSource(90))
	count := [2]int{}
	for range 10_000 {
		c := drawnCode(d)
		spoil(d, c)
		if c.Right() {
			count[0]++
			if _, err := emit.Text(c, emit.Plan(500, 4096)); err != nil {
				t.Fatalf("%+v\nis Right, and Text tells %v", c, err)
			}
			continue
		}
		count[1]++
		wrong(t, fmt.Sprintf("%+v", c), c)
	}
	if count[0] < 1000 || count[1] < 1000 {
		t.Errorf("%d were Right, %d not", count[0], count[1])
	}
}
