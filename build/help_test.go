package build_test

import (
	"fmt"
	"math"
	"regexp"
	"slices"
	"testing"

	"bloomery/api"
	"bloomery/build"
	"bloomery/check"
	"bloomery/machine"
	"bloomery/plain"
	"bloomery/run"
	"bloomery/tree"
)

const (
	plenty = 20_000_000 // fuel of a machine that nothing here spends, unless it goes on for ever
	some   = 4_000      // fuel of a machine whose program goes on for ever
	road   = 3_000      // fuel of a program: those that need more go on for ever
)

// wayNames are the Ways to end, by their numbers.
var wayNames = [...]string{"none", "Done", "Zero", "Bounds", "Size", "Deep", "Fuel", "Full", "Memory", "Fault"}

// tell is how something ended, as a text: its Way, its Code, what it told.
func tell(e api.End) string { return fmt.Sprint(wayNames[e.Way], " ", e.Code, " ", e.Out) }

// both is what fewer may be.
var both = []bool{false, true}

// ops are all marks of two.
var ops = []string{"&&", "||", "==", "!=", "<=", ">=", "<", ">", "+", "-", "*", "/", "%"}

// given are lists of numbers that programs are given.
var given = [][]int64{nil, {0}, {1}, {2, 1, 0}, {3, -1, 4}, {-1, 5, 0, 7}, {40, 1 << 40}, {math.MinInt64, -1}}

// sizes are how many bytes machines have, in tests.
var sizes = []int{api.MaxBytes, 32768, 8192, 3008, 2048, 1528, 1032, 1024}

// token is one of 4.1.
var token = regexp.MustCompile(`[a-z_][a-z_0-9]*|[0-9]+|&&|\|\||[=!<>]=|[^ \n]`)

// tokens is how many of them a program has.
func tokens(s string) int { return len(token.FindAllString(s, -1)) }

// parse reads a program of which nothing is found.
func parse(t *testing.T, s string) []api.Func {
	t.Helper()
	l, err := tree.Parse(s)
	if err == nil {
		err = check.Check(l)
	}
	if err != nil {
		t.Fatalf("%q: %s; nothing is to be found of it", s, wrong(err))
	}
	return l
}

// wrong is an error and its place, as a text.
func wrong(err error) string {
	e, at := plain.Place(err)
	return fmt.Sprint("error ", int(e), " at ", at)
}

// made is a program, and its words for a machine of so many bytes.
type made struct {
	text  string
	funcs []api.Func
	fewer bool
	bytes int
	words []uint32
}

// String says for a fault what it was about.
func (m made) String() string {
	return fmt.Sprintf("%s\n(fewer %t, %d bytes)", m.text, m.fewer, m.bytes)
}

// makes is a program's words, with fewer steps and without, for machines of so many bytes each. (There are none where ErrLimit is told.)
func makes(t *testing.T, s string, sizes ...int) (l []made) {
	t.Helper()
	funcs := parse(t, s)
	for _, fewer := range both {
		for _, bytes := range sizes {
			words, err := build.Words(s, fewer, bytes)
			m := made{s, funcs, fewer, bytes, words}
			switch {
			case err == nil:
				l = append(l, m)
			case err != api.ErrLimit || len(words) > 0:
				t.Fatalf("%s: Words tells %s, and %d words", m, wrong(err), len(words))
			}
		}
	}
	return l
}

// machine is one of just so many bytes.
func (m made) machine(t *testing.T, in []int64) *machine.Machine {
	t.Helper()
	x, err := machine.New(m.words, m.bytes, in)
	if err != nil {
		t.Fatalf("%s: New tells %s of %d words", m, wrong(err), len(m.words))
	}
	return x
}

// begins: is what was told the beginning of what is to be told?
func begins(told, all []int64) bool {
	return len(told) <= len(all) && slices.Equal(told, all[:len(told)])
}

// ask asks that a machine ends as Run does, or with Memory; it tells how the machine ended. (Of a program that goes on for ever both are looked at for a while.)
func (m made) ask(t *testing.T, in []int64) api.End {
	t.Helper()
	want, fuel := run.Run(m.funcs, in, road), plenty
	if want.Way == api.Fuel {
		want, fuel = run.Run(m.funcs, in, some), some
	}
	got := m.machine(t, in).Run(fuel)
	ok := tell(got) == tell(want)
	if got.Way == api.Memory || got.Way == api.Fuel && fuel == some {
		ok = got.Code == 0 && begins(got.Out, want.Out)
	}
	if !ok {
		t.Fatalf("%s of %v ends %s; the machine %s", m, in, tell(want), tell(got))
	}
	if got.Way == api.Memory && m.bytes == api.MaxBytes && tokens(m.text) <= 200 && !calls(m.funcs) {
		t.Fatalf("%s of %v wants for memory, in spite of few tokens and no Call", m, in)
	}
	return got
}

// calls: has a program any Call?
func calls(l []api.Func) bool {
	return slices.ContainsFunc(l, func(f api.Func) bool { return callsIn(f.Body) })
}

// callsIn: has a statement any Call?
func callsIn(l []api.Stmt) bool {
	return slices.ContainsFunc(l, func(s api.Stmt) bool {
		return called(s.Index) || called(s.Value) || callsIn(s.Then) || callsIn(s.Else)
	})
}

// called: has an expression any Call?
func called(x *api.Expr) bool {
	return x != nil && (x.Code == api.Call || called(x.Left) || called(x.Right) || slices.ContainsFunc(x.Args, called))
}

// ends asks that a program ends as it is told, and machines with its words, too: smaller ones may want for memory.
func ends(t *testing.T, s, want string, in ...int64) {
	t.Helper()
	if got := tell(run.Run(parse(t, s), in, 100*road)); got != want {
		t.Fatalf("%s\nof %v ends %s; %s is asked", s, in, got, want)
	}
	for i, m := range makes(t, s, sizes...) {
		got := m.machine(t, in).Run(plenty)
		if got.Way == api.Memory && m.bytes < 32768 {
			m.ask(t, in)
		} else if tell(got) != want {
			t.Errorf("%s of %v: machine %d ends %s; %s is asked", m, in, i, tell(got), want)
		}
	}
}
