package run_test

import (
	"fmt"
	"slices"
	"testing"

	"bloomery/api"
	"bloomery/check"
	"bloomery/plain"
	"bloomery/run"
	"bloomery/tree"
)

// plenty is fuel that no program here spends, unless it goes on for ever.
const plenty = 1_000_000

// wayNames are the Ways to end, by their numbers.
var wayNames = [...]string{"none", "Done", "Zero", "Bounds", "Size", "Deep", "Fuel", "Full", "Memory", "Fault"}

// tell is how something ended, as a text: its Way, its Code, what it told.
func tell(e api.End) string { return fmt.Sprint(wayNames[e.Way], " ", e.Code, " ", e.Out) }

// parse reads a program of which nothing is found.
func parse(t *testing.T, s string) []api.Func {
	t.Helper()
	l, err := tree.Parse(s)
	if err == nil {
		err = check.Check(l)
	}
	if err != nil {
		e, at := plain.Place(err)
		t.Fatalf("%q: error %d at %d; nothing is to be found of it", s, e, at)
	}
	return l
}

// ends asks that a program, with plenty of fuel, ends as it is told.
func ends(t *testing.T, s, want string, in ...int64) {
	t.Helper()
	if got := tell(run.Run(parse(t, s), in, plenty)); got != want {
		t.Errorf("%s\nends %s; %s is asked", s, got, want)
	}
}

// costs asks that a program ends as it is told with just so much fuel, and more; and that with less it is Fuel, and has told the beginning of it.
func costs(t *testing.T, s string, least int, want string, in ...int64) {
	t.Helper()
	l := parse(t, s)
	full := run.Run(l, in, least)
	if tell(full) != want {
		t.Errorf("%s\nwith fuel %d ends %s; %s is asked", s, least, tell(full), want)
		return
	}
	for _, more := range []int{least + 1, least + 2, plenty, 1<<63 - 1} {
		if got := tell(run.Run(l, in, more)); got != want {
			t.Errorf("%s\nwith fuel %d ends %s; %s is asked", s, more, got, want)
		}
	}
	for less := 0; less < least; less++ {
		got := run.Run(l, in, less)
		if got.Way != api.Fuel || got.Code != 0 || len(got.Out) > len(full.Out) || !slices.Equal(got.Out, full.Out[:len(got.Out)]) {
			t.Errorf("%s\nwith fuel %d ends %s; Fuel 0 is asked, and the beginning of %v", s, less, tell(got), full.Out)
		}
	}
}

// inMain is a program with these statements in main.
func inMain(s string) string { return "fn main() { " + s + " }" }

// inReturn is a program whose main tells what this expression comes to.
func inReturn(s string) string { return inMain("return " + s + ";") }
