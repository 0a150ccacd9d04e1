package check_test

import (
	"errors"
	"fmt"
	"strings"
	"testing"

	"bloomery/api"
	"bloomery/check"
	"bloomery/plain"
	"bloomery/tree"
)

// parse reads a program that nothing is wrong with, as text.
func parse(t *testing.T, s string) []api.Func {
	t.Helper()
	l, err := tree.Parse(s)
	if err != nil {
		t.Fatalf("Parse(%q): %v; nothing is wrong with it", s, err)
	}
	return l
}

// tell is an error, and its place, as a text.
func tell(err error) string {
	e, place := plain.Place(err)
	return fmt.Sprintf("error %d at %d", e, place)
}

// right asks that nothing is found of a program.
func right(t *testing.T, s string) {
	t.Helper()
	if err := check.Check(parse(t, s)); err != nil {
		t.Errorf("Check of %q: %s; nothing is to be found", s, tell(err))
	}
}

// wrong asks that this is found of a program, where ^ stands in it, which is left out.
func wrong(t *testing.T, s string, err api.Errno) {
	t.Helper()
	ahead, behind, ok := strings.Cut(s, "^")
	if !ok {
		t.Fatalf("%q: no place is told", s)
	}
	found(t, ahead+behind, err, len(ahead))
}

// found asks that this is found of a program, there.
func found(t *testing.T, s string, err api.Errno, place int) {
	t.Helper()
	got := check.Check(parse(t, s))
	var at *api.At
	if !errors.As(got, &at) || at.Err != err || at.Place != place {
		t.Errorf("Check of %q: %s; error %d at %d is asked", s, tell(got), err, place)
	}
}

// none asks that a program has no main without parameters, and nothing else is found.
func none(t *testing.T, s string) {
	t.Helper()
	got := check.Check(parse(t, s))
	var at *api.At
	if api.Tell(got) != api.ErrNone || errors.As(got, &at) {
		t.Errorf("Check of %q: %s; error %d without a place is asked", s, tell(got), api.ErrNone)
	}
}
