package fold_test

import (
	"math/rand"
	"slices"
	"testing"

	"bloomery/fold"
	"bloomery/mid"
)

// codes is the codes of a function's steps.
func codes(f mid.Fn) (l []int) {
	for _, s := range f.Steps {
		l = append(l, s.Code)
	}
	return l
}

// left asks for the codes of the steps that are left.
func left(t *testing.T, what string, f mid.Fn, want ...int) {
	t.Helper()
	if got := codes(f); !slices.Equal(got, want) {
		t.Errorf("%s: left are %v; %v are asked: %+v", what, got, want, f.Steps)
	}
}

// fn is a function of these steps, with the places of main.
func fn(l ...mid.Step) mid.Fn { return mid.Fn{Name: "main", Types: mainTypes(), Steps: l} }

// Known does what is known, from label to label.
func TestKnown(t *testing.T) {
	left(t, "a number of two", fold.Known(fn(num(x, 1), num(y, 2), two(z, x, "+", y), ret(z))), mid.Const, mid.Const, mid.Const, mid.Ret)
	left(t, "behind a label", fold.Known(fn(num(x, 1), num(y, 2), label(1), two(z, x, "+", y), ret(z))), mid.Const, mid.Const, mid.Label, mid.Two, mid.Ret)
	left(t, "a road that is gone", fold.Known(fn(zero(x, 1), show(x), label(1), ret(x))), mid.Jump, mid.Print, mid.Label, mid.Ret)
	left(t, "a road that is not gone", fold.Known(fn(num(x, 1), zero(x, 1), show(x), label(1), ret(x))), mid.Const, mid.Print, mid.Label, mid.Ret)
	left(t, "behind a label, but nobody writes it", fold.Known(fn(input(x), label(1), two(z, y, "==", q), length(x, v), ret(z))), mid.Input, mid.Label, mid.Const, mid.Const, mid.Ret)
	left(t, "behind a label, and it is written later", fold.Known(fn(input(x), label(1), two(z, y, "==", q), length(x, v), input(q), array(v, q), zero(z, 1), ret(z))), mid.Input, mid.Label, mid.Two, mid.Len, mid.Input, mid.New, mid.Zero, mid.Ret)
	left(t, "how many an array has", fold.Known(fn(num(x, 3), array(v, x), copied(w, v), length(y, w), length(z, u), input(z), array(v, z), length(q, v), ret(q))), mid.Const, mid.New, mid.Copy, mid.Const, mid.Input, mid.New, mid.Len, mid.Ret)
	left(t, "by 0", fold.Known(fn(num(x, 1), two(z, x, "/", y), ret(z))), mid.Const, mid.Two, mid.Ret)
	left(t, "as it is already", fold.Known(fn(num(x, 0), input(y), copied(z, y), copied(y, z), copied(x, x), ret(y))), mid.Input, mid.Copy, mid.Ret)
}

// Dead leaves out what is written and not needed, and what only that needs; nothing else.
func TestDead(t *testing.T) {
	left(t, "not needed", fold.Dead(fn(num(x, 1), copied(y, x), two(z, y, "+", y), length(q, v), ret(x))), mid.Const, mid.Ret)
	left(t, "round a loop", fold.Dead(fn(label(1), two(x, x, "+", y), copied(y, x), input(z), zero(z, 1), ret(z))), mid.Label, mid.Input, mid.Zero, mid.Ret)
	left(t, "what may end it", fold.Dead(fn(input(x), two(y, x, "/", x), two(y, x, "%", x), array(v, x), load(y, v, x), store(v, x, x), call(y, "main"), ret(x))), mid.Input, mid.Two, mid.Two, mid.New, mid.Load, mid.Store, mid.Call, mid.Ret)
	left(t, "needed on another road alone", fold.Dead(fn(input(y), zero(y, 1), num(x, 1), ret(y), label(1), num(z, 1), jump(2), label(3), show(x), show(z), label(2), ret(y))), mid.Input, mid.Zero, mid.Ret, mid.Label, mid.Jump, mid.Label, mid.Print, mid.Print, mid.Label, mid.Ret)
	left(t, "needed behind a Ret", fold.Dead(fn(input(y), zero(y, 1), num(x, 1), ret(y), label(1), show(x), ret(y))), mid.Input, mid.Zero, mid.Ret, mid.Label, mid.Print, mid.Ret)
	left(t, "needed on one road", fold.Dead(fn(num(x, 1), zero(y, 1), num(x, 2), label(1), ret(x))), mid.Const, mid.Zero, mid.Const, mid.Label, mid.Ret)
}

// A place for an array lets the one go that it had when it is written: that is not left out, or there would be less room.
func TestLetGo(t *testing.T) {
	left(t, "an array without numbers is written", fold.Dead(fn(num(x, 40), array(v, x), length(y, v), show(y), num(x, 0), array(v, x), ret(x))), mid.Const, mid.New, mid.Len, mid.Print, mid.Const, mid.New, mid.Ret)
	left(t, "one that nobody wrote is copied", fold.Dead(fn(num(x, 40), array(v, x), length(y, v), show(y), copied(v, u), ret(x))), mid.Const, mid.New, mid.Len, mid.Print, mid.Copy, mid.Ret)
	left(t, "nobody asks for any of them", fold.Dead(fn(num(x, 40), array(v, x), copied(v, u), ret(x))), mid.Const, mid.New, mid.Copy, mid.Ret)
	left(t, "copies alone, and nobody asks for them", fold.Dead(fn(num(x, 40), array(v, x), copied(w, v), copied(w, u), length(y, v), ret(y))), mid.Const, mid.New, mid.Len, mid.Ret)
}

// Reached leaves nothing for itself.
func TestReached(t *testing.T) {
	left(t, "the next step", fold.Reached(fn(jump(3), label(1), label(2), label(3), zero(x, 4), jump(2), label(4), jump(5), label(5), ret(x))), mid.Label, mid.Zero, mid.Jump, mid.Label, mid.Ret)
	left(t, "nobody comes there", fold.Reached(fn(jump(1), label(2), show(x), label(3), jump(2), label(1), ret(x), jump(3))), mid.Ret)
	d := rand.New(rand.NewSource(87))
	for range 5000 {
		for _, f := range drawnCode(d).Fns {
			once := fold.Reached(f)
			if twice := fold.Reached(once); !slices.Equal(codes(once), codes(twice)) {
				t.Fatalf("%+v\nbecomes\n%+v\nand that\n%+v", f, once, twice)
			}
			dead := fold.Dead(f)
			if twice := fold.Dead(dead); !slices.Equal(codes(dead), codes(twice)) && !copies(dead) {
				t.Fatalf("%+v\nbecomes\n%+v\nand that\n%+v", f, dead, twice)
			}
		}
	}
}

// copies: are there any of arrays? (These go one by one.)
func copies(f mid.Fn) bool {
	return slices.ContainsFunc(f.Steps, func(s mid.Step) bool { return s.Code == mid.Copy && f.Types[s.Dst] == 2 })
}
