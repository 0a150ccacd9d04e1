package build_test

import (
	"fmt"
	"math/rand"
	"reflect"
	"strings"
	"testing"

	"bloomery/api"
	"bloomery/build"
	"bloomery/fold"
	"bloomery/mid"
	"bloomery/run"
	"bloomery/tree"
)

// fault is a text, and what is told of it.
type fault struct {
	text  string
	err   api.Errno
	place int // -1: none
}

// notRead are texts of which Parse tells something.
func notRead() []fault {
	long := "fn main() { " + strings.Repeat("print 1; ", 499)
	deep := "fn main() { " + strings.Repeat("if (1) { ", 13)
	return []fault{
		{"main", api.ErrForm, 0},
		{"fn", api.ErrForm, 2},
		{"fn main() {", api.ErrForm, 11},
		{"fn main() { $ }", api.ErrForm, 12},
		{"\xff", api.ErrForm, 0},
		{"fn main() { }\x00", api.ErrForm, 13},
		{"fn main() { print; }", api.ErrForm, 17},
		{"fn main() { var v = new 3; }", api.ErrForm, 24},
		{"fn main() { print 9223372036854775808; }", api.ErrLimit, 18},
		{"fn main() { abcdefghijklm = 1; }", api.ErrLimit, 12},
		{strings.Repeat("fn f() { } ", 13), api.ErrLimit, 12 * 11},
		{deep, api.ErrLimit, len(deep) - 2},
		{long, api.ErrLimit, len(long) - 9 + 6},
		// Something is to be found of these, too, but that is told later.
		{"fn main() { return q; } fn", api.ErrForm, 26},
		{"fn main() { } fn main() { } ;", api.ErrForm, 28},
		{"fn f() { ", api.ErrForm, 9},
	}
}

// notRight are texts of which Lower tells something.
func notRight() []fault {
	return []fault{
		{"", api.ErrNone, -1},
		{"# fn main() { }", api.ErrNone, -1},
		{"fn f() { }", api.ErrNone, -1},
		{"fn main(a: int) { }", api.ErrNone, -1},
		{"fn main() { } fn main() { }", api.ErrTwice, 14},
		{"fn main() { return x; }", api.ErrMissing, 19},
		{"fn main() { x = 1; }", api.ErrMissing, 12},
		{"fn main() { print 1; f(); }", api.ErrMissing, 21},
		{"fn main() { main(2); }", api.ErrRange, 12},
		{"fn main() { var x = 1; var x = 2; }", api.ErrTwice, 23},
		{"fn main() { return new(1); }", api.ErrArg, 19},
		{"fn main() { var v = new(2); print len(1) + v; }", api.ErrArg, 38},
		{"fn main() { } fn f() { return q; }", api.ErrMissing, 30},
		{"fn f() { return q; }", api.ErrMissing, 16},
		{"fn main() { var a = 0; var b = 0; var c = 0; var d = 0; var e = 0; var f = 0; var g = 0; var h = 0; var i = 0; var j = 0; var k = 0; var l = 0; var m = 0; }", api.ErrFull, 144},
	}
}

// 10.1: Steps: Parse's errors, then Lower's, with their places, and no steps; with fewer and without.
func TestStepsErrors(t *testing.T) {
	for _, f := range append(notRead(), notRight()...) {
		want := fmt.Sprint("error ", int(f.err), " at ", f.place)
		for _, fewer := range both {
			if c, err := build.Steps(f.text, fewer); c != nil || wrong(err) != want {
				t.Errorf("%.80q: Steps tells %v, %s; %s is asked", f.text, c, wrong(err), want)
			}
		}
	}
}

// programs are some of which nothing is found.
func programs() []string {
	l := []string{
		"fn main() { }", "fn main() { return 7; }", "fn f() { } fn main() { print f(); }", " fn\tmain ( )\n{ # nothing\n}",
		"fn main() { var n = 2 * 3; if (n == 6) { print n; } return n - 6; }",
		"fn main() { var v = new(input()); v[0] = 6; return v[0] * 7; }",
		"fn main() { var n = input(); while (n) { print n; n = n - 1; } return 7; }",
		"fn main() { return down(input()); } fn down(n: int) { if (n > 0) { print n; return down(n - 1); } return 0; }",
	}
	d := newDie(101)
	for i := range 60 {
		l = append(l, drawn(d, 60+i*8, i%2 == 0))
	}
	return l
}

// 10.1: Steps: what Lower makes of what Parse tells; fewer: Fold of that.
func TestSteps(t *testing.T) {
	less := 0
	for _, s := range programs() {
		want, err := mid.Lower(parse(t, s))
		if err != nil {
			t.Fatalf("%s\nLower tells %s", s, wrong(err))
		}
		folded, err := fold.Fold(want)
		if err != nil {
			t.Fatalf("%s\nFold tells %s", s, wrong(err))
		}
		all, err := build.Steps(s, false)
		few, err2 := build.Steps(s, true)
		if err != nil || err2 != nil {
			t.Fatalf("%s\nSteps tells %s, %s", s, wrong(err), wrong(err2))
		}
		if !reflect.DeepEqual(all, want) || !reflect.DeepEqual(few, folded) {
			t.Errorf("%s\nhas steps %+v, fewer %+v", s, all, few)
		}
		if few.Steps() < all.Steps() {
			less++
		}
		for _, in := range given {
			if end := run.Run(parse(t, s), in, road); end.Way != api.Fuel && (tell(all.Run(in, plenty)) != tell(end) || tell(few.Run(in, plenty)) != tell(end)) {
				t.Errorf("%s\nof %v ends %s; its steps %s, fewer %s", s, in, tell(end), tell(all.Run(in, plenty)), tell(few.Run(in, plenty)))
			}
		}
	}
	if less < 10 {
		t.Errorf("only %d programs have fewer steps", less)
	}
}

// P1, P3: whatever the text is, Steps, Text and Words end, and tell one error.
func TestAnyText(t *testing.T) {
	d := newDie(102)
	met := map[string]int{}
	for range 6000 {
		s := spoilt(d)
		want := "error 0 at -1"
		l, err := tree.Parse(s)
		if err == nil {
			_, err = mid.Lower(l)
		}
		if err != nil {
			want = wrong(err)
		}
		fewer, bytes := d.Intn(2) == 0, 8*(128+d.Intn(8065))
		c, err1 := build.Steps(s, fewer)
		text, err2 := build.Text(s, fewer, bytes)
		words, err3 := build.Words(s, fewer, bytes)
		if wrong(err1) != want || (c == nil) != (err1 != nil) {
			t.Fatalf("%q: Steps tells %v, %s; %s is asked", s, c, wrong(err1), want)
		}
		if err1 == nil && err2 == api.ErrLimit {
			want = wrong(err2)
		}
		if wrong(err2) != want || wrong(err3) != want || (text == "") != (err2 != nil) || (len(words) == 0) != (err2 != nil) {
			t.Fatalf("%q: Text tells %s, Words %s; %s is asked", s, wrong(err2), wrong(err3), want)
		}
		e, _, _ := strings.Cut(want, " at")
		met[e]++
	}
	for _, e := range []api.Errno{api.OK, api.ErrForm, api.ErrMissing, api.ErrTwice, api.ErrRange, api.ErrArg, api.ErrNone} {
		if met[fmt.Sprint("error ", int(e))] < 10 {
			t.Errorf("error %d was met %d times alone", e, met[fmt.Sprint("error ", int(e))])
		}
	}
}

// spoilt is a text of tokens, or a program of which some are changed.
func spoilt(d *rand.Rand) string {
	soup := strings.Fields("fn main ( ) { } var x v a1 a2 = new 3 ; print return while if else len input [ ] , : int arr && || == ! - + * / % < $ 9223372036854775808 # \x00 \xff fn main ( ) { print 1 ; }")
	one := func() string { return soup[d.Intn(len(soup))] }
	l := strings.Fields(drawn(d, 20+d.Intn(90), d.Intn(2) == 0))
	if d.Intn(8) == 0 {
		l = l[:0]
		for range d.Intn(30) {
			l = append(l, one())
		}
	}
	for range d.Intn(3) {
		if n := len(l); n > 0 {
			switch i := d.Intn(n); d.Intn(5) {
			case 0:
				l = append(l[:i], l[i+1:]...)
			case 1:
				l = l[:i]
			case 2:
				l[i] = l[d.Intn(n)]
			case 3:
				l = append(l, []string{"fn main ( ) { }", "fn z ( a : int ) { z ( ) ; }", "fn z ( a : arr ) { print a ; }", "fn z ( z : int , z : arr ) { }"}[d.Intn(4)])
			default:
				l[i] = one()
			}
		}
	}
	return strings.Join(l, []string{" ", "\n", "\t "}[d.Intn(3)])
}

// P4: what comes out is the caller's: who writes into it, changes nothing of what is told later.
func TestFresh(t *testing.T) {
	const s = "fn main() { print 6 + input(); return f(1, 2); } fn f(a: int, b: int) { return a * b; }"
	for _, fewer := range both {
		c, _ := build.Steps(s, fewer)
		want := fmt.Sprintf("%+v", *c)
		words, _ := build.Words(s, fewer, 4096)
		first := fmt.Sprint(words)
		for i := range c.Fns {
			clear(c.Fns[i].Types)
			for k := range c.Fns[i].Steps {
				clear(c.Fns[i].Steps[k].Args)
			}
			clear(c.Fns[i].Steps)
		}
		clear(c.Fns)
		clear(words)
		again, _ := build.Steps(s, fewer)
		more, _ := build.Words(s, fewer, 4096)
		if got := fmt.Sprintf("%+v", *again); got != want || fmt.Sprint(more) != first {
			t.Errorf("%s, then %s", want, got)
		}
	}
}
