package check_test

import (
	"fmt"
	"strings"
	"testing"

	"bloomery/api"
	"bloomery/check"
	"bloomery/plain"
	"bloomery/tree"
)

// inMain is a program with these statements in main, behind x, an Int, and v, an Arr, and with two functions more.
func inMain(s string) string {
	return "fn main() { var x = 1; var v = new(2); " + s + " } fn f(a: int, b: arr) { return a; } fn g() { }"
}

// inReturn is inMain with this expression, which must be an Int.
func inReturn(s string) string { return inMain("return " + s + ";") }

// vars are so many statements with names of their own.
func vars(from, to int) string {
	s := ""
	for i := from; i < to; i++ {
		s += fmt.Sprintf("var n%d = 0; ", i)
	}
	return s
}

// params are so many parameters with names of their own.
func params(n int) string {
	var l []string
	for i := range n {
		l = append(l, fmt.Sprintf("p%d: int", i))
	}
	return strings.Join(l, ", ")
}

// marks are the marks of two.
var marks = []string{"||", "&&", "==", "!=", "<", "<=", ">", ">=", "+", "-", "*", "/", "%"}

// 5.1: of every statement, mark and FIRST nothing is found.
func TestRight(t *testing.T) {
	for _, s := range []string{
		"fn main() { }",
		inMain("x = 2; v = new(3); v[0] = 1; v[x] = v[1]; return x; print x; g(); f(x, v);"),
		inMain("if (x) { x = 1; } if (x) { v = new(1); } else { x = 2; v[1] = x; } while (x) { x = x - 1; }"),
		inMain("var w = v; w = v; v = w; w[0] = v[0]; var y = x; y = x; f(y, w);"),
		inReturn("7"),
		inReturn("x"),
		inReturn("g()"),
		inReturn("f(x, v)"),
		inReturn("f(f(x, new(x)), new(g()))"),
		inReturn("len(v)"),
		inReturn("len(new(3))"),
		inReturn("input()"),
		inReturn("(x)"),
		inReturn("v[0]"),
		inReturn("(v)[0]"),
		inReturn("new(2)[x]"),
		inReturn("v[v[v[0]]]"),
		inReturn("-x"),
		inReturn("!x"),
		inReturn("-!-g()"),
		// A function calls itself, and one that stands behind.
		"fn f(n: int) { return h(f(n)); } fn main() { return f(1); } fn h(n: int) { return main(); }",
		// A function is called by name, a variable stands for something: one is not the other.
		"fn main() { var main = 1; var g = 2; return g(g) + main; } fn g(g: int) { return g; }",
	} {
		right(t, s)
	}
	for _, m := range marks {
		right(t, inReturn("x "+m+" v[0]"))
	}
}

// 5.1: ErrTwice, at a function that is called as one ahead, and ahead of all that is found in functions.
func TestFunctionTwice(t *testing.T) {
	for _, s := range []string{
		"fn main() { } ^fn main() { }",
		"fn main() { } ^fn main(a: int) { }",
		"fn f() { } fn main() { } ^fn f() { }",
		"fn f() { } ^fn f() { } fn f() { } fn main() { } fn main() { }",
		"fn f() { } ^fn f() { }",
		"fn main() { return q; } fn f(a: int, a: int) { } ^fn f() { }",
		"fn main() { f(1); } fn f() { var a = 1; var a = 2; } ^fn f() { }",
	} {
		wrong(t, s, api.ErrTwice)
	}
}

// 5.1: ErrTwice, at the function, of a parameter that is called as another one of it.
func TestParameterTwice(t *testing.T) {
	for _, s := range []string{
		"fn main() { } ^fn f(a: int, a: int) { }",
		"fn main() { } ^fn f(a: int, a: arr) { }",
		"fn main() { } ^fn f(a: int, b: arr, c: int, b: arr) { }",
		"^fn main(a: int, a: int) { }",
		"fn main() { } ^fn f(a: int, a: int) { return q; } fn g() { return q; }",
	} {
		wrong(t, s, api.ErrTwice)
	}
	right(t, "fn main() { } fn f(a: int, b: int) { } fn g(a: arr, b: int) { } fn h(f: int, h: int) { }")
}

// 5.1: ErrTwice, at the statement, of a name of var that stands for something there.
func TestVarTwice(t *testing.T) {
	for _, s := range []string{
		inMain("^var x = 1;"),
		inMain("^var v = new(1);"),
		inMain("^var x = new(1);"),
		inMain("if (x) { ^var x = 1; }"),
		inMain("if (x) { } else { ^var x = 1; }"),
		inMain("while (x) { ^var x = 1; }"),
		inMain("if (x) { var y = 1; while (y) { if (y) { ^var y = 1; } } }"),
		inMain("if (x) { var y = 1; } var y = 1; ^var y = 1;"),
		"fn main() { } fn f(a: int) { ^var a = 1; }",
		"fn main() { } fn f(a: int) { while (a) { ^var a = 1; } }",
	} {
		wrong(t, s, api.ErrTwice)
	}
	for _, s := range []string{
		inMain("if (x) { var y = 1; } var y = new(1); y[0] = 1;"),
		inMain("if (x) { var y = 1; y = 2; } else { var y = new(2); y[0] = 1; }"),
		inMain("while (x) { var y = 1; } while (x) { var y = new(1); } var y = 1;"),
		"fn main() { var a = 1; } fn f(a: arr) { a[0] = 1; } fn g() { var a = new(1); a[0] = 1; }",
	} {
		right(t, s)
	}
}

// 5.1: a name of var stands for something behind its Value alone.
func TestVarInItsValue(t *testing.T) {
	wrong(t, inMain("var y = ^y;"), api.ErrMissing)
	wrong(t, inMain("var y = x + new(1)[^y];"), api.ErrMissing)
	wrong(t, inMain("if (x) { var y = 1; } var y = ^y;"), api.ErrMissing)
	// Value is looked at first.
	wrong(t, inMain("var x = ^y;"), api.ErrMissing)
	wrong(t, inMain("var x = x + ^v;"), api.ErrArg)
	wrong(t, inMain("^var x = x;"), api.ErrTwice)
}

// 5.1: a name stands for what it does from its var to the end of its block.
func TestEndOfBlock(t *testing.T) {
	for _, s := range []string{
		inMain("return ^y; var y = 1;"),
		inMain("^y = 1; var y = 1;"),
		inMain("if (x) { var y = 1; } return ^y;"),
		inMain("if (x) { var y = 1; } ^y = 1;"),
		inMain("if (x) { var y = 1; } else { return ^y; }"),
		inMain("if (x) { } else { var y = 1; } return ^y;"),
		inMain("while (x) { var y = 1; } return ^y;"),
		inMain("while (x) { if (x) { var y = 1; } print ^y; }"),
		inMain("while (^y) { var y = 1; }"),
		inMain("if (^y) { var y = 1; }"),
		"fn f(a: int) { } fn main() { return ^a; }",
		"fn f() { var a = 1; } fn main() { return ^a; }",
		"fn main() { return ^a; } fn f(a: int) { }",
	} {
		wrong(t, s, api.ErrMissing)
	}
	for _, s := range []string{
		inMain("if (x) { var y = 1; while (y) { if (y) { y = y + x; } } print y; } print x;"),
		inMain("while (x) { var y = 1; if (y) { var z = 2; } print y; } return x;"),
	} {
		right(t, s)
	}
}

// 5.1: a name of var stands for a variable of its Value's type, a parameter for one of its own.
func TestTypeOfName(t *testing.T) {
	wrong(t, inMain("var y = new(1); return ^y;"), api.ErrArg)
	wrong(t, inMain("var y = v; return ^y;"), api.ErrArg)
	wrong(t, inMain("var y = v[0]; return len(^y);"), api.ErrArg)
	wrong(t, inMain("var y = len(v); return len(^y);"), api.ErrArg)
	wrong(t, inMain("if (x) { var y = 1; } var y = v; return ^y;"), api.ErrArg)
	wrong(t, "fn main() { } fn f(a: int) { return len(^a); }", api.ErrArg)
	wrong(t, "fn main() { } fn f(a: int, b: arr) { return ^b; }", api.ErrArg)
}

// 5.1: ErrFull, at the function or the statement, where there were MaxVars NAMES of the function, those of blocks that have ended, too.
func TestMaxVars(t *testing.T) {
	const most = api.MaxVars
	right(t, "fn main() { "+vars(0, most)+"}")
	right(t, "fn main() { } fn f("+params(most)+") { }")
	right(t, "fn main() { } fn f("+params(5)+") { "+vars(5, most)+"}")
	right(t, "fn main() { "+vars(0, most)+"} fn f() { "+vars(0, most)+"} fn g("+params(most)+") { }")
	for _, s := range []string{
		"fn main() { " + vars(0, most) + "^var m = 1; }",
		"fn main() { " + vars(0, most) + "^var m = 1; var n = 1; return q; }",
		"fn main() { } ^fn f(" + params(most+1) + ") { }",
		"fn main() { } ^fn f(" + params(most+3) + ") { return q; }",
		"fn main() { } fn f(" + params(most) + ") { ^var m = 1; }",
		"fn main() { } fn f(" + params(5) + ") { " + vars(5, most) + "^var m = 1; }",
		"fn main() { if (1) { " + vars(0, most) + "} ^var m = 1; }",
		"fn main() { if (1) { " + vars(0, most) + "} ^var n0 = 1; }",
		"fn main() { if (1) { var m = 1; } else { var m = 1; } while (1) { var m = 1; } " + vars(3, most) + "^var m = 1; }",
	} {
		wrong(t, s, api.ErrFull)
	}
	// ErrTwice is told ahead of it; a Value, too.
	wrong(t, "fn main() { "+vars(0, most)+"^var n3 = 1; }", api.ErrTwice)
	wrong(t, "fn main() { } ^fn f("+params(most)+", p3: int) { }", api.ErrTwice)
	wrong(t, "fn main() { } ^fn f("+params(most+1)+", p3: int) { }", api.ErrFull)
	wrong(t, "fn main() { "+vars(0, most)+"var m = ^q; }", api.ErrMissing)
}

// 5.1: ErrMissing, at a Name, or a statement's, that stands for nothing, and at a Call of no function.
func TestMissing(t *testing.T) {
	for _, s := range []string{
		inReturn("^q"),
		inReturn("(^q)"),
		inReturn("x + ^q"),
		inReturn("^q + x"),
		inReturn("-^q"),
		inReturn("!^q"),
		inReturn("new(^q)[0]"),
		inReturn("len(^q)"),
		inReturn("^q[0]"),
		inReturn("v[^q]"),
		inReturn("f(^q, v)"),
		inReturn("f(x, ^q)"),
		inReturn("^q()"),
		inReturn("1 + ^q(x, v)"),
		inReturn("v[^q(x)]"),
		inReturn("f(^q(), v)"),
		inMain("^q = 1;"),
		inMain("^q[0] = 1;"),
		inMain("^q(1);"),
		inMain("x = ^q;"),
		inMain("v[^q] = 1;"),
		inMain("v[0] = ^q;"),
		inMain("print ^q;"),
		inMain("var y = ^q;"),
		inMain("if (^q) { }"),
		inMain("if (x) { print ^q; }"),
		inMain("if (x) { } else { print ^q; }"),
		inMain("while (^q) { }"),
		inMain("while (x) { print ^q; }"),
		// A function is none of a variable's, a variable none of a function's.
		inReturn("^g"),
		inMain("^g = 1;"),
		inReturn("^x()"),
		inMain("^v(1);"),
	} {
		wrong(t, s, api.ErrMissing)
	}
	for _, m := range marks {
		wrong(t, inReturn("^q "+m+" x"), api.ErrMissing)
		wrong(t, inReturn("x "+m+" ^q"), api.ErrMissing)
	}
}

// 5.1: ErrRange, at a Call that has not as many Args as parameters, wherever its function stands.
func TestCount(t *testing.T) {
	for _, s := range []string{
		inReturn("^f()"),
		inReturn("^f(x)"),
		inReturn("^f(x, v, x)"),
		inReturn("^g(x)"),
		inReturn("1 + ^g(v)"),
		inReturn("f(^g(1), v)"),
		inMain("^f(x);"),
		inMain("^g(1, 2);"),
		"fn f(a: int) { } fn main() { return ^f(); }",
		"fn f(a: int) { return ^f(a, a); } fn main() { }",
		"fn main() { return ^main(1); }",
	} {
		wrong(t, s, api.ErrRange)
	}
}

// 5.1: ErrArg, at an Arr where an Int must be.
func TestNoInt(t *testing.T) {
	for _, s := range []string{
		inReturn("^v"),
		inReturn("(^v)"),
		inReturn("^new(1)"),
		inReturn("-^v"),
		inReturn("!^v"),
		inReturn("!-^new(1)"),
		inReturn("len(new(^v))"),
		inReturn("new(^new(1))[0]"),
		inReturn("v[^v]"),
		inReturn("v[^new(2)]"),
		inReturn("f(^v, v)"),
		inReturn("f(^new(1), v)"),
		inMain("x = ^v;"),
		inMain("x = ^new(1);"),
		inMain("v[^v] = 1;"),
		inMain("v[0] = ^v;"),
		inMain("v[0] = ^new(1);"),
		inMain("print ^v;"),
		inMain("if (^v) { }"),
		inMain("while (^v) { }"),
		inMain("f(^v, v);"),
	} {
		wrong(t, s, api.ErrArg)
	}
	for _, m := range marks {
		wrong(t, inReturn("^v "+m+" x"), api.ErrArg)
		wrong(t, inReturn("x "+m+" ^v"), api.ErrArg)
		wrong(t, inReturn("x "+m+" ^new(1)"), api.ErrArg)
	}
}

// 5.1: ErrArg, at an Int where an Arr must be; at the statement, if Put is of what is no array.
func TestNoArr(t *testing.T) {
	for _, s := range []string{
		inReturn("len(^x)"),
		inReturn("len(^1)"),
		inReturn("len(^-1)"),
		inReturn("len(^!x)"),
		inReturn("len(^1 + 2)"),
		inReturn("len(^(1) + 2)"),
		inReturn("len((^1 + 2))"),
		inReturn("len(^v[0])"),
		inReturn("len(^new(1)[0])"),
		inReturn("len(^(v)[0])"),
		inReturn("len(^input())"),
		inReturn("len(^len(v))"),
		inReturn("len(^g())"),
		inReturn("^x[0]"),
		inReturn("^1[0]"),
		inReturn("^v[0][0]"),
		inReturn("^g()[0]"),
		inReturn("(^1 + 2)[0]"),
		inReturn("f(x, ^x)"),
		inReturn("f(x, ^1 + 2)"),
		inReturn("f(x, ^g())"),
		inMain("v = ^1;"),
		inMain("v = ^x;"),
		inMain("v = ^v[0];"),
		inMain("v = ^g();"),
		inMain("^x[0] = 1;"),
		inMain("f(x, ^x);"),
		"fn main() { } fn f(a: int) { ^a[0] = 1; }",
	} {
		wrong(t, s, api.ErrArg)
	}
}

// 5.1: of several faults the first in the chapter's order: from the left, function by function.
func TestOrder(t *testing.T) {
	wrong(t, inMain("return ^q; return v;"), api.ErrMissing)
	wrong(t, inMain("return ^v; return q;"), api.ErrArg)
	wrong(t, inMain("if (x) { print ^v; } else { print q; }"), api.ErrArg)
	wrong(t, inMain("while (^v) { print q; }"), api.ErrArg)
	wrong(t, "fn f() { return ^q; } fn main(a: int, a: int) { }", api.ErrMissing)
	wrong(t, "^fn f(a: int, a: int) { return q; } fn main() { }", api.ErrTwice)
	wrong(t, "^fn f(a: int, a: int) { } fn main() { return q; }", api.ErrTwice)
	// Marks and [ ]: Left wholly, then Right.
	wrong(t, inReturn("^v + q"), api.ErrArg)
	wrong(t, inReturn("^q + v"), api.ErrMissing)
	wrong(t, inReturn("x + ^v + q"), api.ErrArg)
	wrong(t, inReturn("^x[q]"), api.ErrArg)
	wrong(t, inReturn("^q[v]"), api.ErrMissing)
	// What is in an expression, then its type.
	wrong(t, inReturn("len(x + ^q)"), api.ErrMissing)
	wrong(t, inReturn("new(^q)"), api.ErrMissing)
	wrong(t, inReturn("len(^g(1))"), api.ErrRange)
	wrong(t, inReturn("1 + new(^v)"), api.ErrArg)
}

// 5.1: a Call: is there such a function, has it as many Args; then these, one by one, first what is in them, then their type.
func TestOrderOfCall(t *testing.T) {
	wrong(t, inReturn("^q(q)"), api.ErrMissing)
	wrong(t, inReturn("^f(q)"), api.ErrRange)
	wrong(t, inReturn("^f(v, v, q)"), api.ErrRange)
	wrong(t, inReturn("f(^v, q)"), api.ErrArg)
	wrong(t, inReturn("f(^q, x)"), api.ErrMissing)
	wrong(t, inReturn("f(^v, x)"), api.ErrArg)
	wrong(t, inReturn("f(x, x + ^q)"), api.ErrMissing)
	wrong(t, inReturn("f(x, x + ^v)"), api.ErrArg)
	wrong(t, inReturn("f(new(^q), x)"), api.ErrMissing)
	wrong(t, inReturn("f(x, ^f(x))"), api.ErrRange)
	wrong(t, inReturn("f(x, f(x, ^q))"), api.ErrMissing)
}

// 5.1: a statement's Name first, then Index, Value.
func TestOrderOfStatement(t *testing.T) {
	wrong(t, inMain("^q = q + v;"), api.ErrMissing)
	wrong(t, inMain("x = ^q + v;"), api.ErrMissing)
	wrong(t, inMain("v = x + ^q;"), api.ErrMissing)
	wrong(t, inMain("^q[q] = q;"), api.ErrMissing)
	wrong(t, inMain("^x[q] = q;"), api.ErrArg)
	wrong(t, inMain("^x[v] = v;"), api.ErrArg)
	wrong(t, inMain("v[^q] = v;"), api.ErrMissing)
	wrong(t, inMain("v[^v] = q;"), api.ErrArg)
	wrong(t, inMain("v[0] = ^q + v;"), api.ErrMissing)
}

// 5.1: ErrNone, last and without an At: no main without parameters is there.
func TestNoMain(t *testing.T) {
	for _, s := range []string{
		"",
		"# nothing",
		"fn f() { }",
		"fn main(a: int) { return a; }",
		"fn f() { return main(1, new(2)); } fn main(a: int, b: arr) { }",
		"fn main_() { } fn mai() { } fn f(main: int) { }",
	} {
		none(t, s)
	}
	if err := check.Check([]api.Func{}); api.Tell(err) != api.ErrNone {
		t.Errorf("Check of no function: %s", tell(err))
	}
	wrong(t, "fn f() { return ^q; }", api.ErrMissing)
	wrong(t, "fn main(a: int) { } fn f() { ^main(); }", api.ErrRange)
	wrong(t, "fn f() { } ^fn f() { }", api.ErrTwice)
	right(t, "fn f() { } fn g() { } fn main() { }")
}

// P1: a program may be put together of what Parse told, of more texts than one, and of more functions than one text has.
func TestPutTogether(t *testing.T) {
	l := parse(t, "fn main() { return f(1); }")
	m := parse(t, "fn f(a: int) { return main() + a; }")
	if err := check.Check(append(append([]api.Func{}, l...), m...)); err != nil {
		t.Errorf("%s; nothing is to be found", tell(err))
	}
	if e, at := plain.Place(check.Check(l)); e != api.ErrMissing || at != len("fn main() { return ") {
		t.Errorf("main alone: error %d at %d", e, at)
	}
	many := []api.Func{l[0]}
	for i := range 40_000 {
		f := m[0]
		f.Name = fmt.Sprint("f", i)
		many = append(many, f)
	}
	if err := check.Check(append(many, m...)); err != nil {
		t.Errorf("%s; nothing is to be found of many functions", tell(err))
	}
	many = append(many, m...)
	many = append(many, m...)
	if e, at := plain.Place(check.Check(many)); e != api.ErrTwice || at != 0 {
		t.Errorf("of many functions: error %d at %d", e, at)
	}
}

// P4: nothing that is handed in is written into, nor what stands behind the list's length.
func TestUntouched(t *testing.T) {
	for _, s := range []string{
		inMain("if (x) { var y = f(x, v); v[y] = -y; } else { var y = v; } while (x) { var z = v; }"),
		inMain("if (x) { var y = f(v, v); }"),
	} {
		l, same := parse(t, s), parse(t, s)
		room := append(make([]api.Func, 0, len(l)+1), l...)
		first := check.Check(room)
		if tree.Print(room) != tree.Print(same) || room[:len(l)+1][len(l)].Name != "" {
			t.Errorf("Check wrote into %q", s)
		}
		if again := check.Check(room); tell(again) != tell(first) {
			t.Errorf("Check of %q: %s, then %s", s, tell(first), tell(again))
		}
	}
}
