package tree_test

import (
	"errors"
	"strings"
	"testing"

	"bloomery/api"
	"bloomery/plain"
	"bloomery/tree"
)

// behind is where, in a program of inBody and inReturn, what they are given begins.
const (
	bodyAt   = len("fn f(){")
	returnAt = len("fn f(){return ")
)

// inBody is a program of a function with these statements.
func inBody(s string) string { return "fn f(){" + s + "}" }

// inReturn is a program of a function that returns this expression.
func inReturn(s string) string { return inBody("return " + s + ";") }

// parse reads a program that nothing is wrong with.
func parse(t *testing.T, s string) []api.Func {
	t.Helper()
	l, err := tree.Parse(s)
	if err != nil {
		e, at := plain.Place(err)
		t.Fatalf("Parse(%q): error %d at %d; nothing is wrong with it", s, e, at)
	}
	return l
}

// parseExpr reads an expression, of which the first byte is 0.
func parseExpr(t *testing.T, s string) *api.Expr {
	t.Helper()
	x := parse(t, inReturn(s))[0].Body[0].Value
	moveExpr(x, -returnAt)
	return x
}

// faulty asks that a text is told to be wrong, so, and there.
func faulty(t *testing.T, s string, err api.Errno, place int) {
	t.Helper()
	l, got := tree.Parse(s)
	var at *api.At
	if l != nil || !errors.As(got, &at) {
		t.Errorf("Parse(%q): %v, %v; error %d at %d is asked", s, l, got, err, place)
		return
	}
	if at.Err != err || at.Place != place {
		t.Errorf("Parse(%q): error %d at %d; error %d at %d is asked", s, at.Err, at.Place, err, place)
	}
}

// faultyAt asks that a text is told to be wrong where ^ stands in it, which is left out.
func faultyAt(t *testing.T, s string, err api.Errno) {
	t.Helper()
	ahead, behind, ok := strings.Cut(s, "^")
	if !ok {
		t.Fatalf("%q: no place is told", s)
	}
	faulty(t, ahead+behind, err, len(ahead))
}

// moveExpr moves all places of an expression.
func moveExpr(x *api.Expr, by int) {
	if x == nil {
		return
	}
	x.At += by
	moveExpr(x.Left, by)
	moveExpr(x.Right, by)
	for _, a := range x.Args {
		moveExpr(a, by)
	}
}

// moveStmts moves all places of statements.
func moveStmts(l []api.Stmt, by int) {
	for i := range l {
		l[i].At += by
		moveExpr(l[i].Index, by)
		moveExpr(l[i].Value, by)
		moveStmts(l[i].Then, by)
		moveStmts(l[i].Else, by)
	}
}

// sameExpr: are two expressions the same (places: there, too)? Empty lists are the same, nil or not.
func sameExpr(x, y *api.Expr, places bool) bool {
	if x == nil || y == nil {
		return x == y
	}
	if x.Code != y.Code || x.N != y.N || x.Name != y.Name || x.Op != y.Op || len(x.Args) != len(y.Args) || places && x.At != y.At {
		return false
	}
	for i := range x.Args {
		if !sameExpr(x.Args[i], y.Args[i], places) {
			return false
		}
	}
	return sameExpr(x.Left, y.Left, places) && sameExpr(x.Right, y.Right, places)
}

// sameStmts: are two lists of statements the same?
func sameStmts(l, m []api.Stmt, places bool) bool {
	if len(l) != len(m) {
		return false
	}
	for i, x := range l {
		y := m[i]
		if x.Code != y.Code || x.Name != y.Name || places && x.At != y.At {
			return false
		}
		if !sameExpr(x.Index, y.Index, places) || !sameExpr(x.Value, y.Value, places) || !sameStmts(x.Then, y.Then, places) || !sameStmts(x.Else, y.Else, places) {
			return false
		}
	}
	return true
}

// sameFuncs: are two programs the same?
func sameFuncs(l, m []api.Func, places bool) bool {
	if len(l) != len(m) {
		return false
	}
	for i, x := range l {
		y := m[i]
		if x.Name != y.Name || len(x.Params) != len(y.Params) || places && x.At != y.At {
			return false
		}
		for k := range x.Params {
			if x.Params[k] != y.Params[k] {
				return false
			}
		}
		if !sameStmts(x.Body, y.Body, places) {
			return false
		}
	}
	return true
}

// Expressions, put together by hand.

func num(at int, n int64) *api.Expr { return &api.Expr{Code: api.Num, At: at, N: n} }

func word(at int, s string) *api.Expr { return &api.Expr{Code: api.Name, At: at, Name: s} }

func bin(at int, op string, l, r *api.Expr) *api.Expr {
	return &api.Expr{Code: api.Bin, At: at, Op: op, Left: l, Right: r}
}

func un(at int, op string, l *api.Expr) *api.Expr {
	return &api.Expr{Code: api.Un, At: at, Op: op, Left: l}
}

func call(at int, s string, l ...*api.Expr) *api.Expr {
	return &api.Expr{Code: api.Call, At: at, Name: s, Args: l}
}

func item(at int, l, r *api.Expr) *api.Expr {
	return &api.Expr{Code: api.Item, At: at, Left: l, Right: r}
}

func of(code, at int, l *api.Expr) *api.Expr { return &api.Expr{Code: code, At: at, Left: l} }
