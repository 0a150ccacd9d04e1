package tree_test

import (
	"math/rand"
	"strings"
	"testing"

	"bloomery/api"
	"bloomery/tree"
)

// TestText: 4.3: how each expression is written; ( and ) only where they must be.
func TestText(t *testing.T) {
	for _, c := range []struct{ text, want string }{
		{"007", "7"},
		{"0", "0"},
		{"9223372036854775807", "9223372036854775807"},
		{"x_1", "x_1"},
		{"g ( )", "g()"},
		{"g(1,x ,(2))", "g(1, x, 2)"},
		{"new(( 3 ))", "new(3)"},
		{"len ( v )", "len(v)"},
		{"input( )", "input()"},
		{"v [ 1+2 ]", "v[1 + 2]"},
		{"((x))", "x"},
		{"- x", "-x"},
		{"! x", "!x"},
		{"- - ! ! x", "--!!x"},
		{"-(x)", "-x"},
		{"-(-(x))", "--x"},
		{"(-x)", "-x"},
		{"-(x+1)", "-(x + 1)"},
		{"!(x&&y)", "!(x && y)"},
		{"(-x)+(!y)", "-x + !y"},
		{"x-(-y)", "x - -y"},
		{"(-x)*y", "-x * y"},
		{"-(x*y)", "-(x * y)"},
		{"-v[0]", "-v[0]"},
		{"-(v[0])", "-v[0]"},
		{"!(v)[0]", "!v[0]"},
		{"(-v)[0]", "(-v)[0]"},
		{"(!v)[0]", "(!v)[0]"},
		{"(-(-v))[0]", "(--v)[0]"},
		{"-(-v)[0]", "-(-v)[0]"},
		{"(v+w)[0]", "(v + w)[0]"},
		{"(v)[(0)]", "v[0]"},
		{"(v[0])[1]", "v[0][1]"},
		{"(g(1))[0]", "g(1)[0]"},
		{"(new(1))[0]", "new(1)[0]"},
		{"(len(v))[0]", "len(v)[0]"},
		{"(input())[0]", "input()[0]"},
		{"(1)[0]", "1[0]"},
		{"1-(2-3)*-x[ 0]", "1 - (2 - 3) * -x[0]"},
		{"(1-2)-3", "1 - 2 - 3"},
		{"1-(2-3)", "1 - (2 - 3)"},
		{"1+(2+3)", "1 + (2 + 3)"},
		{"(1*2)+(3*4)", "1 * 2 + 3 * 4"},
		{"(1+2)*(3+4)", "(1 + 2) * (3 + 4)"},
		{"(1<2)==(3>=4)", "1 < 2 == 3 >= 4"},
		{"1<(2==3)>=4", "1 < (2 == 3) >= 4"},
		{"(x&&y)||(z&&w)", "x && y || z && w"},
		{"(x||y)&&(z||w)", "(x || y) && (z || w)"},
		{"x||(y||z)", "x || (y || z)"},
	} {
		if got := tree.Text(parseExpr(t, c.text)); got != c.want {
			t.Errorf("Text of %s is %s; %s is asked", c.text, got, c.want)
		}
	}
}

// TestTextLevels: 4.3: of any two marks of two ( and ) stand where they must, and nowhere else.
func TestTextLevels(t *testing.T) {
	for i, l := range levels {
		for k, m := range levels {
			for _, p := range l {
				for _, q := range m {
					left, right := "(x "+p+" y) "+q+" z", "z "+q+" (x "+p+" y)"
					wantLeft, wantRight := left, right
					if i >= k {
						wantLeft = "x " + p + " y " + q + " z"
					}
					if i > k {
						wantRight = "z " + q + " x " + p + " y"
					}
					if got := tree.Text(parseExpr(t, left)); got != wantLeft {
						t.Errorf("Text of %s is %s", left, got)
					}
					if got := tree.Text(parseExpr(t, right)); got != wantRight {
						t.Errorf("Text of %s is %s", right, got)
					}
				}
			}
		}
	}
}

// drawExpr is an expression of so many levels, and a text of it with ( and ) about every part.
func drawExpr(r *rand.Rand, deep int) (*api.Expr, string) {
	if deep == 0 {
		k := r.Intn(3)
		return []*api.Expr{num(0, 5), word(0, "x"), of(api.Input, 0, nil)}[k], []string{"5", "x", "input()"}[k]
	}
	x, s := drawExpr(r, deep-1)
	y, u := drawExpr(r, r.Intn(deep))
	if r.Intn(2) == 0 {
		x, s, y, u = y, u, x, s
	}
	switch r.Intn(8) {
	case 0, 1:
		op := []string{"-", "!"}[r.Intn(2)]
		return un(0, op, x), "(" + op + s + ")"
	case 2:
		return item(0, x, y), "(" + s + "[" + u + "])"
	case 3:
		return call(0, "g", x, y), "g(" + s + "," + u + ")"
	case 4:
		return of(api.New, 0, x), "new(" + s + ")"
	}
	l := levels[r.Intn(len(levels))]
	op := l[r.Intn(len(l))]
	return bin(0, op, x, y), "(" + s + op + u + ")"
}

// bare are the texts of which one pair of ( and ) is left out that holds no args.
func bare(s string) []string {
	var l []string
	var open []int
	for i := range s {
		switch {
		case s[i] == '(':
			open = append(open, i)
		case s[i] == ')':
			from := open[len(open)-1]
			open = open[:len(open)-1]
			if from == 0 || !isWord(s[from-1:from]) {
				l = append(l, s[:from]+s[from+1:i]+s[i+1:])
			}
		}
	}
	return l
}

// TestTextAgain: 4.2, 4.3: what is written is read as it was, and without any one pair of ( and ) it would not be.
func TestTextAgain(t *testing.T) {
	r := rand.New(rand.NewSource(3))
	pairs := 0
	for range 3000 {
		x, full := drawExpr(r, 1+r.Intn(4))
		read := parseExpr(t, full)
		if !sameExpr(read, x, false) {
			t.Fatalf("%s: told %s", full, tree.Text(read))
		}
		s := tree.Text(read)
		again := parseExpr(t, s)
		if !sameExpr(again, x, false) {
			t.Fatalf("%s is written %s", full, s)
		}
		if tree.Text(again) != s {
			t.Fatalf("%s is written %s the next time", s, tree.Text(again))
		}
		for _, u := range bare(s) {
			pairs++
			if l, err := tree.Parse(inReturn(u)); err == nil && sameExpr(l[0].Body[0].Value, x, false) {
				t.Fatalf("%s is written %s: %s would do", full, s, u)
			}
		}
	}
	if pairs < 1000 {
		t.Errorf("only %d pairs were left out", pairs)
	}
}

// TestPrint: 4.3: how programs are written.
func TestPrint(t *testing.T) {
	for _, c := range []struct{ text, want string }{
		{"", ""},
		{"fn main(){}", "fn main() {\n}\n"},
		{"fn main(){print 1-(2-3)*-x[ 0];}", "fn main() {\n  print 1 - (2 - 3) * -x[0];\n}\n"},
		{"fn f(a:int){}fn g(v:arr,a:int,w:arr){}", "fn f(a: int) {\n}\nfn g(v: arr, a: int, w: arr) {\n}\n"},
		{"fn f(){var x=(1);x=2;v[i+1]=3;return(4);print(5);g();g(1,(x));}", "fn f() {\n  var x = 1;\n  x = 2;\n  v[i + 1] = 3;\n  return 4;\n  print 5;\n  g();\n  g(1, x);\n}\n"},
		{"fn f(){if(x){}}", "fn f() {\n  if (x) {\n  }\n}\n"},
		{"fn f(){if((x)){}else{}}", "fn f() {\n  if (x) {\n  }\n}\n"},
		{"fn f(){if(x){}else{y=1;}}", "fn f() {\n  if (x) {\n  } else {\n    y = 1;\n  }\n}\n"},
		{"fn f(){if(x){y=1;z=2;}x=3;}", "fn f() {\n  if (x) {\n    y = 1;\n    z = 2;\n  }\n  x = 3;\n}\n"},
		{"fn f(){while(x<1){}x=3;}", "fn f() {\n  while (x < 1) {\n  }\n  x = 3;\n}\n"},
		{"fn f(){while(x){if(y){g();}else{if(z){x=1;}else{while(1){}}}}}",
			"fn f() {\n  while (x) {\n    if (y) {\n      g();\n    } else {\n      if (z) {\n        x = 1;\n      } else {\n        while (1) {\n        }\n      }\n    }\n  }\n}\n"},
	} {
		l := parse(t, c.text)
		if got := tree.Print(l); got != c.want {
			t.Errorf("%s is written\n%s", c.text, got)
		}
	}
}

// TestPrintAgain: 4.2, 4.3: what is written is read as it was, and written the same.
func TestPrintAgain(t *testing.T) {
	r := rand.New(rand.NewSource(2))
	rules := readGrammar()
	for n := 0; n < 400; {
		l := draw(r, rules, "FUNC", 6+r.Intn(18))
		if !sane(l) {
			continue
		}
		n++
		program := parse(t, strings.Join(l, " "))
		s := tree.Print(program)
		again := parse(t, s)
		if !sameFuncs(again, program, false) || tree.Print(again) != s {
			t.Fatalf("%s is written\n%s", strings.Join(l, " "), s)
		}
	}
}

// TestPrintMost: 4.3: a program at the limits is written, and read again.
func TestPrintMost(t *testing.T) {
	deep := "fn f()" + strings.Repeat("{if(1)", api.MaxDepth) + "{return " + strings.Repeat("(-v)[", 6) + "1" + strings.Repeat("]", 6) + ";}" + strings.Repeat("}", api.MaxDepth)
	for _, s := range []string{wide(api.MaxTokens), strings.Repeat("fn f(){}", api.MaxFuncs), deep} {
		l := parse(t, s)
		if !sameFuncs(parse(t, tree.Print(l)), l, false) {
			t.Errorf("%s is not read as it was", s)
		}
	}
}

// TestFresh: P4: what is written leaves the program as it was, and two answers share nothing.
func TestFresh(t *testing.T) {
	s := "fn f(a: int) { if (a) { g(1, -v[a]); } else { v[0] = 2; } }"
	l, m := parse(t, s), parse(t, s)
	tree.Print(l)
	tree.Text(l[0].Body[0].Value)
	if !sameFuncs(l, m, true) {
		t.Errorf("told %v, then %v", m, l)
	}
	l[0].Params[0].Name = "b"
	l[0].Body[0].Then[0].Value.Args[0].N = 7
	l[0].Body[0].Else[0].Index.N = 7
	if !sameFuncs(m, parse(t, s), true) {
		t.Errorf("a change of one answer is seen in another")
	}
}

// TestNothing: P1: nothing is written of nothing.
func TestNothing(t *testing.T) {
	if tree.Text(nil) != "" || tree.Text(&api.Expr{}) != "" || tree.Print(nil) != "" || tree.Print([]api.Func{}) != "" {
		t.Errorf("something is written")
	}
	tree.Text(&api.Expr{Code: api.Item})
	tree.Text(bin(0, "+", nil, nil))
	tree.Print([]api.Func{{Body: []api.Stmt{{}, {Code: api.If}, {Code: api.Put}}}})
}
