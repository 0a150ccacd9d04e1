package tree_test

import (
	"strings"
	"testing"

	"bloomery/api"
	"bloomery/tree"
)

// levels are the marks of two, those that hold nearer later.
var levels = [][]string{{"||"}, {"&&"}, {"==", "!="}, {"<", "<=", ">", ">="}, {"+", "-"}, {"*", "/", "%"}}

// fixedWords are the words of the grammar.
var fixedWords = strings.Fields("fn int arr var return print if else while new len input")

// TestFunctions: 4.2: functions, in order, their parameters, where they begin.
func TestFunctions(t *testing.T) {
	l := parse(t, " fn main(){}\nfn f(a:int){ }fn g(v: arr, b: int, w: arr) { return 1; }")
	want := []api.Func{
		{Name: "main", At: 1},
		{Name: "f", At: 13, Params: []api.Param{{Name: "a", Type: api.Int}}},
		{Name: "g", At: 27, Params: []api.Param{{Name: "v", Type: api.Arr}, {Name: "b", Type: api.Int}, {Name: "w", Type: api.Arr}},
			Body: []api.Stmt{{Code: api.Return, At: 58, Value: num(65, 1)}}},
	}
	if !sameFuncs(l, want, true) {
		t.Errorf("told %v", l)
	}
}

// TestNoFunction: 4.1: a program may be of no function: of no byte, of what stands between tokens alone.
func TestNoFunction(t *testing.T) {
	for _, s := range []string{"", " ", "\n", "\t \n", "#", "#\n", "# fn", " # fn main\n# x\n\n#"} {
		if l := parse(t, s); len(l) != 0 {
			t.Errorf("Parse(%q) told %v", s, l)
		}
	}
}

// TestStatements: 4.2: each statement, its parts, where it and they begin.
func TestStatements(t *testing.T) {
	for _, c := range []struct {
		text string
		want []api.Stmt
	}{
		{"", nil},
		{"var x=1;", []api.Stmt{{Code: api.Var, Name: "x", Value: num(6, 1)}}},
		{"x = y;", []api.Stmt{{Code: api.Set, Name: "x", Value: word(4, "y")}}},
		{"v[i]=2;", []api.Stmt{{Code: api.Put, Name: "v", Index: word(2, "i"), Value: num(5, 2)}}},
		{"v [ (1) + i ] = (2)[0];", []api.Stmt{{Code: api.Put, Name: "v", Index: bin(4, "+", num(5, 1), word(10, "i")), Value: item(16, num(17, 2), num(20, 0))}}},
		{"return(3);", []api.Stmt{{Code: api.Return, Value: num(7, 3)}}},
		{"print 4;", []api.Stmt{{Code: api.Print, Value: num(6, 4)}}},
		{"g();", []api.Stmt{{Code: api.Do, Value: call(0, "g")}}},
		{"g(1,x);", []api.Stmt{{Code: api.Do, Value: call(0, "g", num(2, 1), word(4, "x"))}}},
		{"if(x){}", []api.Stmt{{Code: api.If, Value: word(3, "x")}}},
		{"if(x){}else{}", []api.Stmt{{Code: api.If, Value: word(3, "x")}}},
		{"if(x){g();}", []api.Stmt{{Code: api.If, Value: word(3, "x"), Then: []api.Stmt{{Code: api.Do, At: 6, Value: call(6, "g")}}}}},
		{"if(x){}else{g();}", []api.Stmt{{Code: api.If, Value: word(3, "x"), Else: []api.Stmt{{Code: api.Do, At: 12, Value: call(12, "g")}}}}},
		{"if(x){if(y){}}else{x=1;}", []api.Stmt{{Code: api.If, Value: word(3, "x"),
			Then: []api.Stmt{{Code: api.If, At: 6, Value: word(9, "y")}},
			Else: []api.Stmt{{Code: api.Set, At: 19, Name: "x", Value: num(21, 1)}}}}},
		{"while((1)<x){x=0;y=1;}", []api.Stmt{{Code: api.While, Value: bin(6, "<", num(7, 1), word(10, "x")),
			Then: []api.Stmt{{Code: api.Set, At: 13, Name: "x", Value: num(15, 0)}, {Code: api.Set, At: 17, Name: "y", Value: num(19, 1)}}}}},
		{"x=1; print x;", []api.Stmt{{Code: api.Set, Name: "x", Value: num(2, 1)}, {Code: api.Print, At: 5, Value: word(11, "x")}}},
	} {
		l := parse(t, inBody(c.text))[0].Body
		moveStmts(l, -bodyAt)
		if !sameStmts(l, c.want, true) {
			t.Errorf("%s: told %+v", c.text, l)
		}
	}
}

// TestExpressions: 4.2: each FIRST, marks of one, items, and where they begin.
func TestExpressions(t *testing.T) {
	for _, c := range []struct {
		text string
		want *api.Expr
	}{
		{"7", num(0, 7)},
		{"x", word(0, "x")},
		{"g()", call(0, "g")},
		{"g( 1 , g(x),2 )", call(0, "g", num(3, 1), call(7, "g", word(9, "x")), num(12, 2))},
		{"new(3)", of(api.New, 0, num(4, 3))},
		{"len (v)", of(api.Len, 0, word(5, "v"))},
		{"input ( )", of(api.Input, 0, nil)},
		{"(x)", word(1, "x")},
		{"((x))", word(2, "x")},
		{"-x", un(0, "-", word(1, "x"))},
		{"!x", un(0, "!", word(1, "x"))},
		{"-!- x", un(0, "-", un(1, "!", un(2, "-", word(4, "x"))))},
		{"-(x)", un(0, "-", word(2, "x"))},
		{"(-x)", un(1, "-", word(2, "x"))},
		{"v[0]", item(0, word(0, "v"), num(2, 0))},
		{"v[0][1]", item(0, item(0, word(0, "v"), num(2, 0)), num(5, 1))},
		{"v[w[1]]", item(0, word(0, "v"), item(2, word(2, "w"), num(4, 1)))},
		{"(v)[0]", item(0, word(1, "v"), num(4, 0))},
		{"((v)[0])[1]", item(0, item(1, word(2, "v"), num(5, 0)), num(9, 1))},
		{"g(1)[0]", item(0, call(0, "g", num(2, 1)), num(5, 0))},
		{"new(1)[0]", item(0, of(api.New, 0, num(4, 1)), num(7, 0))},
		{"1[2]", item(0, num(0, 1), num(2, 2))},
		{"-v[0]", un(0, "-", item(1, word(1, "v"), num(3, 0)))},
		{"(-v)[0]", item(0, un(1, "-", word(2, "v")), num(5, 0))},
		{"(!v)[0]", item(0, un(1, "!", word(2, "v")), num(5, 0))},
		{"x+1", bin(0, "+", word(0, "x"), num(2, 1))},
		{"(x)+(1)", bin(0, "+", word(1, "x"), num(5, 1))},
		{"(x+1)*2", bin(0, "*", bin(1, "+", word(1, "x"), num(3, 1)), num(6, 2))},
		{"2*(x+1)", bin(0, "*", num(0, 2), bin(3, "+", word(3, "x"), num(5, 1)))},
		{"(x)*y+z", bin(0, "+", bin(0, "*", word(1, "x"), word(4, "y")), word(6, "z"))},
		{"((x)-1)-2", bin(0, "-", bin(1, "-", word(2, "x"), num(5, 1)), num(8, 2))},
		{"(v)[0]<1", bin(0, "<", item(0, word(1, "v"), num(4, 0)), num(7, 1))},
		{"-x-y", bin(0, "-", un(0, "-", word(1, "x")), word(3, "y"))},
		{"-(x-y)", un(0, "-", bin(2, "-", word(2, "x"), word(4, "y")))},
		{"x--y", bin(0, "-", word(0, "x"), un(2, "-", word(3, "y")))},
		{"!x*-y", bin(0, "*", un(0, "!", word(1, "x")), un(3, "-", word(4, "y")))},
	} {
		if got := parseExpr(t, c.text); !sameExpr(got, c.want, true) {
			t.Errorf("%s: told %s, %+v", c.text, tree.Text(got), got)
		}
	}
}

// TestLevels: 4.1, 4.2: of any two marks of two the nearer one holds first, of equal ones the left one.
func TestLevels(t *testing.T) {
	for i, l := range levels {
		for k, m := range levels {
			for _, p := range l {
				for _, q := range m {
					want := bin(0, q, bin(0, p, word(0, "x"), word(0, "y")), word(0, "z"))
					if i < k {
						want = bin(0, p, word(0, "x"), bin(0, q, word(0, "y"), word(0, "z")))
					}
					for _, between := range []string{"", " "} {
						s := strings.Join([]string{"x", p, "y", q, "z"}, between)
						if got := parseExpr(t, s); !sameExpr(got, want, false) {
							t.Errorf("%s: told %+v", s, got)
						}
					}
				}
			}
		}
	}
}

// TestBetween: 4.1: blanks, tabs, line feeds, remarks, or nothing, stand between tokens, and make no difference.
func TestBetween(t *testing.T) {
	tokens := strings.Fields("fn f ( a : int , b : arr ) { var x = - 1 + ! a ; x = x [ 0 ] ; b [ x ] = g ( a , 2 ) ; if ( a <= 1 ) { print new ( 3 ) ; } else { while ( a && b ) { f ( ) ; } } return len ( b ) || input ( ) != 2 ; }")
	want := parse(t, strings.Join(tokens, " "))
	for _, between := range []string{"  ", "\t", "\n", " \t\n\n", "#\n", "# fn } \x00\xff # & \t\r\n", "##\n ", "\n#x\n#y\n"} {
		s := between + strings.Join(tokens, between) + between
		if !sameFuncs(parse(t, s), want, false) {
			t.Errorf("%q between tokens makes a difference", between)
		}
	}
	var b strings.Builder
	for i, s := range tokens {
		if i > 0 && isWord(s) && isWord(tokens[i-1]) {
			b.WriteString(" ")
		}
		b.WriteString(s)
	}
	if !sameFuncs(parse(t, b.String()), want, false) {
		t.Errorf("%s: nothing between tokens makes a difference", b.String())
	}
}

// isWord: would it go on what stands ahead of it?
func isWord(s string) bool {
	return strings.Trim(s, "abcdefghijklmnopqrstuvwxyz_0123456789") == ""
}

// TestRemarks: 4.1: a remark goes to its line's end, or to the text's.
func TestRemarks(t *testing.T) {
	want := parse(t, "fn f(){x=1;}")
	for _, s := range []string{"fn f(){x=1;}#", "fn f(){x=1;}# fn", "fn f(){x=1;} # é \x80\n", "fn#\nf(){x=1;#2;\n}", "#x\nfn f(){x#y\n=1;}", "fn f(){x=1#0\n;}"} {
		if !sameFuncs(parse(t, s), want, false) {
			t.Errorf("%q: the remark is read", s)
		}
	}
	faulty(t, "fn f(){x=1;#}", api.ErrForm, 13)
	faulty(t, "fn f(){x=1;#}\n\n", api.ErrForm, 15)
	faulty(t, "fn f(){x=1;#\r\r&}", api.ErrForm, 16)
	faultyAt(t, "#&\n^&", api.ErrForm)
}

// TestNoToken: 4.1: a byte with which no token begins is ErrForm, wherever it stands outside a remark.
func TestNoToken(t *testing.T) {
	for c := range 256 {
		if strings.IndexByte(" \t\n#abcdefghijklmnopqrstuvwxyz_0123456789=<>+-*/%!(){}[],;:", byte(c)) >= 0 {
			continue
		}
		s := string([]byte{byte(c)})
		faulty(t, s, api.ErrForm, 0)
		faulty(t, "fn f(){}"+s, api.ErrForm, 8)
		faulty(t, inReturn("1"+s+" + 2"), api.ErrForm, returnAt+1)
		faulty(t, "fn f(){x"+s, api.ErrForm, 8)
		faulty(t, "fn f() } 1 "+s+" fn", api.ErrForm, 11)
	}
}

// TestMarks: 4.1: of the marks the first one of the list that stands there is the token.
func TestMarks(t *testing.T) {
	x, y := word(0, "x"), word(0, "y")
	no := func(e *api.Expr) *api.Expr { return un(0, "!", e) }
	less := func(e *api.Expr) *api.Expr { return un(0, "-", e) }
	for _, c := range []struct {
		text string
		want *api.Expr
	}{
		{"x<-y", bin(0, "<", x, less(y))},
		{"x<=-y", bin(0, "<=", x, less(y))},
		{"x>!y", bin(0, ">", x, no(y))},
		{"x>=!y", bin(0, ">=", x, no(y))},
		{"x!=!y", bin(0, "!=", x, no(y))},
		{"!x!=y", bin(0, "!=", no(x), y)},
		{"!!x==!!y", bin(0, "==", no(no(x)), no(no(y)))},
		{"x&&!y", bin(0, "&&", x, no(y))},
		{"x||-y", bin(0, "||", x, less(y))},
		{"-x--y", bin(0, "-", less(x), less(y))},
		{"x%-y", bin(0, "%", x, less(y))},
	} {
		if got := parseExpr(t, c.text); !sameExpr(got, c.want, false) {
			t.Errorf("%s: told %s", c.text, tree.Text(got))
		}
	}
	for _, s := range []string{
		"x^&y", "x^|y", "x&&^&y", "x||^|y", "x&&^|y", "x^& &y", "x^| |y", // there is no such token
		"x==^=y", "x!=^=y", "x<=^=y", "x>=^=y", "x<^>y", "x>^<y", "x<^<y", "x<^<=y", "x>^>=y", "x>=^>y",
		"x< ^=y", "x> ^=y", "x^= =y", "x^=y", "x^!y", "x^! =y", "^!=x", "x^=!y", "x^=<y", "x+^+y", "x-^*y", "x*^*y", "x/^/y",
	} {
		faultyAt(t, inReturn(s), api.ErrForm)
	}
	faultyAt(t, inBody("x^==1;"), api.ErrForm)
	faultyAt(t, inBody("x= ^=1;"), api.ErrForm)
	faultyAt(t, inBody("x^<=1;"), api.ErrForm)
}

// TestWords: 4.1: of which a WORD is made, and that a digit does not begin it.
func TestWords(t *testing.T) {
	for _, s := range []string{"a", "z", "_", "a1", "_0", "__", "a_b_9", "main", "fnn", "f_n", "int1", "arrr", "els", "lens", "inputs", "new_", "_if", "bool", "for", "true"} {
		if got := parseExpr(t, s); !sameExpr(got, word(0, s), true) {
			t.Errorf("%s: told %+v", s, got)
		}
	}
	// A number ends where its digits do, and a word behind it is the next token.
	faultyAt(t, inReturn("1^a"), api.ErrForm)
	faultyAt(t, inReturn("12^_"), api.ErrForm)
	faultyAt(t, inReturn("1^fn"), api.ErrForm)
	faultyAt(t, "fn ^1a(){}", api.ErrForm)
	faultyAt(t, inBody("^1a=2;"), api.ErrForm)
	faultyAt(t, inReturn("a ^1"), api.ErrForm)
}

// TestNumbers: 4.1: a NUMBER may have noughts ahead, and has 63 bits.
func TestNumbers(t *testing.T) {
	for _, c := range []struct {
		text string
		want int64
	}{
		{"0", 0}, {"00", 0}, {"007", 7}, {"10", 10}, {"1234567890", 1234567890},
		{"9223372036854775807", 1<<63 - 1},
		{"0009223372036854775807", 1<<63 - 1},
		{strings.Repeat("0", 5000) + "42", 42},
	} {
		if got := parseExpr(t, c.text); !sameExpr(got, num(0, c.want), true) {
			t.Errorf("%s: told %+v", c.text, got)
		}
	}
	for _, s := range []string{"9223372036854775808", "009223372036854775808", "18446744073709551615", "18446744073709551616", "18446744073709551623", "99999999999999999999", "1" + strings.Repeat("0", 5000)} {
		faultyAt(t, inReturn("^"+s), api.ErrLimit)
		faultyAt(t, inReturn("1 + -^"+s+" 2"), api.ErrLimit)
		faultyAt(t, inBody("print v[^"+s), api.ErrLimit)
		faultyAt(t, inReturn("1 ^"+s), api.ErrForm)
		faultyAt(t, "fn ^"+s, api.ErrForm)
		faultyAt(t, "^"+s, api.ErrForm)
	}
}

// named are programs with a NAME in each place where one may stand: there is ~.
var named = []string{
	"fn ~(){}", "fn f(~:int){}", "fn f(a:arr,~:int){}", "fn f(){var ~=1;}", "fn f(){~=1;}", "fn f(){~[0]=1;}", "fn f(){~(1);}",
	"fn f(){print 1+~;}", "fn f(){print ~(2);}", "fn f(){print -~[3];}",
}

// TestNames: 4.1: a NAME has at most MaxName letters, wherever it stands.
func TestNames(t *testing.T) {
	for _, s := range named {
		for _, most := range []string{"abcdefghijkl", "____________", "a23456789012"} {
			if len(most) != api.MaxName {
				t.Fatalf("%s has not MaxName letters", most)
			}
			program := strings.ReplaceAll(s, "~", most)
			if got := tree.Print(parse(t, program)); strings.Count(got, most) != 1 {
				t.Errorf("%s: told %s", program, got)
			}
			faultyAt(t, strings.ReplaceAll(s, "~", "^"+most+"m"), api.ErrLimit)
			faultyAt(t, strings.ReplaceAll(s, "~", "^"+most+"1"), api.ErrLimit)
			faultyAt(t, strings.ReplaceAll(s, "~", "^"+most+"_"), api.ErrLimit)
			faultyAt(t, strings.ReplaceAll(s, "~", "^"+most+most+" }"), api.ErrLimit)
		}
	}
	// Where no NAME may stand, it is ErrForm first.
	for _, s := range []string{"^~", "fn f ^~", "fn f(a ^~", "fn f(a:^~", "fn f() ^~", "fn f(){x ^~", "fn f(){if ^~", "fn f(){if(1){}} ^~", "fn f(){print 1 ^~", "fn f(){print len ^~", "fn f(){print input(^~"} {
		faultyAt(t, strings.ReplaceAll(s, "~", "abcdefghijklm"), api.ErrForm)
	}
}

// TestFixedWords: 4.1: no word of the grammar is a NAME.
func TestFixedWords(t *testing.T) {
	for _, s := range named {
		for _, w := range fixedWords {
			if strings.Contains(s, "print") && (w == "new" || w == "len" || w == "input") {
				continue // an expression may begin so
			}
			if strings.HasPrefix(s, "fn f(){~") && (w == "var" || w == "return" || w == "print" || w == "if" || w == "while") {
				continue // a statement may
			}
			faultyAt(t, strings.ReplaceAll(s, "~", "^"+w), api.ErrForm)
		}
	}
	faultyAt(t, inReturn("new^+1"), api.ErrForm)
	faultyAt(t, inReturn("len^[0]"), api.ErrForm)
	faultyAt(t, inReturn("input^;"), api.ErrForm)
	faultyAt(t, inReturn("input(^1)"), api.ErrForm)
	faultyAt(t, inReturn("new(^)"), api.ErrForm)
	faultyAt(t, inReturn("len(^)"), api.ErrForm)
	faultyAt(t, inReturn("new(1^,2)"), api.ErrForm)
	faultyAt(t, inBody("var^=1;"), api.ErrForm)
	faultyAt(t, inBody("return^;"), api.ErrForm)
	faultyAt(t, inBody("print^;"), api.ErrForm)
	faultyAt(t, "fn f(a:^int8){}", api.ErrForm)
	faultyAt(t, "fn f(a:^arr_){}", api.ErrForm)
	faultyAt(t, "fn f(a:int ^int){}", api.ErrForm)
}
