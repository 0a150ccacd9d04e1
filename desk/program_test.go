package desk_test

import (
	"fmt"
	"strings"
	"testing"

	"bloomery/tree"
)

// fault is a program of which something is found, and what is.
type fault struct {
	program string
	number  int
}

// notRead are programs of which Parse tells something.
func notRead() []fault {
	return []fault{
		{"x", 3}, {"fn", 3}, {"fn main() {", 3}, {"fn main() { $ }", 3}, {"fn main() { print; }", 3}, {"\xff", 3}, {"fn main() { print 1 | 2; }", 3},
		{"fn main() { print 9223372036854775808; }", 4},
		{"fn main() { abcdefghijklm = 1; }", 4},
		{strings.Repeat("fn f() { } ", 13), 4},
		{"fn main() { " + strings.Repeat("if (1) { ", 13), 4},
		{"fn main() { " + strings.Repeat("print 1; ", 500) + "}", 4},
		// Check would tell something, too, but it is not asked.
		{"fn main() { return q; } fn", 3}, {"fn main() { } fn main() { } ;", 3}, {"fn f() { print 9223372036854775808; }", 4},
	}
}

// notSound are programs of which Check tells something.
func notSound() []fault {
	return []fault{
		{"", 8}, {"fn f() { }", 8}, {"fn main(a: int) { }", 8}, {"# fn main() { }", 8},
		{"fn main() { } fn main() { }", 9},
		{"fn main() { var x = 1; var x = 2; }", 9},
		{"fn main() { return x; }", 7},
		{"fn main() { f(); }", 7},
		{"fn main() { main(2); }", 2},
		{"fn main() { return new(1); }", 1},
		{"fn main() { var v = 1; v[0] = 2; }", 1},
		{"fn main() { var a = 0; var b = 0; var c = 0; var d = 0; var e = 0; var f = 0; var g = 0; var h = 0; var i = 0; var j = 0; var k = 0; var l = 0; var m = 0; }", 12},
	}
}

// 11.1: check, run, go, same and code tell Parse's errors, then Check's; print Parse's alone.
func TestProgramErrors(t *testing.T) {
	ask := func(f fault) {
		want := fmt.Sprint("error ", f.number)
		for _, line := range []string{"check", "run", "run 1 2", "go", "go 1 2", "same", "same 1 2", "code"} {
			tells(t, f.program, said{line, want})
		}
	}
	for _, f := range notRead() {
		ask(f)
		tells(t, f.program, said{"print", fmt.Sprint("error ", f.number)})
	}
	for _, f := range notSound() {
		ask(f)
		l, err := tree.Parse(f.program)
		if err != nil {
			t.Fatalf("%s: Parse tells %v", cut(f.program), err)
		}
		tells(t, f.program, said{"print", "print " + strings.ReplaceAll(tree.Print(l), "\n", "|")})
	}
}

// 11.1: check tells how many functions there are.
func TestCheck(t *testing.T) {
	tells(t, "fn main() { }", said{"check", "check 1"})
	for n := 2; n <= 12; n++ {
		s := "fn main() { }"
		for i := 1; i < n; i++ {
			s += fmt.Sprint(" fn f", i, "() { }")
		}
		tells(t, s, said{"check", fmt.Sprint("check ", n)})
	}
}

// 11.1: print tells what Print does, in one line.
func TestPrint(t *testing.T) {
	for _, x := range []said{
		{"", ""},
		{"# nothing", ""},
		{"fn main() { }", "fn main() {|}|"},
		{"fn main(){print 1-(2-3)*-x[ 0];}", "fn main() {|  print 1 - (2 - 3) * -x[0];|}|"},
		{"fn a() { } fn b(x: int, y: arr) { y[x] = 1; }", "fn a() {|}|fn b(x: int, y: arr) {|  y[x] = 1;|}|"},
		{"fn f(){if(a||b){while(1){}}else{c=007;}}", "fn f() {|  if (a || b) {|    while (1) {|    }|  } else {|    c = 7;|  }|}|"},
	} {
		tells(t, x.line, said{"print", "print " + x.want}, said{" print  ", "print " + x.want})
	}
}

// 11.1: run tells how the program is meant to end: Way, Code, and each number that was told.
func TestRun(t *testing.T) {
	told := " 1 2 3"
	for range 197 {
		told += " 4"
	}
	for _, x := range []said{
		{"", "1 0"},
		{"return 7;", "1 7"},
		{"return -7;", "1 -7"},
		{"return 0 - 9223372036854775807 - 1;", "1 -9223372036854775808"},
		{"print 5;", "1 0 5"},
		{"print 0; print -1; print 9223372036854775807; return 3;", "1 3 0 -1 9223372036854775807"},
		{"print 9223372036854775807 + 1; return 9223372036854775807;", "1 9223372036854775807 -9223372036854775808"},
		{"print 5; print 1 / 0; print 6;", "2 0 5"},
		{"print 6; return 1 % 0;", "2 0 6"},
		{"var v = new(2); print v[1]; print v[2]; print 8;", "3 0 0"},
		{"print len(new(40)); print len(new(41));", "4 0 40"},
		{"print len(new(-1));", "4 0"},
		{"return down(3);", "1 0 3 2 1"},
		{"return down(-3);", "1 3"},
		{"print 1; return main();", "5 0" + strings.Repeat(" 1", 40)},
		{"print 1; while (1) { }", "6 0 1"},
		{"print 1; print 2; print 3; while (1) { print 4; }", "7 0" + told},
		{"return first(new(0));", "3 0"},
		{"return input() - input();", "1 0"},
	} {
		tells(t, inMain(x.line), said{"run", "run " + x.want}, said{"go", "go " + x.want}, said{"same", "same true true"})
	}
	tells(t, inMain("return input() - input();"), said{"run 9", "run 1 9"}, said{"run 9 5", "run 1 4"}, said{"run 5 9 1", "run 1 -4"}, said{"run -9223372036854775808 1", "run 1 9223372036854775807"})
}

// 11.1: run's fuel is 2000: a program that costs as much ends, one that costs one more does not.
func TestRunFuel(t *testing.T) {
	// A statement for the variable, one for the loop, two a round.
	const loop = "var n = input(); while (n) { n = n - 1; } "
	tells(t, "fn main() { "+loop+"}", said{"run 0", "run 1 0"}, said{"run 999", "run 1 0"}, said{"run 1000", "run 6 0"}, said{"run -1", "run 6 0"})
	tells(t, "fn main() { "+loop+"print 5; }", said{"run 998", "run 1 0 5"}, said{"run 999", "run 6 0"})
	tells(t, "fn main() { "+loop+"print 5; print 6; }", said{"run 998", "run 1 0 5 6"}, said{"run 999", "run 6 0"})
	tells(t, "fn main() { "+loop+"print 5; print 6; return 7; }", said{"run 997", "run 1 7 5 6"}, said{"run 998", "run 6 0 5 6"})
	// It costs as much anew in every line.
	tells(t, "fn main() { "+loop+"}", said{"run 900", "run 1 0"}, said{"run 901", "run 1 0"}, said{"run 999", "run 1 0"})
}
