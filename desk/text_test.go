package desk_test

import (
	"strings"
	"testing"

	"bloomery/api"
	"bloomery/desk"
)

const helps = "asm check code go help new print regs run same word"

// oks are so many lines that tell nothing.
func oks(n int) []string {
	return strings.Split(strings.TrimSuffix(strings.Repeat("ok\n", n), "\n"), "\n")
}

// 11.1: a text of more than MaxText bytes is answered by one line, whatever is in it; one of just so many is not.
func TestTooLong(t *testing.T) {
	lines := strings.Repeat("help\n", api.MaxText/5)
	says(t, lines, strings.Split(strings.Repeat(helps+"\n", api.MaxText/5)+"x", "\n")[:api.MaxText/5]...)
	says(t, lines+"\n", "error 4")
	says(t, lines+"h", "error 4")
	says(t, "\n"+lines, "error 4")
	says(t, lines+lines, "error 4")
	blanks := strings.Repeat(" ", api.MaxText)
	says(t, blanks, "ok")
	says(t, blanks+" ", "error 4")
	says(t, blanks[1:]+"\n", "ok")
	says(t, blanks+"\n", "error 4")
	says(t, strings.Repeat("\n", api.MaxText), oks(api.MaxText)...)
	says(t, strings.Repeat("\n", api.MaxText+1), "error 4")
	says(t, strings.Repeat("x", api.MaxText), "error 3")
	says(t, strings.Repeat("x", api.MaxText+1), "error 4")
	// Bytes are counted, not letters.
	says(t, strings.Repeat("é", api.MaxText/2), "error 3")
	says(t, strings.Repeat("é", api.MaxText/2+1), "error 4")
	says(t, "new "+strings.Repeat("#", api.MaxText-4), "new")
	says(t, "new "+strings.Repeat("#", api.MaxText-3), "error 4")
}

// 11.1: lines are cut at line feeds; one at the text's end is left out; the empty text is one line.
func TestLines(t *testing.T) {
	says(t, "", "ok")
	says(t, "\n", "ok")
	says(t, "\n\n", "ok", "ok")
	says(t, "\n\n\n", "ok", "ok", "ok")
	says(t, "help", helps)
	says(t, "help\n", helps)
	says(t, "help\n\n", helps, "ok")
	says(t, "help\n\n\n", helps, "ok", "ok")
	says(t, "\nhelp", "ok", helps)
	says(t, "\n\nhelp\n", "ok", "ok", helps)
	says(t, "help\n\nhelp", helps, "ok", helps)
	says(t, "help\n \n", helps, "ok")
	says(t, "help\nx\nnew\nhelp\n", helps, "error 3", "new", helps)
	// Nothing else ends a line.
	for _, s := range []string{"help\rhelp", "help\r\n", "help\v", "help\fhelp", "help\u2028help", "help\u0085help", "help\x00help", "help|help"} {
		says(t, s, "error 3")
	}
}

// 11.1: words have blanks between, and perhaps at both ends, one or several; a line without words is answered ok.
func TestWords(t *testing.T) {
	for _, s := range []string{" ", "  ", "     ", " \n", "  \n"} {
		says(t, s, "ok")
	}
	for _, s := range []string{"help", " help", "help ", "   help   ", " help\n", "help   \n"} {
		says(t, s, helps)
	}
	says(t, "   new   fn   main()   {   print   3;   }   \n  print  \n   run   1    2 \nrun 1 2", "new", "print fn main() {|  print 3;|}|", "run 1 0 3", "run 1 0 3")
	says(t, "  word   19  ", "word addi x0,x0,0")
	says(t, " asm  addi   x1,x2,3 ", "asm 3211411")
	// Nothing else is a blank.
	for _, s := range []string{"\t", "\thelp", "help\t", "new\tx", "\r", "\u00a0", "\u2003help", "help\u00a0", "\u3000", "\x00", "\xff", "help\xff", "\xa0", "help\x85"} {
		says(t, s, "error 3")
		says(t, " "+s+"  ", "error 3")
	}
	says(t, "run 1\t2", "error 3")
	says(t, "run 1\u00a02", "error 3")
	// But within a program they stand as they are.
	says(t, "new fn\tmain()\t{ print\t\t3; }\nrun\nnew fn main() { print\u00a03; }\nrun", "new", "run 1 0 3", "new", "error 3")
}

// 11.1: a program's words have one blank between, however many there were; its bars stay, so that it is one line.
func TestNewWords(t *testing.T) {
	says(t, "new fn main() { print 1 || 0; print 0||0; }\nrun\nprint", "new", "run 1 0 1 0", "print fn main() {|  print 1 || 0;|  print 0 || 0;|}|")
	// Were a bar a line feed, each of these were a program.
	for _, s := range []string{"fn main() { }|", "|fn main() { }", "fn|main() { }", "fn main() { |print 1; }"} {
		tells(t, s, said{"check", "error 3"}, said{"print", "error 3"}, said{"run", "error 3"}, said{"go", "error 3"})
	}
	tells(t, "# |fn main() { }", said{"check", "error 8"}, said{"print", "print "})
	// What stands behind # is a remark to the end of the one line.
	says(t, "new fn main() { print 1; } # print 2; }\nrun\nnew fn main() { # } \ncheck", "new", "run 1 0 1", "new", "error 3")
	says(t, "new fn main() { a = 1; }\nnew\nprint\ncheck", "new", "new", "print ", "error 8")
}

// 11.1: there is an empty program at first; an answer tells of the last new alone.
func TestProgramIsKept(t *testing.T) {
	says(t, "print\ncheck\nrun\ngo\nsame\ncode", "print ", "error 8", "error 8", "error 8", "error 8", "error 8")
	says(t, "new\nprint\ncheck\nrun 1\ngo 1\nsame 1\ncode", "new", "print ", "error 8", "error 8", "error 8", "error 8", "error 8")
	says(t, "new fn main() { print 1; }\nrun\nnew fn main() { print 2; }\nrun\nrun\nnew x\nrun\nnew fn main() { return 3; }\n\nrun",
		"new", "run 1 0 1", "new", "run 1 0 2", "run 1 0 2", "new", "error 3", "new", "ok", "run 1 3")
	// No other line changes it, and no error does.
	const program = "fn main() { print input(); return 4; }"
	for _, line := range []string{"", "check", "print", "run 5", "go 5", "same 5", "code", "asm new:|ecall", "word 19", "regs ecall", "help", "x", "new| x", "run x", "word -1", "asm x", "help new", "check new"} {
		got := desk.Session("new " + program + "\n" + line + "\nprint\nrun 9\ngo 8")
		if want := "\nprint fn main() {|  print input();|  return 4;|}|\nrun 1 4 9\ngo 1 4 8\n"; !strings.HasSuffix(got, want) {
			t.Errorf("behind %q: %s; %s is asked", line, cut(got), cut(want))
		}
	}
	// Numbers that were given to one line are not given to another one.
	tells(t, "fn main() { print input(); print input(); }", said{"run 1 2 3", "run 1 0 1 2"}, said{"run", "run 1 0 0 0"}, said{"go 4", "go 1 0 4 0"}, said{"go", "go 1 0 0 0"})
	// No session knows of another one.
	says(t, "print", "print ")
}
