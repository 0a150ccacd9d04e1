package desk_test

import (
	"fmt"
	"slices"
	"strings"
	"testing"

	"bloomery/api"
	"bloomery/asm"
	"bloomery/build"
	"bloomery/check"
	"bloomery/desk"
	"bloomery/machine"
	"bloomery/run"
	"bloomery/tree"
	"bloomery/word"
)

// cut is a long text's beginning, for a fault.
func cut(s string) string { return fmt.Sprintf("%.600q", s) }

// says asks that a session is answered by just these lines.
func says(t *testing.T, session string, want ...string) {
	t.Helper()
	if got, all := desk.Session(session), strings.Join(want, "\n")+"\n"; got != all {
		t.Errorf("%s is answered %s; %s is asked", cut(session), cut(got), cut(all))
	}
}

// said is a line, and what it tells.
type said struct{ line, want string }

// tells asks that lines, with a program, tell what they are to: alone, and all in one session.
func tells(t *testing.T, program string, l ...said) {
	t.Helper()
	session, want := "new "+program, []string{"new"}
	for _, x := range l {
		says(t, "new "+program+"\n"+x.line, "new", x.want)
		session += "\n" + x.line
		want = append(want, x.want)
	}
	says(t, session, want...)
}

// inMain is a program of these statements, with functions that they may call.
func inMain(statements string) string {
	return "fn main() { " + statements + " } fn down(n: int) { if (n > 0) { print n; return down(n - 1); } return -n; } fn first(v: arr) { return v[0]; }"
}

// endOf is an END.
func endOf(e api.End) string {
	s := fmt.Sprint(e.Way, " ", e.Code)
	for _, n := range e.Out {
		s += fmt.Sprint(" ", n)
	}
	return s
}

// machineOf is a machine of so many bytes with a program's words.
func machineOf(program string, fewer bool, bytes int, in []int64) (*machine.Machine, error) {
	words, err := build.Words(program, fewer, bytes)
	if err != nil {
		return nil, err
	}
	return machine.New(words, bytes, in)
}

// wants is what a session is to be answered, by what the layers below tell.
func wants(text string) string {
	if len(text) > 20_000 {
		return "error 4\n"
	}
	if n := len(text); n > 0 && text[n-1] == '\n' {
		text = text[:n-1]
	}
	program, all := "", ""
	for _, line := range strings.Split(text, "\n") {
		words := slices.DeleteFunc(strings.Split(line, " "), func(w string) bool { return w == "" })
		told, err := "ok", error(nil)
		if len(words) > 0 {
			told, err = wantsLine(&program, words[0], words[1:])
		}
		if err != nil {
			told = fmt.Sprint("error ", int(api.Tell(err)))
		}
		all += told + "\n"
	}
	return all
}

// wantsLine is what a line is to tell.
func wantsLine(program *string, first string, words []string) (string, error) {
	counts := map[string][2]int{"new": {0, 1e9}, "asm": {0, 1e9}, "regs": {0, 1e9}, "run": {0, 1e9}, "go": {0, 1e9}, "same": {0, 1e9}, "word": {1, 1}, "check": {}, "print": {}, "code": {}, "help": {}}
	count, ok := counts[first]
	if !ok || len(words) < count[0] || len(words) > count[1] {
		return "", api.ErrForm
	}
	rest := strings.Join(words, " ")
	switch first {
	case "new":
		*program = rest
		return "new", nil
	case "help":
		return "asm check code go help new print regs run same word", nil
	case "asm", "regs":
		return wantsText(first, strings.Join(strings.Split(rest, "|"), "\n"))
	case "check", "print", "code":
		return wantsProgram(first, *program)
	}
	var in []int64
	for _, w := range words {
		var n int64
		if _, err := fmt.Sscan(w, &n); err != nil || fmt.Sprint(n) != w {
			return "", api.ErrForm
		}
		in = append(in, n)
	}
	if first == "word" {
		return wantsWord(in[0])
	}
	return wantsEnd(first, *program, in)
}

// wantsProgram is what check, print and code are to tell.
func wantsProgram(first, program string) (string, error) {
	l, err := tree.Parse(program)
	if err != nil {
		return "", err
	}
	if first == "print" {
		return "print " + strings.Join(strings.Split(tree.Print(l), "\n"), "|"), nil
	}
	if err := check.Check(l); err != nil {
		return "", err
	}
	if first == "check" {
		return fmt.Sprint("check ", len(l)), nil
	}
	return "code true", nil
}

// wantsEnd is what run, go and same are to tell.
func wantsEnd(first, program string, in []int64) (string, error) {
	if _, err := build.Steps(program, false); err != nil {
		return "", err
	}
	l, _ := tree.Parse(program)
	want := endOf(run.Run(l, in, 2000))
	if first == "run" {
		return "run " + want, nil
	}
	told := "same"
	for _, fewer := range []bool{false, true} {
		m, err := machineOf(program, fewer, 32768, in)
		if first == "go" && !fewer {
			continue
		}
		if err != nil {
			return "", err
		}
		got := endOf(m.Run(400_000))
		if first == "go" {
			return "go " + got, nil
		}
		told += fmt.Sprint(" ", got == want)
	}
	return told, nil
}

// wantsWord is what word is to tell.
func wantsWord(n int64) (string, error) {
	if n < 0 || n >= 1<<32 {
		return "", api.ErrRange
	}
	x, err := word.Decode(uint32(n))
	if err != nil {
		return "", err
	}
	s, err := asm.Print(x)
	return "word " + s, err
}

// wantsText is what asm and regs are to tell of a text.
func wantsText(first, text string) (string, error) {
	l, err := asm.Assemble(text)
	if err != nil {
		return "", err
	}
	words, err := asm.Words(l)
	if err != nil {
		return "", err
	}
	told := first
	if first == "asm" {
		for _, w := range words {
			told += fmt.Sprint(" ", w)
		}
		return told, nil
	}
	m, err := machine.New(words, 1024, []int64{7, 8})
	if err != nil {
		return "", err
	}
	told += " " + endOf(m.Run(1000))
	for i := 1; i < 32; i++ {
		if v := m.Reg(i); i != 2 && v != 0 {
			told += fmt.Sprint(" x", i, "=", v)
		}
	}
	return told, nil
}
