package desk_test

import (
	"fmt"
	"math/rand"
	"strings"
	"testing"

	"bloomery/desk"
)

// one is one of some texts.
func one(d *rand.Rand, l ...string) string { return l[d.Intn(len(l))] }

// several are some of some texts, with another one between.
func several(d *rand.Rand, most int, between string, l ...string) string {
	var s []string
	for range d.Intn(most + 1) {
		s = append(s, one(d, l...))
	}
	return strings.Join(s, between)
}

// drawnProgram is a program of which mostly nothing is found.
func drawnProgram(d *rand.Rand) string {
	s := inMain("var x = input(); var y = 3; var v = new(4); " + several(d, 7, " ",
		"print x;", "print y - x;", "x = x * 3 - y;", "y = input();", "v[1] = x + y;", "v[x] = 2;", "print v[1] || v[y];", "print down(y);", "y = down(2) + first(v);",
		"v = new(x);", "v = new(40);", "x = x / y;", "y = 7 % x;", "if (x < y) { print -1; } else { y = !y; }", "while (x < 9) { x = x + 1; print x; }", "while (y) { y = y - 1; }", "while (y) { x = x + 1; }", "return y;", "print len(v) && main();") + " return x;")
	if d.Intn(3) > 0 {
		return s
	}
	words := strings.Split(s, " ")
	words[d.Intn(len(words))] = one(d, "", "x", "v", "v;", "v;", "q", ";", "}", "1", "|", "||", "new(2)", "f(1);", "fn", "#", "9223372036854775808")
	return strings.Join(words, " ")
}

// drawnNumbers are some words that are mostly numbers.
func drawnNumbers(d *rand.Rand) string {
	return several(d, 4, one(d, " ", "  "), "0", "1", "2", "3", "4", "7", "40", "41", "-1", "-5", "9223372036854775807", "-9223372036854775808") + one(d, "", "", "", "", "", "", " x", " -0", " 01")
}

// drawnText is a text of instructions, of which mostly nothing is found.
func drawnText(d *rand.Rand) string {
	return several(d, 9, one(d, "|", " | ", "||"),
		"addi x17,x0,1", "addi x17,x0,2", "addi x17,x0,3", "addi x10,x0,1", "addi x10,x10,-7", "addi x11,x10,5", "ecall", "ecall", "ecall", "add x5,x10,x5", "mul  x6,x10,x10", "sub x7,x0,x6", "addi x2,x2,-8", "sd x10,0(x2)", "ld x8,0(x2)", "ld x8,4(x0)", "beq x5,x0,8", "bne x10,x0,-8", "jal x1,8", "a:") + one(d, "", "", "", "", "|jal x0,a", "|a:", "|x", "|addi x1,x1,4000")
}

// drawnLine is a line that mostly tells something.
func drawnLine(d *rand.Rand) string {
	line := one(d, "check", "print", "code", "help", "", "word 19", "word 0", "word -3", "x", "check 1", "word")
	switch d.Intn(9) {
	case 0, 1:
		line = "new " + drawnProgram(d)
	case 2, 3:
		line = one(d, "run ", "run ", "run ", "go ", "same ") + drawnNumbers(d)
	case 4:
		line = one(d, "asm ", "regs ") + drawnText(d)
	case 5:
		line = "regs " + drawnText(d)
	case 6:
		line = fmt.Sprint("word ", []uint32{0x13, 0x33, 0x63, 0x3003, 0x6f, 0x37, 0x2000033}[d.Intn(7)]|d.Uint32()&0x0ff0_0f80)
	}
	return one(d, "", "", " ", "   ") + line + one(d, "", "", "", " ", "\n", "\t")
}

// drawnSession is a session of some lines.
func drawnSession(d *rand.Rand) string {
	var l []string
	for range 1 + d.Intn(9) {
		l = append(l, drawnLine(d))
	}
	return strings.Join(l, "\n") + one(d, "", "\n", "\n\n")
}

// 11.1: drawn sessions are answered as the layers below tell.
func TestDrawn(t *testing.T) {
	d := rand.New(rand.NewSource(111))
	met := map[string]int{}
	for range 4000 {
		s := drawnSession(d)
		got, want := desk.Session(s), wants(s)
		if got != want {
			t.Fatalf("%q is answered %q; %q is asked", s, got, want)
		}
		for _, line := range strings.Split(got, "\n") {
			first, rest, _ := strings.Cut(line, " ")
			met[first]++
			if next, _, _ := strings.Cut(rest, " "); first == "error" || first == "run" || first == "regs" {
				met[first+" "+next]++
			}
		}
	}
	for _, s := range []string{"ok", "new", "check", "print", "run", "go", "same", "code", "asm", "word", "regs", "run 1", "run 2", "run 3", "run 4", "run 5", "run 6", "regs 1", "regs 6", "regs 9", "error 1", "error 2", "error 3", "error 4", "error 7", "error 8", "error 9"} {
		if met[s] < 5 {
			t.Errorf("%s was met %d times alone", s, met[s])
		}
	}
}

// 11.1: the answers to the first lines of a session are the beginning of the answers to all, a line each.
func TestFirstLines(t *testing.T) {
	d := rand.New(rand.NewSource(112))
	for range 300 {
		s := strings.TrimRight(drawnSession(d), "\n")
		all := desk.Session(s)
		lines := strings.Split(s, "\n")
		if n := strings.Count(all, "\n"); n != len(lines) || !strings.HasSuffix(all, "\n") {
			t.Fatalf("%q has %d lines, and is answered %q", s, len(lines), all)
		}
		for n := range lines {
			first := desk.Session(strings.Join(lines[:n+1], "\n") + "\n")
			if !strings.HasPrefix(all, first) || strings.Count(first, "\n") != n+1 {
				t.Fatalf("%q is answered %q; its first %d lines %q", s, all, n+1, first)
			}
		}
	}
}

// P1, P4: whatever the text is, Session ends, and tells the same again.
func TestAnyText(t *testing.T) {
	d := rand.New(rand.NewSource(113))
	pieces := []string{"new", "run", "go", "asm", "regs", "word", "check", "print", " ", "  ", "\n", "|", "\x00", "\xff", "\xc3", "é", "-", "0", "9223372036854775808", "fn main() { }", "fn main() { print input(); }", "ecall", "x5", ",", ":", "\t", "\r", "#"}
	var sessions, answers []string
	for range 3000 {
		s := several(d, 30, "", pieces...)
		got, want := desk.Session(s), wants(s)
		if got != want {
			t.Fatalf("%q is answered %q; %q is asked", s, got, want)
		}
		sessions, answers = append(sessions, s), append(answers, got)
	}
	for _, i := range d.Perm(len(sessions)) {
		if again := desk.Session(sessions[i]); again != answers[i] {
			t.Fatalf("%q is answered %q, then %q", sessions[i], answers[i], again)
		}
	}
}
