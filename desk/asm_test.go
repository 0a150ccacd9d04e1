package desk_test

import (
	"fmt"
	"strings"
	"testing"

	"bloomery/desk"
)

// 11.1: help tells which first words there are, and nothing else; with each of them a line is understood.
func TestHelp(t *testing.T) {
	says(t, "help", "asm check code go help new print regs run same word")
	for _, w := range strings.Fields(helps) {
		if w == "word" {
			w += " 19"
		}
		if got := desk.Session("new fn main() { }\n" + w); got == "new\nerror 3\n" {
			t.Errorf("%s is answered %s", w, cut(got))
		}
	}
}

// 11.1: asm tells each word of the text's instructions; each bar is a line feed.
func TestAsm(t *testing.T) {
	for _, x := range []said{
		{"asm", "asm"},
		{"asm |", "asm"},
		{"asm ||| |", "asm"},
		{"asm a:", "asm"},
		{"asm addi x1,x2,-1", "asm 4293984403"},
		{"asm jalr x0,0(x1)", "asm 32871"},
		{"asm addi x1,x2,-1|ecall", "asm 4293984403 115"},
		{"asm   addi   x1,x2,-1   |   ecall  ", "asm 4293984403 115"},
		{"asm |ecall||ecall|", "asm 115 115"},
		{"asm jal x0,a|a:", "asm 4194415"},
		{"asm jal x0,0|jal x0,-4", "asm 111 4292866159"},
		{"asm a:|ecall|jal x0,a", "asm 115 4292866159"},
		{"asm a: | ecall | jal x0,a", "asm 115 4292866159"},
		{"asm jal x31,-2", "asm 4294967279"},
		{"asm ecall" + strings.Repeat("|ecall", 300), "asm 115" + strings.Repeat(" 115", 300)},
	} {
		says(t, x.line, x.want)
	}
}

// notAssembled are texts of which Assemble tells something.
var notAssembled = []said{
	{"x", "error 3"}, {"ecall ecall", "error 3"}, {"ecall\tecall", "error 3"}, {"addi x1,x2", "error 3"}, {"addi x1, x2, 3", "error 3"}, {"add x1,x2,x32", "error 3"}, {"a: ecall", "error 3"}, {"A:", "error 3"}, {"addi x1,x2,03", "error 3"}, {"addi x1,x2,9223372036854775808", "error 3"},
	{"a:|a:", "error 9"}, {"a:|ecall|a:|ecall", "error 9"},
	{"jal x0,a", "error 7"}, {"a:|beq x0,x0,b", "error 7"},
	{"addi x1,x2,5000", "error 2"}, {"slli x1,x2,64", "error 2"}, {"jal x0,3", "error 2"},
	// The first line's ErrForm and ErrTwice ahead of all others; then one by one.
	{"addi x1,x2,5000|jal x0,a|x", "error 3"}, {"jal x0,a|b:|b:|x", "error 9"}, {"x|b:|b:", "error 3"}, {"jal x0,a|addi x1,x2,5000", "error 7"}, {"addi x1,x2,5000|jal x0,a", "error 2"},
}

// 11.1: asm and regs tell Assemble's errors.
func TestAssembleErrors(t *testing.T) {
	for _, x := range notAssembled {
		says(t, "asm "+x.line, x.want)
		says(t, "regs "+x.line, x.want)
		says(t, "asm ecall|"+x.line, x.want)
		says(t, "regs ecall|ecall|"+x.line+"|ecall", x.want)
	}
	// They are told ahead of New's.
	says(t, "regs "+strings.Repeat("ecall|", 300)+"x", "error 3")
	says(t, "regs "+strings.Repeat("ecall|", 300)+"jal x0,a", "error 7")
}

// 11.1: word tells a word's instruction, ErrRange of what is none of 32 bits, and Decode's errors.
func TestWord(t *testing.T) {
	for _, x := range []said{
		{"word 19", "word addi x0,x0,0"},
		{"word 32871", "word jalr x0,0(x1)"},
		{"word 4293984403", "word addi x1,x2,-1"},
		{"word 115", "word ecall"},
		{"word 51", "word add x0,x0,x0"},
		{"word 25395", "word or x6,x0,x0"},
		{"word 4294967279", "word jal x31,-2"},
		{"word 2147483703", "word lui x0,-2147483648"},
		{"word 12291", "word ld x0,0(x0)"},
		{"word 0", "error 3"},
		{"word 1", "error 3"},
		{"word 18", "error 3"},
		{"word 243", "error 3"},
		{"word 4294967294", "error 3"},
		{"word 4294967295", "error 3"},
		{"word 4294967296", "error 2"},
		{"word 4294967315", "error 2"},
		{"word 4295000167", "error 2"},
		{"word -1", "error 2"},
		{"word -17", "error 2"},
		{"word -9223372036854775808", "error 2"},
		{"word 9223372036854775807", "error 2"},
		{"word 9223372036854775808", "error 3"},
	} {
		says(t, x.line, x.want)
	}
}

// 11.1: regs tells how a machine ends, and of each register but 2 that is not 0 what it has.
func TestRegs(t *testing.T) {
	for _, x := range []said{
		{"", "9 0"},
		{"|", "9 0"},
		{"addi x5,x0,7|add x6,x5,x5|addi x17,x0,2|ecall", "9 0 x5=7 x6=14 x10=7 x17=2"},
		// Registers that are 0 are not told, negative numbers are, in the registers' order.
		{"addi x31,x0,-1|addi x1,x0,5|addi x3,x0,-2048|addi x7,x0,1|addi x7,x0,0|addi x0,x0,9", "9 0 x1=5 x3=-2048 x31=-1"},
		{"addi x5,x0,1|slli x5,x5,63|addi x6,x5,-1", "9 0 x5=-9223372036854775808 x6=9223372036854775807"},
		// Register 2 is not told, whatever it has; it has 1024 at first.
		{"add x5,x2,x0", "9 0 x5=1024"},
		{"addi x2,x2,1|add x5,x2,x0", "9 0 x5=1025"},
		{"addi x2,x0,0", "9 0"},
		// 7 and 8 are given, then none.
		{"addi x17,x0,2|ecall|addi x5,x10,0|ecall|addi x6,x10,0|ecall|addi x7,x10,100|ecall", "9 0 x5=7 x6=8 x7=100 x17=2"},
		// What was told stands ahead of the registers.
		{"addi x17,x0,1|addi x10,x0,-3|ecall|addi x10,x0,4|ecall", "9 0 -3 4 x10=4 x17=1"},
		// It ends in every Way from Done to Memory, and no other one.
		{"addi x17,x0,3|addi x10,x0,1|addi x11,x0,-9|ecall", "1 -9 x10=1 x11=-9 x17=3"},
		{"addi x17,x0,3|addi x10,x0,8|ecall", "8 0 x10=8 x17=3"},
		{"addi x17,x0,3|addi x10,x0,9|addi x11,x0,5|ecall", "9 0 x10=9 x11=5 x17=3"},
		{"addi x17,x0,3|ecall", "9 0 x17=3"},
		{"addi x17,x0,4|ecall", "9 0 x17=4"},
		{"ecall|addi x5,x0,1", "9 0"},
		// Faults.
		{"ld x5,4(x0)", "9 0"},
		{"ld x5,0(x2)", "9 0"},
		{"sd x5,-8(x0)|addi x5,x0,1", "9 0"},
		{"addi x5,x0,3|jal x1,-8", "9 0 x1=8 x5=3"},
		{"addi x5,x0,3|jalr x1,6(x0)", "9 0 x1=8 x5=3"},
		// Its memory is there to the end of 1024 bytes, its words at the beginning.
		{"addi x5,x0,77|sd x5,-8(x2)|ld x6,1016(x0)", "9 0 x5=77 x6=77"},
		{"ld x5,0(x0)|ecall", "9 0 x5=493921251971"},
		// Fuel is spent.
		{"jal x0,0", "6 0"},
		{"a:|addi x5,x5,1|jal x0,a", "6 0 x5=500"},
		{"addi x5,x0,1|a:|addi x5,x5,1|jal x0,a", "6 0 x5=501"},
		{"addi x17,x0,1|addi x10,x0,6|a:|ecall|jal x0,a", "7 0" + strings.Repeat(" 6", 200) + " x10=6 x17=1"},
	} {
		says(t, "regs "+x.line, "regs "+x.want)
	}
	says(t, "regs", "regs 9 0")
}

// 11.1: regs's fuel is 1000: a machine that does just so many words ends, one that does one more does not.
func TestRegsFuel(t *testing.T) {
	for n, want := range map[int]string{497: "1 0 x10=1 x17=3", 498: "1 0 x10=1 x17=3", 499: "6 0 x17=3"} {
		says(t, fmt.Sprint("regs addi x6,x0,", n, "|addi x6,x6,-1|bne x6,x0,-4|addi x17,x0,3|addi x10,x0,1|ecall"), "regs "+want)
	}
	const one = "|addi x6,x6,-1|bne x6,x0,-4|addi x17,x0,3|addi x10,x0,1|addi x0,x0,0|ecall"
	says(t, "regs addi x6,x0,497"+one, "regs 1 0 x10=1 x17=3")
	says(t, "regs addi x6,x0,498"+one, "regs 6 0 x10=1 x17=3")
}

// 11.1: regs tells New's errors: 1024 bytes are 256 words.
func TestRegsLimit(t *testing.T) {
	one := "addi x5,x5,1|"
	says(t, "regs "+strings.Repeat(one, 255), "regs 9 0 x5=255")
	says(t, "regs "+strings.Repeat(one, 256), "regs 9 0 x5=256")
	says(t, "regs "+strings.Repeat(one, 257), "error 4")
	says(t, "regs jal x0,0|"+strings.Repeat(one, 255), "regs 6 0")
	says(t, "regs jal x0,0|"+strings.Repeat(one, 256), "error 4")
	says(t, "asm "+strings.Repeat("ecall|", 257), "asm"+strings.Repeat(" 115", 257))
}

// 11.1: neither asm, nor word, nor regs, nor help asks for the program.
func TestWithoutProgram(t *testing.T) {
	for _, p := range programs {
		tells(t, p, said{"asm ecall", "asm 115"}, said{"word 115", "word ecall"}, said{"regs addi x5,x0,1", "regs 9 0 x5=1"}, said{"help", helps})
	}
}
