package asm_test

import (
	"math"
	"slices"
	"strconv"
	"strings"
	"testing"

	"bloomery/api"
	"bloomery/asm"
	"bloomery/word"
)

// reads asks that a text is read as these instructions.
func reads(t *testing.T, text string, want ...api.Inst) {
	t.Helper()
	got, err := asm.Assemble(text)
	if err != nil || !slices.Equal(got, want) {
		t.Errorf("Assemble(%q): %v, %v; want %v", text, got, fault(err), want)
	}
}

// refuses asks that a text is wrong at a line.
func refuses(t *testing.T, text string, e api.Errno, line int) {
	t.Helper()
	got, err := asm.Assemble(text)
	if got != nil || fault(err) != [2]int{int(e), line} {
		t.Errorf("Assemble(%.200q): %v, %v; want error %d at %d", text, got, fault(err), e, line)
	}
}

func jal(n int64) api.Inst {
	return api.Inst{Op: api.Jal, N: n}
}

// Promise 3.2: what is written is read as it was: every op, alone and together.
func TestAssembleAll(t *testing.T) {
	var texts []string
	var insts []api.Inst
	for _, w := range all {
		reads(t, w.text, w.inst)
		texts, insts = append(texts, w.text), append(insts, w.inst)
	}
	reads(t, strings.Join(texts, "\n"), insts...)
	reads(t, strings.Join(texts, "\n")+"\n", insts...)
}

// Promise 3.2: what is written is read as it was: each register and many numbers of every op.
func TestAssembleWritten(t *testing.T) {
	numbers := []int64{0, 1, -1, 2, -2, 8, 31, 32, 63, 100, 2046, 2047, -2047, -2048, 4094, -4096, 4096, 1 << 19, -1 << 20, 1<<20 - 2,
		1 << 30, -1 << 31, 1<<31 - 4096}
	read := 0
	for _, w := range all {
		for r := range 32 {
			for _, n := range numbers {
				x := w.inst
				x.Rd, x.Ra, x.Rb, x.N = min(x.Rd, 1)*r, min(x.Ra, 1)*(31-r), min(x.Rb, 1)*(r^5), n
				if s, err := asm.Print(x); err == nil {
					reads(t, s, x)
					read++
				}
			}
		}
	}
	if read < 5000 {
		t.Errorf("only %d were written", read)
	}
}

// Promise 3.2: lines of which nothing is read.
func TestAssembleEmpty(t *testing.T) {
	for _, s := range []string{"", " ", "   ", "\n", "\n\n\n", " \n  \n", "a:", "a:\nb:\n"} {
		reads(t, s)
	}
	reads(t, "\n\n  ecall\n\n", api.Inst{Op: api.Ecall})
	refuses(t, "\n \n\nnone\n", api.ErrForm, 3)
}

// Promise 3.2: blanks may stand at both ends of a line and behind the op.
func TestAssembleBlanks(t *testing.T) {
	x := api.Inst{Op: api.Addi, Rd: 1, Ra: 2, N: -1}
	for _, s := range []string{"addi x1,x2,-1", " addi x1,x2,-1", "addi x1,x2,-1 ", "   addi x1,x2,-1   ", "addi  x1,x2,-1",
		"  addi       x1,x2,-1 ", " \n addi   x1,x2,-1\n "} {
		reads(t, s, x)
	}
	reads(t, " ecall ", api.Inst{Op: api.Ecall})
	reads(t, "  a:  \n jal   x0,a ", jal(0))
}

// Promise 3.2: blanks stand nowhere else, and what is like a blank is none.
func TestAssembleNoBlanks(t *testing.T) {
	for _, s := range []string{"addi x1 ,x2,-1", "addi x1, x2,-1", "addi x1,x2 ,-1", "addi x1,x2, -1", "addi x1,x2,- 1", "addi x 1,x2,-1",
		"add i x1,x2,-1", "ld x1,8 (x2)", "ld x1,8( x2)", "ld x1,8(x2 )", "ld x1, 8(x2)", "jal x0, a", "a :", "a: a:", "a b:", "e call",
		"addi\tx1,x2,-1", "\taddi x1,x2,-1", "addi x1,x2,-1\t", "addi x1,x2,-1\r", "addi \tx1,x2,-1", "a:\t", "\r", "\t", "\v", "\u00a0",
		"addi\u00a0x1,x2,-1", "addi x1,x2,-1\x00"} {
		refuses(t, s, api.ErrForm, 0)
	}
}

// Promise 3.2: lines of another form than Print's.
func TestAssembleForm(t *testing.T) {
	for _, s := range []string{
		"addx1,x2,x3", "add", "add x1", "add x1,x2", "add x1,x2,", "add x1,x2,x3,", "add x1,x2,x3,x4", "add ,x1,x2", "add x1,,x2",
		"add x1,x2,3", "add x1,2,x3", "add 1,x2,x3", "add X1,x2,x3", "add y1,x2,x3", "add x,x2,x3", "add x1,x2,xx3", "add x1x2,x3",
		"add x1;x2,x3", "add x1,x2,x3)", "add x1,x2,(x3)", "ADD x1,x2,x3", "Add x1,x2,x3", "orr x1,x2,x3", "addd x1,x2,x3", "ad x1,x2,x3",
		"addi x1,x2", "addi x1,x2,", "addi x1,x2,x3", "addi x1,x2,1,", "addi x1,x2,1,1", "addi x1,1(x2)", "addi x1,x2,1(x2)", "addi",
		"srai x1,x2,x3", "slli x1,x2", "ld x1", "ld x1,", "ld x1,8", "ld x1,x2", "ld x1,x2,8", "ld x1,8(x2", "ld x1,8x2)", "ld x1,(x2)",
		"ld x1,8()", "ld x1,8(2)", "ld x1,8(x2))", "ld x1,8((x2)", "ld x1,8(x2)8", "ld x1,8(x2),", "ld 8(x2),x1", "ld x1,)8(x2)",
		"ld x1,8)x2(", "ld x1,8(x2)(x3)", "jalr x0,x1,0", "jalr x0,x1", "sd x1,x2,8", "sd 8(x2),x1", "sd x1", "beq x1,x2", "beq x1,8", "beq x1,x2,",
		"beq 8,x1,x2", "beq x1,x2,8,", "beq x1,x2,8(x3)", "lui x1", "lui x1,x2,4096", "lui 4096", "lui x1,", "jal 8", "jal x1", "jal x1,",
		"jal a", "jal x0,x1,8", "jal x0,8,8", "ecall x1", "ecall 0", "ecall ,", "ecall,", "ecall ecall", "ecallx", "ecal", "x", ",", "(", ":", "-",
		"8", "x1", "a", "a:b", "a::", ":a", "::", "# ecall", "ecall # end", "a: ecall", "ecall a:", "add x1,x2,x3:", "jal x0,a:", "ecall;",
		"ecall\vecall", "\x00", "é", "\xff"} {
		refuses(t, s, api.ErrForm, 0)
		refuses(t, "a:\necall\n"+s+"\necall", api.ErrForm, 2)
	}
}

// ends are the least and the greatest N of an op, and how far apart its numbers are.
type ends struct {
	op                 string
	behind             string
	least, most, apart int64
}

// Promise 3.2: N at both ends of what an op may have is read; beyond them, and between, the instruction is not Right.
func TestAssembleRange(t *testing.T) {
	for _, e := range []ends{
		{"addi x1,x2,", "", -2048, 2047, 1}, {"andi x1,x2,", "", -2048, 2047, 1}, {"ori x1,x2,", "", -2048, 2047, 1},
		{"xori x1,x2,", "", -2048, 2047, 1}, {"slti x1,x2,", "", -2048, 2047, 1}, {"slli x1,x2,", "", 0, 63, 1},
		{"srli x1,x2,", "", 0, 63, 1}, {"srai x1,x2,", "", 0, 63, 1}, {"ld x1,", "(x2)", -2048, 2047, 1},
		{"jalr x1,", "(x2)", -2048, 2047, 1}, {"sd x1,", "(x2)", -2048, 2047, 1}, {"beq x1,x2,", "", -4096, 4094, 2},
		{"bne x1,x2,", "", -4096, 4094, 2}, {"blt x1,x2,", "", -4096, 4094, 2}, {"bge x1,x2,", "", -4096, 4094, 2},
		{"lui x1,", "", -1 << 31, 1<<31 - 4096, 4096}, {"jal x1,", "", -1 << 20, 1<<20 - 2, 2},
	} {
		text := func(n int64) string { return e.op + strconv.FormatInt(n, 10) + e.behind }
		for _, n := range []int64{e.least, e.least + e.apart, 0, e.most - e.apart, e.most} {
			got, err := asm.Assemble(text(n))
			if err != nil || len(got) != 1 || got[0].N != n {
				t.Errorf("Assemble(%q): %v, %v", text(n), got, fault(err))
			}
		}
		for _, n := range []int64{e.least - 1, e.least - e.apart, e.most + 1, e.most + e.apart, 1<<32 + e.least, math.MinInt64, math.MaxInt64} {
			refuses(t, text(n), api.ErrRange, 0)
			refuses(t, "ecall\n\n"+text(n)+"\n", api.ErrRange, 2)
		}
		if e.apart > 1 {
			refuses(t, text(1), api.ErrRange, 0)
			refuses(t, text(-1), api.ErrRange, 0)
		}
	}
}

// Promise 3.2: numbers of 64 bits are of the right form; greater ones, and other ways to write them, are not.
func TestAssembleNumbers(t *testing.T) {
	for _, s := range []string{"9223372036854775807", "-9223372036854775808", "9223372036854775800", "-9000000000000000000", "4294967296"} {
		refuses(t, "addi x1,x2,"+s, api.ErrRange, 0)
		refuses(t, "ld x1,"+s+"(x2)", api.ErrRange, 0)
		refuses(t, "jal x1,"+s, api.ErrRange, 0)
		refuses(t, "lui x1,"+s, api.ErrRange, 0)
		refuses(t, "beq x1,x2,"+s, api.ErrRange, 0)
	}
	for _, s := range []string{"9223372036854775808", "-9223372036854775809", "18446744073709551616", "18446744073709551615",
		"99999999999999999999999999999999999", "-99999999999999999999999999999999999", strings.Repeat("1", 10000),
		"00", "01", "-01", "-0", "-00", "000000000000000000000000001", "+1", "+0", "-", "+", "--1", "-+1", "1-", "1.0", "1.", ".1", "1e1", "0x1", "0b1",
		"1_0", "_1", "1a", "'1'", "1:", "", "\u0661"} {
		refuses(t, "addi x1,x2,"+s, api.ErrForm, 0)
		refuses(t, "ld x1,"+s+"(x2)", api.ErrForm, 0)
		refuses(t, "sd x1,"+s+"(x2)", api.ErrForm, 0)
		refuses(t, "jal x1,"+s, api.ErrForm, 0)
		refuses(t, "lui x1,"+s, api.ErrForm, 0)
		refuses(t, "beq x1,x2,"+s, api.ErrForm, 0)
	}
}

// around are lines with a register at each place where there may be one; ? stands for its number.
var around = []string{"add x?,x1,x1", "add x1,x?,x1", "add x1,x1,x?", "addi x?,x1,1", "addi x1,x?,1", "srai x?,x1,1", "srai x1,x?,1",
	"ld x?,8(x1)", "ld x1,8(x?)", "jalr x?,8(x1)", "jalr x1,8(x?)", "sd x?,8(x1)", "sd x1,8(x?)", "beq x?,x1,8", "beq x1,x?,8",
	"lui x?,4096", "jal x?,8"}

// Promise 3.2: a register is x and its number, from 0 to 31; all else in its place is ErrForm, however great its number.
func TestAssembleRegisters(t *testing.T) {
	for _, line := range around {
		text := func(r string) string { return strings.Replace(line, "?", r, 1) }
		for _, r := range []string{"0", "1", "9", "10", "30", "31"} {
			got, err := asm.Assemble(text(r))
			if err != nil || len(got) != 1 {
				t.Errorf("Assemble(%q): %v, %v", text(r), got, fault(err))
				continue
			}
			if back, _ := asm.Print(got[0]); back != text(r) {
				t.Errorf("Assemble(%q): written again it is %q", text(r), back)
			}
		}
		for _, r := range []string{"32", "33", "100", "117", "-1", "-32", "256", "288", "4294967296", "4294967297", "9223372036854775807",
			"-9223372036854775808", "", "00", "01", "031", "-0", "+1", "-", "x1", "a", "1a", "9223372036854775808", "18446744073709551616"} {
			refuses(t, text(r), api.ErrForm, 0)
			refuses(t, "ecall\n"+text(r), api.ErrForm, 1)
			refuses(t, "jal x0,none\naddi x1,x0,2048\n"+text(r), api.ErrForm, 2)
			refuses(t, "a:\n"+text(r)+"\na:\nbad", api.ErrForm, 1)
		}
	}
}

// Promise 3.2: a PLACE is how far it is away, wherever it is.
func TestAssemblePlaces(t *testing.T) {
	ecall := api.Inst{Op: api.Ecall}
	reads(t, "a:\njal x0,a", jal(0))
	reads(t, "jal x0,a\na:", jal(4))
	reads(t, "jal x0,a\na:\necall", jal(4), ecall)
	reads(t, "jal x0,a\n\necall\n\n a: \n\n", jal(8), ecall)
	reads(t, "a:\necall\necall\njal x0,a", ecall, ecall, jal(-8))
	reads(t, "a:\nb:\njal x0,a\njal x0,b", jal(0), jal(-4))
	reads(t, "jal x0,a\njal x0,b\na:\n\nb:\necall", jal(8), jal(4), ecall)
	reads(t, "jal x0,a\njal x0,b\na:\nb:", jal(8), jal(4))
	reads(t, "l.x_1:\njal x31,l.x_1", api.Inst{Op: api.Jal, Rd: 31})
	for i, op := range []string{"beq", "bne", "blt", "bge"} {
		x := api.Inst{Op: api.Beq + i, Ra: 5, Rb: 6}
		ahead, behind := x, x
		ahead.N, behind.N = 8, -4
		reads(t, "m:\necall\n"+op+" x5,x6,m\n"+op+" x5,x6,e\necall\ne:", ecall, behind, ahead, ecall)
	}
	reads(t, "a:\nx1:\nbeq x1,x1,x1", api.Inst{Op: api.Beq, Ra: 1, Rb: 1})
	reads(t, "ecall:\necall\njal x0,ecall", ecall, jal(-4))
	long := strings.Repeat("n", 24)
	reads(t, long+":\njal x0,"+long, jal(0))
	reads(t, long+":\n"+long[1:]+":\njal x0,"+long[1:], jal(0))
}

// Promise 3.2: a PLACE that is no Name, where it is told and where it is named.
func TestAssemblePlaceForm(t *testing.T) {
	for _, s := range []string{"", "1", "1a", "_a", ".a", "A", "aB", "a-b", "-a", "a,b", "a(x1)", "a/", "a!", "a{", "a`", "é", strings.Repeat("n", 25)} {
		refuses(t, s+":", api.ErrForm, 0)
		refuses(t, "ecall\n\n"+s+":\n"+s+":", api.ErrForm, 2)
		if s != "1" { // a number
			refuses(t, "jal x0,"+s, api.ErrForm, 0)
			refuses(t, "beq x1,x2,"+s, api.ErrForm, 0)
		}
	}
}

// Promise 3.2: a PLACE is named by B and Jal, and nowhere else.
func TestAssembleNoPlace(t *testing.T) {
	for _, s := range []string{"addi x1,x2,a", "andi x1,x2,a", "ori x1,x2,a", "xori x1,x2,a", "slti x1,x2,a", "slli x1,x2,a", "srli x1,x2,a", "srai x1,x2,a",
		"ld x1,a(x2)", "jalr x1,a(x2)", "sd x1,a(x2)", "ld x1,a", "jalr x0,a", "lui x1,a", "add x1,x2,a", "beq a,x2,8", "beq x1,a,8", "jal a,8",
		"jal x0,a,8", "ecall a"} {
		refuses(t, "a:\n"+s, api.ErrForm, 1)
	}
}

// Promise 3.2: a PLACE twice.
func TestAssembleTwice(t *testing.T) {
	refuses(t, "a:\na:", api.ErrTwice, 1)
	refuses(t, "a:\nb:\necall\n\n a: \n", api.ErrTwice, 4)
	refuses(t, "a:\nb:\nb:\na:", api.ErrTwice, 2)
	refuses(t, "jal x0,none\na:\na:", api.ErrTwice, 2)
	reads(t, "a:\naa:\na.:\na_:\na1:\nab:")
}

// Promise 3.2: there is no such PLACE.
func TestAssembleMissing(t *testing.T) {
	refuses(t, "jal x0,a", api.ErrMissing, 0)
	refuses(t, "a:\nb:\n\njal x0,aa\njal x0,c", api.ErrMissing, 3)
	for _, op := range []string{"beq", "bne", "blt", "bge"} {
		refuses(t, "ecall\na:\n"+op+" x1,x2,b", api.ErrMissing, 2)
	}
	refuses(t, "jal x31,none", api.ErrMissing, 0)
	refuses(t, "jal x32,none", api.ErrForm, 0)
	refuses(t, "bge x3,x41,none", api.ErrForm, 0)
}

// Promise 3.2: a PLACE that is too far away for B is not for Jal.
func TestAssembleFar(t *testing.T) {
	between := func(n int) string { return strings.Repeat("ecall\n", n) }
	ahead := func(op string, n int) string { return op + ",a\n" + between(n-1) + "a:\n" }
	back := func(op string, n int) string { return "a:\n" + between(n) + op + ",a\n" }
	far := func(text string, at int, n int64) {
		t.Helper()
		got, err := asm.Assemble(text)
		if err != nil || len(got) <= at || got[at].N != n {
			t.Errorf("a PLACE %d away: %v", n, fault(err))
		}
	}
	for _, op := range []string{"beq x1,x2", "bne x1,x2", "blt x1,x2", "bge x1,x2"} {
		far(ahead(op, 1023), 0, 4092)
		refuses(t, ahead(op, 1024), api.ErrRange, 0)
		far(back(op, 1024), 1024, -4096)
		refuses(t, back(op, 1025), api.ErrRange, 1026)
	}
	far(ahead("jal x1", 1024), 0, 4096)
	far(back("jal x1", 1025), 1025, -4100)
	far(ahead("jal x1", 262143), 0, 1<<20-4)
	refuses(t, ahead("jal x1", 262144), api.ErrRange, 0)
	far(back("jal x1", 262144), 262144, -1<<20)
	refuses(t, back("jal x1", 262145), api.ErrRange, 262146)
}

// Promise 3.2: of several wrong lines the first line's ErrForm or ErrTwice goes ahead; then what is wrong first.
func TestAssembleOrder(t *testing.T) {
	for _, l := range []struct {
		text string
		e    api.Errno
		line int
	}{
		{"jal x0,none\naddi x1,x2,9999\nbad", api.ErrForm, 2},
		{"addi x1,x2,9999\njal x0,none\na:\na:\nbad", api.ErrTwice, 3},
		{"a:\njal x0,none\nbad\na:", api.ErrForm, 2},
		{"bad\njal x0,none\naddi x1,x2,9999", api.ErrForm, 0},
		{"a:\na:\njal x0,none\naddi x1,x2,9999", api.ErrTwice, 1},
		{"bad\nworse\na:\na:", api.ErrForm, 0},
		{"jal x0,none\naddi x1,x2,9999", api.ErrMissing, 0},
		{"addi x1,x2,9999\njal x0,none", api.ErrRange, 0},
		{"ecall\n\naddi x1,x2,9999\njal x0,none\naddi x1,x2,9999", api.ErrRange, 2},
		{"ecall\n\njal x0,none\naddi x1,x2,9999\njal x0,none", api.ErrMissing, 2},
		{"ecall\n\naddi x31,x2,9999\nadd x1,x2,x3\naddi x1,x2,-9999", api.ErrRange, 2},
		{"addi x32,x2,9999", api.ErrForm, 0},
		{"ld x1,9999(x32)", api.ErrForm, 0},
		{"ecall\n\naddi x31,x2,9999\nadd x1,x2,x3\nsub x1,x2,x99", api.ErrForm, 4},
		{"jal x0,none\nld x1,0(x70)", api.ErrForm, 1},
		{"addi x1,x0,2048\nadd x1,x2,x32", api.ErrForm, 1},
		{"a:\na:\nadd x1,x2,x32", api.ErrTwice, 1},
		{"a:\nadd x1,x2,x32\na:", api.ErrForm, 1},
	} {
		refuses(t, l.text, l.e, l.line)
	}
}

// Promise 3.2: P1: whatever a text is, it is told as instructions that are Right or as one error at one of its lines.
func TestAssembleSpoilt(t *testing.T) {
	var texts []string
	for _, w := range all {
		texts = append(texts, w.text)
	}
	text := strings.Join(append(texts, "a:", "jal x0,a", "beq x1,x2,a"), "\n")
	lines := strings.Count(text, "\n") + 1
	for i := range len(text) {
		for _, c := range []byte("x0,1 (:a)-\n9\t\x00\xff") {
			b := []byte(text)
			b[i] = c
			got, err := asm.Assemble(string(b))
			f := fault(err)
			if err != nil && (got != nil || f[1] < 0 || f[1] > lines) {
				t.Fatalf("Assemble(%q): %v, %v", b, got, f)
			}
			for _, x := range got {
				if !word.Right(x) {
					t.Fatalf("Assemble(%q): %v", b, x)
				}
			}
		}
	}
}
