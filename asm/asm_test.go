package asm_test

import (
	"math"
	"strings"
	"testing"

	"bloomery/api"
	"bloomery/asm"
	"bloomery/plain"
	"bloomery/word"
)

// written is an instruction, and how it is written.
type written struct {
	text string
	inst api.Inst
}

// all are instructions of every op, in the order of their numbers, with all that differs in them told apart.
var all = []written{
	{"add x1,x2,x3", api.Inst{Op: api.Add, Rd: 1, Ra: 2, Rb: 3}},
	{"sub x4,x5,x6", api.Inst{Op: api.Sub, Rd: 4, Ra: 5, Rb: 6}},
	{"mul x7,x8,x9", api.Inst{Op: api.Mul, Rd: 7, Ra: 8, Rb: 9}},
	{"div x10,x11,x12", api.Inst{Op: api.Div, Rd: 10, Ra: 11, Rb: 12}},
	{"rem x13,x14,x15", api.Inst{Op: api.Rem, Rd: 13, Ra: 14, Rb: 15}},
	{"and x16,x17,x18", api.Inst{Op: api.And, Rd: 16, Ra: 17, Rb: 18}},
	{"or x19,x20,x21", api.Inst{Op: api.Orr, Rd: 19, Ra: 20, Rb: 21}},
	{"xor x22,x23,x24", api.Inst{Op: api.Xor, Rd: 22, Ra: 23, Rb: 24}},
	{"slt x25,x26,x27", api.Inst{Op: api.Slt, Rd: 25, Ra: 26, Rb: 27}},
	{"sltu x28,x29,x30", api.Inst{Op: api.Sltu, Rd: 28, Ra: 29, Rb: 30}},
	{"sll x31,x0,x1", api.Inst{Op: api.Sll, Rd: 31, Ra: 0, Rb: 1}},
	{"srl x0,x1,x31", api.Inst{Op: api.Srl, Rd: 0, Ra: 1, Rb: 31}},
	{"sra x1,x31,x0", api.Inst{Op: api.Sra, Rd: 1, Ra: 31, Rb: 0}},
	{"addi x1,x2,-1", api.Inst{Op: api.Addi, Rd: 1, Ra: 2, N: -1}},
	{"andi x3,x4,2047", api.Inst{Op: api.Andi, Rd: 3, Ra: 4, N: 2047}},
	{"ori x5,x6,-2048", api.Inst{Op: api.Ori, Rd: 5, Ra: 6, N: -2048}},
	{"xori x7,x8,0", api.Inst{Op: api.Xori, Rd: 7, Ra: 8, N: 0}},
	{"slti x9,x10,100", api.Inst{Op: api.Slti, Rd: 9, Ra: 10, N: 100}},
	{"slli x11,x12,63", api.Inst{Op: api.Slli, Rd: 11, Ra: 12, N: 63}},
	{"srli x13,x14,0", api.Inst{Op: api.Srli, Rd: 13, Ra: 14, N: 0}},
	{"srai x15,x16,32", api.Inst{Op: api.Srai, Rd: 15, Ra: 16, N: 32}},
	{"ld x17,-8(x18)", api.Inst{Op: api.Ld, Rd: 17, Ra: 18, N: -8}},
	{"jalr x0,0(x1)", api.Inst{Op: api.Jalr, Rd: 0, Ra: 1, N: 0}},
	{"sd x19,2047(x20)", api.Inst{Op: api.Sd, Ra: 20, Rb: 19, N: 2047}},
	{"beq x21,x22,-4096", api.Inst{Op: api.Beq, Ra: 21, Rb: 22, N: -4096}},
	{"bne x23,x24,4094", api.Inst{Op: api.Bne, Ra: 23, Rb: 24, N: 4094}},
	{"blt x25,x26,8", api.Inst{Op: api.Blt, Ra: 25, Rb: 26, N: 8}},
	{"bge x27,x28,0", api.Inst{Op: api.Bge, Ra: 27, Rb: 28, N: 0}},
	{"lui x29,-2147483648", api.Inst{Op: api.Lui, Rd: 29, N: math.MinInt32}},
	{"jal x30,1048574", api.Inst{Op: api.Jal, Rd: 30, N: 1048574}},
	{"ecall", api.Inst{Op: api.Ecall}},
}

// wrongInsts are instructions that are not Right.
var wrongInsts = []api.Inst{
	{},
	{Op: -1},
	{Op: api.Ecall + 1},
	{Op: math.MaxInt},
	{Op: math.MinInt},
	{Op: api.Add, Rd: 32},
	{Op: api.Add, Ra: -1},
	{Op: api.Add, Rb: math.MaxInt},
	{Op: api.Add, N: 1},
	{Op: api.Addi, Rb: 1},
	{Op: api.Addi, N: 2048},
	{Op: api.Srai, N: 64},
	{Op: api.Srai, N: -1},
	{Op: api.Ld, N: -2049},
	{Op: api.Jalr, Ra: 32},
	{Op: api.Sd, Rd: 1},
	{Op: api.Beq, N: 3},
	{Op: api.Bge, N: 4096},
	{Op: api.Lui, N: 1},
	{Op: api.Lui, Ra: 1},
	{Op: api.Jal, N: 1 << 20},
	{Op: api.Ecall, Rd: 1},
	{Op: api.Ecall, N: 1},
}

// fault is an error, and its place (-1: it has none).
func fault(err error) [2]int {
	e, at := plain.Place(err)
	return [2]int{int(e), at}
}

// Promise 3.1: every op, as it is written.
func TestPrint(t *testing.T) {
	if len(all) != api.Ecall {
		t.Fatal("there are ops that are not tested")
	}
	for i, w := range all {
		if w.inst.Op != i+1 {
			t.Fatalf("%q is not of op %d", w.text, i+1)
		}
		if got, err := asm.Print(w.inst); got != w.text || err != nil {
			t.Errorf("Print(%v): %q, %v; want %q", w.inst, got, err, w.text)
		}
	}
}

// Promise 3.1: what is not Right is not written; no At is in the error.
func TestPrintWrong(t *testing.T) {
	for _, x := range wrongInsts {
		if got, err := asm.Print(x); got != "" || err != error(api.ErrArg) {
			t.Errorf("Print(%v): %q, %v; want ErrArg", x, got, err)
		}
	}
}

// Promise 3.1: what a PLACE may be called.
func TestName(t *testing.T) {
	for _, s := range []string{"a", "z", "m", "a0", "a9", "az", "a_", "a.", "a.b_1", "x1", "add", "a...", "l__0",
		strings.Repeat("n", 24), "a" + strings.Repeat("9", 23)} {
		if !asm.Name(s) {
			t.Errorf("Name(%q): false", s)
		}
	}
	for _, s := range []string{"", "0", "9a", "1a", "_", "_a", ".", ".a", "A", "aA", "Za", "a ", " a", "a b", "a:", "a-b", "a/b",
		"`a", "a`", "{a", "a{", "a@", "a[", "a^", "a\n", "a\t", "a\x00", "\x00", "é", "aé", "a\xff", "a,b", "a(",
		strings.Repeat("n", 25), strings.Repeat("n", 280), "a" + strings.Repeat("9", 24)} {
		if asm.Name(s) {
			t.Errorf("Name(%q): true", s)
		}
	}
}

// Promise 3.1: of the single bytes just the letters are Names, and behind a letter just those bytes that a Name may have.
func TestNameBytes(t *testing.T) {
	for c := range 256 {
		b := string([]byte{byte(c)})
		if got, want := asm.Name(b), strings.Contains("abcdefghijklmnopqrstuvwxyz", b); got != want {
			t.Errorf("Name(%q): %v", b, got)
		}
		if got, want := asm.Name("k"+b), strings.Contains("abcdefghijklmnopqrstuvwxyz0123456789_.", b); got != want {
			t.Errorf("Name(%q): %v", "k"+b, got)
		}
	}
}

// Promise 3.2: Words are Encode of each.
func TestWords(t *testing.T) {
	var l []api.Inst
	for _, w := range all {
		l = append(l, w.inst)
	}
	kept := append([]api.Inst(nil), l...)
	got, err := asm.Words(l)
	if err != nil || len(got) != len(l) {
		t.Fatalf("Words: %d words, %v", len(got), err)
	}
	for i, x := range kept {
		if l[i] != x {
			t.Errorf("Words wrote into what it was given, at %d", i)
		}
		if w, _ := word.Encode(x); got[i] != w {
			t.Errorf("Words: %#x of %v; want %#x", got[i], x, w)
		}
	}
	if got[13] != 0xfff10093 || got[22] != 0x8067 {
		t.Errorf("Words: %#x, %#x; want the document's first example", got[13], got[22])
	}
	if got, err := asm.Words(nil); len(got) != 0 || err != nil {
		t.Errorf("Words of nothing: %v, %v", got, err)
	}
}

// Promise 3.2: the first instruction that is not Right is told, with its place.
func TestWordsWrong(t *testing.T) {
	right := api.Inst{Op: api.Ecall}
	for _, x := range wrongInsts {
		for at := range 3 {
			l := []api.Inst{right, right, right, right}
			l[at], l[3] = x, api.Inst{}
			got, err := asm.Words(l)
			if got != nil || fault(err) != [2]int{int(api.ErrArg), at} {
				t.Errorf("Words, %v at %d: %v, %v", x, at, got, fault(err))
			}
		}
	}
}
