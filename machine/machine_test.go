package machine_test

import (
	"math"
	"slices"
	"testing"

	"bloomery/api"
	"bloomery/machine"
	"bloomery/word"
)

// rrr is an instruction of three registers.
func rrr(op, rd, ra, rb int) api.Inst { return api.Inst{Op: op, Rd: rd, Ra: ra, Rb: rb} }

// rrn is an instruction that writes a register, by another one and a number.
func rrn(op, rd, ra int, n int64) api.Inst { return api.Inst{Op: op, Rd: rd, Ra: ra, N: n} }

// two is an instruction that reads two registers and has a number: Sd, Beq, Bne, Blt, Bge.
func two(op, ra, rb int, n int64) api.Inst { return api.Inst{Op: op, Ra: ra, Rb: rb, N: n} }

// set is an instruction that makes a register a small number.
func set(rd int, n int64) api.Inst { return rrn(api.Addi, rd, 0, n) }

var ecall = api.Inst{Op: api.Ecall}

// words are the words of instructions.
func words(t *testing.T, l ...api.Inst) []uint32 {
	t.Helper()
	var out []uint32
	for _, x := range l {
		w, err := word.Encode(x)
		if err != nil {
			t.Fatalf("no instruction: %v", x)
		}
		out = append(out, w)
	}
	return out
}

// laid is a machine of so many bytes, with instructions.
func laid(t *testing.T, bytes int, in []int64, l ...api.Inst) *machine.Machine {
	t.Helper()
	m, err := machine.New(words(t, l...), bytes, in)
	if err != nil {
		t.Fatalf("New: %v", err)
	}
	return m
}

// steps does so many Steps.
func steps(m *machine.Machine, n int) {
	for range n {
		m.Step()
	}
}

// seen is all that can be seen of a machine.
type seen struct {
	pc, code  int64
	way       int
	out       []int64
	registers [32]int64
	memory    []int64
}

// look is what can be seen of a machine of so many bytes.
func look(t *testing.T, m *machine.Machine, bytes int64) seen {
	t.Helper()
	e := m.End()
	s := seen{pc: m.PC(), code: e.Code, way: e.Way, out: e.Out}
	for i := range s.registers {
		s.registers[i] = m.Reg(i)
	}
	for at := int64(0); at < bytes; at += 8 {
		v, err := m.Load(at)
		if err != nil {
			t.Fatalf("Load(%d) of %d bytes: %v", at, bytes, err)
		}
		s.memory = append(s.memory, v)
	}
	return s
}

func (s seen) same(t seen) bool {
	return s.pc == t.pc && s.code == t.code && s.way == t.way && slices.Equal(s.out, t.out) &&
		s.registers == t.registers && slices.Equal(s.memory, t.memory)
}

// ended says that a machine ended in a way, at a place.
func ended(t *testing.T, what string, m *machine.Machine, way int, code, pc int64) {
	t.Helper()
	if e := m.End(); e.Way != way || e.Code != code || m.PC() != pc {
		t.Errorf("%s: Way %d, Code %d, PC %d; want %d, %d, %d", what, e.Way, e.Code, m.PC(), way, code, pc)
	}
}

// goesOn says that a machine did not end, and where it is.
func goesOn(t *testing.T, what string, m *machine.Machine, pc int64) {
	t.Helper()
	ended(t, what, m, 0, 0, pc)
}

// has says what a register has.
func has(t *testing.T, what string, m *machine.Machine, r int, v int64) {
	t.Helper()
	if got := m.Reg(r); got != v {
		t.Errorf("%s: register %d is %d, want %d", what, r, got, v)
	}
}

// 2.1: bytes are a multiple of 8 from 8 to MaxBytes.
func TestNewBytes(t *testing.T) {
	for _, n := range []int{8, 16, 1040, api.MaxBytes - 8, api.MaxBytes} {
		m, err := machine.New(nil, n, nil)
		if err != nil || m == nil {
			t.Fatalf("New of %d bytes: %v", n, err)
		}
		has(t, "New", m, 2, int64(n))
	}
	wrong := []int{0, -8, -1, 1, 4, 7, 9, 12, 1044, api.MaxBytes - 4, api.MaxBytes - 1, api.MaxBytes + 1,
		api.MaxBytes + 8, math.MaxInt, math.MinInt, math.MaxInt - 7}
	for _, n := range wrong {
		m, err := machine.New(nil, n, nil)
		if err != error(api.ErrRange) || m != nil {
			t.Errorf("New of %d bytes: %v, %v; want ErrRange", n, m, err)
		}
	}
}

// 2.1: words need no more than there is; of two errors the first one told is answered.
func TestNewWords(t *testing.T) {
	cases := []struct {
		words, bytes int
		want         error
	}{
		{0, 8, nil}, {1, 8, nil}, {2, 8, nil}, {3, 8, api.ErrLimit}, {4, 8, api.ErrLimit}, {4, 16, nil}, {5, 16, api.ErrLimit},
		{api.MaxBytes / 4, api.MaxBytes, nil}, {api.MaxBytes/4 + 1, api.MaxBytes, api.ErrLimit},
		{3, 12, api.ErrRange}, {4, 12, api.ErrRange}, {1, 0, api.ErrRange}, {api.MaxBytes, api.MaxBytes + 8, api.ErrRange},
	}
	for _, c := range cases {
		m, err := machine.New(make([]uint32, c.words), c.bytes, nil)
		if err != c.want || (m == nil) != (err != nil) {
			t.Errorf("New of %d words, %d bytes: %v, want %v", c.words, c.bytes, err, c.want)
		}
	}
}

// 2.1: what a machine is at its beginning.
func TestNewBeginning(t *testing.T) {
	m, err := machine.New([]uint32{0x04030201, 0x88070605, 0xfffffffe}, 32, []int64{5})
	if err != nil {
		t.Fatal(err)
	}
	want := seen{memory: []int64{-0x77f8f9fafbfcfdff, 0xfffffffe, 0, 0}}
	want.registers[2] = 32
	if got := look(t, m, 32); !got.same(want) {
		t.Errorf("at the beginning: %v, want %v", got, want)
	}
}

// 2.1: Reg of no register.
func TestRegOfNone(t *testing.T) {
	m := laid(t, 64, nil, set(31, 7), set(1, 8))
	steps(m, 2)
	has(t, "the last one", m, 31, 7)
	for _, n := range []int{-1, 32, 33, 64, -32, -31, math.MinInt, math.MaxInt} {
		has(t, "none", m, n, 0)
	}
}

// 2.1: Load and Store: a multiple of 8, eight bytes there, the least first.
func TestLoadStore(t *testing.T) {
	m := laid(t, 24, nil)
	for at, v := range map[int64]int64{0: 1, 8: math.MinInt64 + 3, 16: -2} {
		if err := m.Store(at, v); err != nil {
			t.Errorf("Store(%d): %v", at, err)
		}
		if got, err := m.Load(at); got != v || err != nil {
			t.Errorf("Load(%d): %d, %v, want %d", at, got, err, v)
		}
	}
	before := look(t, m, 24)
	for _, at := range []int64{-8, -1, 1, 4, 7, 9, 12, 15, 17, 20, 23, 24, 25, 32, -16, 1 << 32, math.MaxInt64 - 7, math.MaxInt64, math.MinInt64} {
		if v, err := m.Load(at); v != 0 || err != error(api.ErrRange) {
			t.Errorf("Load(%d): %d, %v, want ErrRange", at, v, err)
		}
		if err := m.Store(at, 99); err != error(api.ErrRange) {
			t.Errorf("Store(%d): %v, want ErrRange", at, err)
		}
	}
	if !look(t, m, 24).same(before) {
		t.Error("what is refused changes something")
	}
}

// 2.1: the bytes of a number are the least first, as those of words are: what is stored is done.
func TestStoreIsDone(t *testing.T) {
	l := words(t, set(5, 11), set(6, 12))
	m := laid(t, 8, nil)
	if err := m.Store(0, int64(l[0])|int64(l[1])<<32); err != nil {
		t.Fatal(err)
	}
	steps(m, 2)
	has(t, "the first word", m, 5, 11)
	has(t, "the next word", m, 6, 12)
	goesOn(t, "behind two words", m, 8)
}

// 2.1, P4: lists that are handed in are neither kept nor written into, and what comes out is the caller's.
func TestListsAreFresh(t *testing.T) {
	l := words(t, set(17, 2), ecall, set(17, 1), ecall, ecall)
	in := []int64{41, 42, 43}
	w, i := slices.Clone(l), slices.Clone(in)
	m, err := machine.New(l, 64, in[:1])
	if err != nil {
		t.Fatal(err)
	}
	for k := range l {
		l[k] = 0
	}
	in[0] = 99
	steps(m, 4)
	e := m.End()
	if !slices.Equal(e.Out, []int64{41}) {
		t.Fatalf("told %v, want what was given", e.Out)
	}
	e.Out[0] = 7
	_ = append(e.Out, 8)
	steps(m, 1)
	if out := m.End().Out; !slices.Equal(out, []int64{41, 41}) {
		t.Errorf("told %v, want 41 twice", out)
	}
	f := m.Run(0)
	f.Out[1] = 7
	if out := m.End().Out; !slices.Equal(out, []int64{41, 41}) {
		t.Errorf("told %v, want 41 twice", out)
	}
	m, _ = machine.New(w, 64, i[:1])
	m.Run(100)
	if !slices.Equal(i, []int64{41, 42, 43}) || !slices.Equal(w, words(t, set(17, 2), ecall, set(17, 1), ecall, ecall)) {
		t.Error("a list that was handed in is changed")
	}
}

// 2.3: a word of each op that writes what Alu says goes on at the next word.
func TestStepAlu(t *testing.T) {
	for op := api.Add; op <= api.Sra; op++ {
		m := laid(t, 64, nil, set(5, -7), set(6, 66), rrr(op, 7, 5, 6))
		steps(m, 3)
		has(t, "two registers", m, 7, machine.Alu(op, -7, 66))
		goesOn(t, "two registers", m, 12)
	}
	for op := api.Addi; op <= api.Srai; op++ {
		m := laid(t, 64, nil, set(5, -7), set(6, 1), rrn(op, 7, 5, 35))
		steps(m, 3)
		has(t, "a number", m, 7, machine.Alu(op, -7, 35))
		goesOn(t, "a number", m, 12)
	}
	m := laid(t, 64, nil, set(5, 3), rrr(api.Sub, 5, 2, 5), rrn(api.Addi, 5, 5, -1))
	steps(m, 3)
	has(t, "a register that is read and written", m, 5, 60)
}

// 2.3: register 0 is 0, whatever writes it.
func TestRegisterZero(t *testing.T) {
	for _, x := range []api.Inst{
		set(0, 5), rrr(api.Sub, 0, 0, 2), rrn(api.Slli, 0, 2, 3), rrn(api.Ld, 0, 0, 0), rrn(api.Jalr, 0, 0, 4),
		{Op: api.Lui, N: 4096}, {Op: api.Jal, N: 4},
	} {
		m := laid(t, 64, nil, x, rrr(api.Add, 5, 0, 0))
		m.Step()
		has(t, "it is written", m, 0, 0)
		m.Step()
		has(t, "it is read", m, 5, 0)
		goesOn(t, "register 0", m, 8)
	}
}

// 2.3: Ld and Sd, at the first and the last eight bytes.
func TestMemoryThere(t *testing.T) {
	m := laid(t, 64, nil, set(5, -3), two(api.Sd, 0, 5, 56), rrn(api.Ld, 6, 2, -8), two(api.Sd, 2, 5, -64), rrn(api.Ld, 7, 0, 0))
	first, _ := m.Load(0)
	steps(m, 3)
	has(t, "the last eight bytes", m, 6, -3)
	goesOn(t, "the last eight bytes", m, 12)
	if now, _ := m.Load(0); now != first {
		t.Error("Sd changed other bytes")
	}
	steps(m, 2)
	has(t, "the first eight bytes", m, 7, -3)
	goesOn(t, "the first eight bytes", m, 20)
}

// 2.3: Ld and Sd beside what is there: Fault, and nothing is done.
func TestMemoryNotThere(t *testing.T) {
	for _, n := range []int64{-8, -1, 1, 4, 52, 57, 60, 63, 64, 72, 2040, -2048} {
		for _, x := range []api.Inst{rrn(api.Ld, 5, 0, n), two(api.Sd, 0, 5, n)} {
			m := laid(t, 64, nil, set(5, 9), x)
			m.Step()
			want := look(t, m, 64)
			want.way = api.Fault
			steps(m, 3)
			if got := look(t, m, 64); !got.same(want) {
				t.Errorf("%v: %v, want %v", x, got, want)
			}
		}
	}
}

// 2.3: what is added wraps: a place beyond the greatest number is none, and from below 0 one comes back.
func TestAddedWraps(t *testing.T) {
	greatest := []api.Inst{set(5, -1), rrn(api.Srli, 5, 5, 1)}
	m := laid(t, 64, nil, append(greatest, rrn(api.Ld, 6, 5, 1))...)
	steps(m, 3)
	ended(t, "Ld beyond the greatest number", m, api.Fault, 0, 8)
	m = laid(t, 64, nil, append(greatest, rrn(api.Jalr, 6, 5, 2))...)
	steps(m, 3)
	goesOn(t, "Jalr beyond the greatest number", m, math.MinInt64)
	has(t, "Jalr beyond the greatest number", m, 6, 12)
	steps(m, 1)
	ended(t, "a place below 0", m, api.Fault, 0, math.MinInt64)
	m = laid(t, 64, nil, set(5, -8), rrn(api.Ld, 6, 5, 8), two(api.Sd, 5, 2, 16))
	steps(m, 3)
	goesOn(t, "from below 0", m, 12)
	if v, _ := m.Load(8); v != 64 {
		t.Errorf("Sd from below 0: %d, want 64", v)
	}
}

// 2.3: Jalr and Jal.
func TestJumps(t *testing.T) {
	cases := []struct {
		what   string
		x      api.Inst
		pc, rd int64
	}{
		{"Jalr ahead", rrn(api.Jalr, 7, 5, 8), 20, 8},
		{"Jalr back", rrn(api.Jalr, 7, 5, -12), 0, 8},
		{"Jalr, its last bit 1", rrn(api.Jalr, 7, 5, 1), 12, 8},
		{"Jalr, its last bits 1", rrn(api.Jalr, 7, 5, 3), 14, 8},
		{"Jalr, below 0", rrn(api.Jalr, 7, 5, -13), -2, 8},
		{"Jalr, far", rrn(api.Jalr, 7, 5, 2047), 2058, 8},
		{"Jal ahead", api.Inst{Op: api.Jal, Rd: 7, N: 8}, 12, 8},
		{"Jal back", api.Inst{Op: api.Jal, Rd: 7, N: -4}, 0, 8},
		{"Jal, no multiple of 4", api.Inst{Op: api.Jal, Rd: 7, N: 6}, 10, 8},
		{"Jal there", api.Inst{Op: api.Jal, Rd: 7}, 4, 8},
		{"Jal, below 0", api.Inst{Op: api.Jal, Rd: 7, N: -1 << 20}, 4 - 1<<20, 8},
	}
	for _, c := range cases {
		m := laid(t, 64, nil, set(5, 12), c.x)
		steps(m, 2)
		goesOn(t, c.what, m, c.pc)
		has(t, c.what, m, 7, c.rd)
	}
	m := laid(t, 64, nil, set(5, 12), rrn(api.Jalr, 5, 5, 4))
	steps(m, 2)
	goesOn(t, "Jalr by the register that it writes", m, 16)
	has(t, "Jalr by the register that it writes", m, 5, 8)
}

// 2.3: Beq, Bne, Blt, Bge.
func TestBranches(t *testing.T) {
	pairs := [][2]int64{{3, 3}, {3, 4}, {4, 3}, {-1, 1}, {1, -1}, {-2, -1}, {-1, -1}, {0, 0}}
	for _, p := range pairs {
		goes := map[int]bool{api.Beq: p[0] == p[1], api.Bne: p[0] != p[1], api.Blt: p[0] < p[1], api.Bge: p[0] >= p[1]}
		for op, far := range goes {
			for _, n := range []int64{12, -8, 6, -4096} {
				m := laid(t, 64, nil, set(5, p[0]), set(6, p[1]), two(op, 5, 6, n))
				steps(m, 3)
				want := int64(12)
				if far {
					want = 8 + n
				}
				goesOn(t, "branch", m, want)
			}
		}
	}
}

// 2.3: Lui.
func TestLui(t *testing.T) {
	for _, n := range []int64{0, 4096, -4096, 1<<31 - 4096, -1 << 31} {
		m := laid(t, 64, nil, set(5, 9), api.Inst{Op: api.Lui, Rd: 5, N: n})
		steps(m, 2)
		has(t, "Lui", m, 5, n)
		goesOn(t, "Lui", m, 8)
	}
}

// 2.3: a place where no word is: Fault, nothing is done, PC stays.
func TestNoPlace(t *testing.T) {
	for _, n := range []int64{2, 6, -2, -4, 62, 64, 66, 68, 2044} {
		m := laid(t, 64, nil, rrn(api.Jalr, 7, 0, n))
		m.Step()
		goesOn(t, "a jump", m, n)
		want := look(t, m, 64)
		want.way = api.Fault
		m.Step()
		if got := look(t, m, 64); !got.same(want) {
			t.Errorf("at %d: %v, want %v", n, got, want)
		}
	}
	m := laid(t, 64, nil, rrn(api.Jalr, 0, 0, 60))
	last := words(t, set(5, 3))[0]
	if err := m.Store(56, int64(last)<<32); err != nil {
		t.Fatal(err)
	}
	steps(m, 2)
	has(t, "the last word", m, 5, 3)
	goesOn(t, "behind the last word", m, 64)
	m.Step()
	ended(t, "behind the last word", m, api.Fault, 0, 64)
}

// 2.3: a word of which no instruction is: Fault, nothing is done, PC stays.
func TestNoInstruction(t *testing.T) {
	add := words(t, rrr(api.Add, 5, 2, 2))[0]
	for _, w := range []uint32{0, 1, 0xffffffff, add ^ 1, add | 1<<31, 0x73 | 1<<20, 0x73 | 1<<7, 0x3b, 0x13 | 1<<12 | 1<<26} {
		m, err := machine.New([]uint32{w}, 16, nil)
		if err != nil {
			t.Fatal(err)
		}
		want := look(t, m, 16)
		want.way = api.Fault
		m.Step()
		if got := look(t, m, 16); !got.same(want) {
			t.Errorf("word %x: %v, want %v", w, got, want)
		}
	}
}

// 2.3: Ecall 1: numbers are told, MaxPrint of them; then Full.
func TestTell(t *testing.T) {
	m := laid(t, 64, nil, set(17, 1), rrn(api.Addi, 10, 10, 3), ecall, api.Inst{Op: api.Jal, N: -8})
	steps(m, 1)
	var want []int64
	for i := range int64(api.MaxPrint) {
		steps(m, 2)
		want = append(want, 3*(i+1))
		if e := m.End(); e.Way != 0 || e.Code != 0 || !slices.Equal(e.Out, want) {
			t.Fatalf("told %v, want %v", e, want)
		}
		goesOn(t, "told", m, 12)
		has(t, "told", m, 10, 3*(i+1))
		steps(m, 1)
	}
	steps(m, 2)
	ended(t, "more than MaxPrint", m, api.Full, 0, 8)
	has(t, "more than MaxPrint", m, 10, 3*(api.MaxPrint+1))
	if out := m.End().Out; !slices.Equal(out, want) {
		t.Errorf("Full, told %v, want %v", out, want)
	}
}

// 2.3: Ecall 2: numbers that are given, in their order; behind them 0.
func TestGive(t *testing.T) {
	m := laid(t, 64, []int64{7, math.MinInt64, 0, -1}, set(17, 2), set(10, 99), ecall, api.Inst{Op: api.Jal, N: -8})
	steps(m, 1)
	for _, want := range []int64{7, math.MinInt64, 0, -1, 0, 0} {
		steps(m, 2)
		has(t, "given", m, 10, want)
		goesOn(t, "given", m, 12)
		steps(m, 1)
	}
	m = laid(t, 64, nil, set(17, 2), set(10, 99), ecall)
	steps(m, 3)
	has(t, "nothing is given", m, 10, 0)
	goesOn(t, "nothing is given", m, 12)
}

// 2.3: Ecall 3: it ends, in each Way that there is for it; in no other one.
func TestEnd(t *testing.T) {
	for way := int64(-2); way < 14; way++ {
		m := laid(t, 64, nil, set(17, 3), set(10, way), set(11, -5), ecall)
		steps(m, 3)
		goesOn(t, "ahead of the end", m, 12)
		steps(m, 1)
		if way >= api.Done && way <= api.Memory {
			ended(t, "it ends", m, int(way), -5, 12)
			continue
		}
		ended(t, "no Way", m, api.Fault, 0, 12)
	}
	// What is a Way in its last 32 bits alone is none.
	m := laid(t, 64, nil, set(17, 3), set(10, 1), rrn(api.Slli, 10, 10, 32), rrn(api.Addi, 10, 10, 1), ecall)
	steps(m, 5)
	ended(t, "a great number is no Way", m, api.Fault, 0, 16)
}

// 2.3: an Ecall of no kind.
func TestNoCall(t *testing.T) {
	for _, n := range []int64{0, -1, 4, 5, 17, 93, 2047, -2048} {
		m := laid(t, 64, []int64{8}, set(17, n), set(10, 1), set(11, 6), ecall)
		steps(m, 4)
		ended(t, "no call", m, api.Fault, 0, 12)
		has(t, "no call", m, 10, 1)
		if out := m.End().Out; len(out) != 0 {
			t.Errorf("no call tells %v", out)
		}
	}
}

// 2.3: an end keeps what was told ahead of it.
func TestFaultKeepsOut(t *testing.T) {
	m := laid(t, 64, nil, set(17, 1), set(10, 6), ecall)
	steps(m, 4)
	ended(t, "Fault", m, api.Fault, 0, 12)
	if out := m.End().Out; !slices.Equal(out, []int64{6}) {
		t.Errorf("told %v, want 6", out)
	}
}

// 2.3: Steps behind the end change nothing, and Run neither.
func TestBehindTheEnd(t *testing.T) {
	full := []api.Inst{set(17, 1), ecall, {Op: api.Jal, N: -4}}
	for _, l := range [][]api.Inst{
		{set(17, 3), set(10, api.Done), set(11, 4), ecall, set(5, 1)},
		{set(17, 3), set(10, api.Fuel), ecall, set(5, 1)},
		{set(17, 9), ecall, set(5, 1)},
		{rrn(api.Ld, 5, 0, 4), set(5, 1)},
		full, nil,
	} {
		m := laid(t, 64, nil, l...)
		e := m.Run(1000)
		want := look(t, m, 64)
		if want.way == 0 {
			t.Fatalf("%v did not end", l)
		}
		steps(m, 3)
		f := m.Run(1000)
		if got := look(t, m, 64); !got.same(want) {
			t.Errorf("behind the end: %v, want %v", got, want)
		}
		if f.Way != e.Way || f.Code != e.Code || !slices.Equal(f.Out, e.Out) || e.Way != want.way || e.Code != want.code {
			t.Errorf("Run behind the end: %v, want %v", f, e)
		}
	}
}

// 2.3: what ended does not go on, even where other words are laid.
func TestOtherWordsBehindTheEnd(t *testing.T) {
	m := laid(t, 64, nil, rrn(api.Ld, 5, 0, 4))
	m.Step()
	ended(t, "Fault", m, api.Fault, 0, 0)
	if err := m.Store(0, int64(words(t, set(5, 3))[0])); err != nil {
		t.Fatal(err)
	}
	steps(m, 2)
	m.Run(2)
	ended(t, "other words", m, api.Fault, 0, 0)
	has(t, "other words", m, 5, 0)
}

// 2.4: so many Steps, at most; it may go on then, and comes to the same.
func TestRun(t *testing.T) {
	program := []api.Inst{
		set(17, 1), set(5, 5), // from 5 down to 1 each is told
		rrn(api.Addi, 10, 5, 0), ecall, rrn(api.Addi, 5, 5, -1), two(api.Bne, 5, 0, -12),
		set(17, 3), set(10, api.Bounds), set(11, 77), ecall, set(6, 1),
	}
	const all = 2 + 5*4 + 4
	whole := laid(t, 64, nil, program...)
	want := whole.Run(all)
	if want.Way != api.Bounds || want.Code != 77 || !slices.Equal(want.Out, []int64{5, 4, 3, 2, 1}) {
		t.Fatalf("Run: %v", want)
	}
	for fuel := range all + 3 {
		m, by := laid(t, 64, nil, program...), laid(t, 64, nil, program...)
		e := m.Run(fuel)
		steps(by, fuel)
		if !look(t, m, 64).same(look(t, by, 64)) {
			t.Errorf("fuel %d: not so many Steps", fuel)
		}
		if fuel < all && (e.Way != api.Fuel || e.Code != 0 || m.End().Way != 0 || !slices.Equal(e.Out, m.End().Out)) {
			t.Errorf("fuel %d: %v, %v", fuel, e, m.End())
		}
		if e = m.Run(math.MaxInt); e.Way != want.Way || e.Code != want.Code || !slices.Equal(e.Out, want.Out) {
			t.Errorf("fuel %d, and more: %v, want %v", fuel, e, want)
		}
		if !look(t, m, 64).same(look(t, whole, 64)) {
			t.Errorf("fuel %d, and more: another road", fuel)
		}
	}
}

// 2.4: no fuel, and less.
func TestRunWithoutFuel(t *testing.T) {
	m := laid(t, 64, nil, set(5, 1))
	for _, fuel := range []int{0, -1, math.MinInt} {
		if e := m.Run(fuel); e.Way != api.Fuel || e.Code != 0 || len(e.Out) != 0 {
			t.Errorf("fuel %d: %v", fuel, e)
		}
		goesOn(t, "no fuel", m, 0)
		has(t, "no fuel", m, 5, 0)
	}
}

// 2.4: where it goes round, Run ends with its fuel.
func TestRunRound(t *testing.T) {
	m := laid(t, 64, nil, rrn(api.Addi, 5, 5, 1), api.Inst{Op: api.Jal, N: -4})
	if e := m.Run(100_000); e.Way != api.Fuel {
		t.Errorf("round: %v", e)
	}
	has(t, "round", m, 5, 50_000)
}
