package word_test

import (
	"math"
	"testing"

	"bloomery/api"
	"bloomery/word"
)

// op is one of the ops, as chapter 1 tells it.
type op struct {
	op             int
	kind           byte
	low, mid, high uint32
}

var ops = []op{
	{api.Add, 'R', 0x33, 0, 0}, {api.Sub, 'R', 0x33, 0, 0x20}, {api.Mul, 'R', 0x33, 0, 1},
	{api.Div, 'R', 0x33, 4, 1}, {api.Rem, 'R', 0x33, 6, 1}, {api.And, 'R', 0x33, 7, 0},
	{api.Orr, 'R', 0x33, 6, 0}, {api.Xor, 'R', 0x33, 4, 0}, {api.Slt, 'R', 0x33, 2, 0},
	{api.Sltu, 'R', 0x33, 3, 0}, {api.Sll, 'R', 0x33, 1, 0}, {api.Srl, 'R', 0x33, 5, 0},
	{api.Sra, 'R', 0x33, 5, 0x20},
	{api.Addi, 'I', 0x13, 0, 0}, {api.Andi, 'I', 0x13, 7, 0}, {api.Ori, 'I', 0x13, 6, 0},
	{api.Xori, 'I', 0x13, 4, 0}, {api.Slti, 'I', 0x13, 2, 0}, {api.Ld, 'I', 0x03, 3, 0},
	{api.Jalr, 'I', 0x67, 0, 0},
	{api.Slli, 'H', 0x13, 1, 0}, {api.Srli, 'H', 0x13, 5, 0}, {api.Srai, 'H', 0x13, 5, 0x20},
	{api.Sd, 'S', 0x23, 3, 0},
	{api.Beq, 'B', 0x63, 0, 0}, {api.Bne, 'B', 0x63, 1, 0}, {api.Blt, 'B', 0x63, 4, 0}, {api.Bge, 'B', 0x63, 5, 0},
	{api.Lui, 'U', 0x37, 0, 0}, {api.Jal, 'J', 0x6f, 0, 0}, {api.Ecall, 'E', 0x73, 0, 0},
}

// registers are those that a kind has: Rd, Ra, Rb.
var registers = map[byte][3]bool{
	'R': {true, true, true}, 'I': {true, true, false}, 'H': {true, true, false}, 'S': {false, true, true},
	'B': {false, true, true}, 'U': {true, false, false}, 'J': {true, false, false}, 'E': {},
}

// fit are numbers that a kind has room for, its least and its greatest among them.
var fit = map[byte][]int64{
	'R': {0}, 'E': {0},
	'I': {0, 1, -1, 3, -2048, -2047, 2046, 2047},
	'H': {0, 1, 31, 32, 33, 62, 63},
	'S': {0, 1, -1, 31, 32, -32, -33, -2048, 2047},
	'B': {0, 2, -2, 4, 30, 32, 2046, 2048, -2048, -4096, -4094, 4092, 4094},
	'U': {0, 4096, -4096, 1 << 20, 1 << 30, -1 << 31, 1<<31 - 4096},
	'J': {0, 2, -2, 2046, 2048, 4096, -4096, 1 << 19, -1 << 20, 1<<20 - 2, 2 - 1<<20},
}

// misfit are numbers that a kind has no room for, beside those that no kind has room for.
var misfit = map[byte][]int64{
	'R': {1, -1, 2, 4096}, 'E': {1, -1, 2, 4096},
	'I': {2048, -2049, 4095, 4096},
	'H': {-1, -64, 64, 65, 2047},
	'S': {2048, -2049, 4095, 4096},
	'B': {1, -1, 3, 4093, 4095, 4096, -4095, -4097, -4098},
	'U': {1, -1, 2, 2048, 4095, 4097, 1<<31 - 1, 1 << 31, 1<<32 - 4096, -1<<31 - 4096, 1 - 1<<31},
	'J': {1, -1, 1<<20 - 1, 1 << 20, 1 - 1<<20, -1<<20 - 1, -1<<20 - 2},
}

// never are numbers that no kind has room for.
var never = []int64{1 << 32, 1<<32 + 4096, -1 << 32, 1 << 40, 1 << 62, math.MinInt64, math.MaxInt64, math.MaxInt64 - 4095}

// place is a bit of a number, and where in a word it lies.
type place struct{ n, w int }

// places are where the bits of a kind's number lie in a word; the last one is the sign's (but H's).
var places = map[byte][]place{
	'I': {{0, 20}, {1, 21}, {2, 22}, {3, 23}, {4, 24}, {5, 25}, {6, 26}, {7, 27}, {8, 28}, {9, 29}, {10, 30}, {11, 31}},
	'H': {{0, 20}, {1, 21}, {2, 22}, {3, 23}, {4, 24}, {5, 25}},
	'S': {{0, 7}, {1, 8}, {2, 9}, {3, 10}, {4, 11}, {5, 25}, {6, 26}, {7, 27}, {8, 28}, {9, 29}, {10, 30}, {11, 31}},
	'B': {{1, 8}, {2, 9}, {3, 10}, {4, 11}, {5, 25}, {6, 26}, {7, 27}, {8, 28}, {9, 29}, {10, 30}, {11, 7}, {12, 31}},
	'U': {{12, 12}, {13, 13}, {14, 14}, {15, 15}, {16, 16}, {17, 17}, {18, 18}, {19, 19}, {20, 20}, {21, 21}, {22, 22},
		{23, 23}, {24, 24}, {25, 25}, {26, 26}, {27, 27}, {28, 28}, {29, 29}, {30, 30}, {31, 31}},
	'J': {{1, 21}, {2, 22}, {3, 23}, {4, 24}, {5, 25}, {6, 26}, {7, 27}, {8, 28}, {9, 29}, {10, 30}, {11, 20},
		{12, 12}, {13, 13}, {14, 14}, {15, 15}, {16, 16}, {17, 17}, {18, 18}, {19, 19}, {20, 31}},
}

// bare is what every word of an op has.
func bare(o op) uint32 {
	return o.low | o.mid<<12 | o.high<<25
}

// with is an instruction of an op, with these of the registers that its kind has.
func with(o op, r [3]int, n int64) api.Inst {
	has := registers[o.kind]
	for i := range r {
		if !has[i] {
			r[i] = 0
		}
	}
	return api.Inst{Op: o.op, Rd: r[0], Ra: r[1], Rb: r[2], N: n}
}

// same asks that an instruction is Right, and this word's.
func same(t *testing.T, x api.Inst, w uint32) {
	t.Helper()
	if !word.Right(x) {
		t.Errorf("Right(%v): false", x)
	}
	if v, err := word.Encode(x); v != w || err != nil {
		t.Errorf("Encode(%v): %#x, %v; want %#x", x, v, err, w)
	}
	if y, err := word.Decode(w); y != x || err != nil {
		t.Errorf("Decode(%#x): %v, %v; want %v", w, y, err, x)
	}
}

// wrong asks that an instruction may not be.
func wrong(t *testing.T, x api.Inst) {
	t.Helper()
	if word.Right(x) {
		t.Errorf("Right(%v): true", x)
	}
	if w, err := word.Encode(x); w != 0 || err != error(api.ErrArg) {
		t.Errorf("Encode(%v): %#x, %v; want 0, ErrArg", x, w, err)
	}
}

// none asks that a word is no instruction's.
func none(t *testing.T, w uint32) {
	t.Helper()
	if x, err := word.Decode(w); x != (api.Inst{}) || err != error(api.ErrForm) {
		t.Errorf("Decode(%#x): %v, %v; want nothing, ErrForm", w, x, err)
	}
}

// Promises 1.1 and 1.3: an instruction of every op, and its word, as an assembler of another house tells it.
func TestWords(t *testing.T) {
	l := []struct {
		x api.Inst
		w uint32
	}{
		{api.Inst{Op: api.Add, Rd: 1, Ra: 2, Rb: 3}, 0x003100b3},
		{api.Inst{Op: api.Sub, Rd: 31, Ra: 0, Rb: 31}, 0x41f00fb3},
		{api.Inst{Op: api.Mul, Rd: 5, Ra: 6, Rb: 7}, 0x027302b3},
		{api.Inst{Op: api.Div, Rd: 10, Ra: 11, Rb: 12}, 0x02c5c533},
		{api.Inst{Op: api.Rem, Rd: 13, Ra: 14, Rb: 15}, 0x02f766b3},
		{api.Inst{Op: api.And, Rd: 16, Ra: 17, Rb: 18}, 0x0128f833},
		{api.Inst{Op: api.Orr, Rd: 19, Ra: 20, Rb: 21}, 0x015a69b3},
		{api.Inst{Op: api.Xor, Rd: 22, Ra: 23, Rb: 24}, 0x018bcb33},
		{api.Inst{Op: api.Slt, Rd: 25, Ra: 26, Rb: 27}, 0x01bd2cb3},
		{api.Inst{Op: api.Sltu, Rd: 28, Ra: 29, Rb: 30}, 0x01eebe33},
		{api.Inst{Op: api.Sll, Rd: 31, Ra: 31, Rb: 31}, 0x01ff9fb3},
		{api.Inst{Op: api.Srl, Rd: 0, Ra: 0, Rb: 0}, 0x00005033},
		{api.Inst{Op: api.Sra, Rd: 8, Ra: 9, Rb: 10}, 0x40a4d433},
		{api.Inst{Op: api.Addi, Rd: 1, Ra: 2, N: -1}, 0xfff10093},
		{api.Inst{Op: api.Andi, Rd: 3, Ra: 4, N: 2047}, 0x7ff27193},
		{api.Inst{Op: api.Ori, Rd: 5, Ra: 6, N: -2048}, 0x80036293},
		{api.Inst{Op: api.Xori, Rd: 7, Ra: 8, N: 1365}, 0x55544393},
		{api.Inst{Op: api.Slti, Rd: 9, Ra: 10, N: 0}, 0x00052493},
		{api.Inst{Op: api.Slli, Rd: 11, Ra: 12, N: 63}, 0x03f61593},
		{api.Inst{Op: api.Srli, Rd: 13, Ra: 14, N: 32}, 0x02075693},
		{api.Inst{Op: api.Srai, Rd: 15, Ra: 16, N: 1}, 0x40185793},
		{api.Inst{Op: api.Ld, Rd: 17, Ra: 18, N: -8}, 0xff893883},
		{api.Inst{Op: api.Jalr, Rd: 0, Ra: 1, N: 0}, 0x00008067},
		{api.Inst{Op: api.Sd, Ra: 19, Rb: 20, N: -1366}, 0xab49b523},
		{api.Inst{Op: api.Beq, Ra: 1, Rb: 2, N: -4096}, 0x80208063},
		{api.Inst{Op: api.Bne, Ra: 3, Rb: 4, N: 4094}, 0x7e419fe3},
		{api.Inst{Op: api.Blt, Ra: 5, Rb: 6, N: -2}, 0xfe62cfe3},
		{api.Inst{Op: api.Bge, Ra: 31, Rb: 0, N: 2730}, 0x2a0fd5e3},
		{api.Inst{Op: api.Lui, Rd: 25, N: -1 << 31}, 0x80000cb7},
		{api.Inst{Op: api.Lui, Rd: 26, N: 0x7ffff000}, 0x7ffffd37},
		{api.Inst{Op: api.Jal, Rd: 1, N: -1 << 20}, 0x800000ef},
		{api.Inst{Op: api.Jal, Rd: 31, N: 1<<20 - 2}, 0x7fffffef},
		{api.Inst{Op: api.Jal, Rd: 0, N: -2}, 0xfffff06f},
		{api.Inst{Op: api.Ecall}, 0x00000073},
	}
	seen := map[int]bool{}
	for _, c := range l {
		seen[c.x.Op] = true
		same(t, c.x, c.w)
	}
	if len(seen) != api.Ecall {
		t.Errorf("%d ops of %d", len(seen), api.Ecall)
	}
}

// Promise 1.1: of every LOW, MID and HIGH which op it is, or none; all else in the word is 0.
func TestOpBits(t *testing.T) {
	want := map[uint32]api.Inst{}
	for _, o := range ops {
		switch o.kind {
		case 'R', 'E':
			want[bare(o)] = api.Inst{Op: o.op}
		case 'I':
			for high := range int64(128) {
				n := high << 5
				if n >= 2048 {
					n -= 4096
				}
				want[bare(o)|uint32(high)<<25] = api.Inst{Op: o.op, N: n}
			}
		case 'H':
			want[bare(o)] = api.Inst{Op: o.op}
			want[bare(o)|1<<25] = api.Inst{Op: o.op, N: 32}
		}
	}
	for low := range uint32(128) {
		if low == 0x23 || low == 0x63 || low == 0x37 || low == 0x6f {
			continue // their number has bits beside MID and HIGH: TestNumberBits
		}
		for rest := range uint32(1 << 10) {
			w := low | rest%8<<12 | rest/8<<25
			if x, ok := want[w]; ok {
				same(t, x, w)
			} else {
				none(t, w)
			}
		}
	}
}

// Promise 1.1: S and B have MIDs that are none.
func TestOtherMids(t *testing.T) {
	for mid := range uint32(8) {
		if mid != 3 {
			none(t, 0x23|mid<<12)
		}
		if mid == 2 || mid == 3 || mid == 6 || mid == 7 {
			none(t, 0x63|mid<<12)
		}
	}
}

// Promise 1.2: registers from 0 to 31, and 0 where the kind has none.
func TestRegisters(t *testing.T) {
	for _, o := range ops {
		for i, has := range registers[o.kind] {
			for _, r := range []int{-1, 0, 1, 15, 16, 31, 32, 33, 64, -32, 1 << 32, 1<<32 + 1, math.MinInt, math.MaxInt} {
				x := api.Inst{Op: o.op}
				*[]*int{&x.Rd, &x.Ra, &x.Rb}[i] = r
				if r == 0 || has && r > 0 && r < 32 {
					same(t, x, bare(o)|uint32(r)<<[]int{7, 15, 20}[i])
				} else {
					wrong(t, x)
				}
			}
		}
	}
}

// Promise 1.2: one wrong register is enough, whatever the others are.
func TestOneWrongRegister(t *testing.T) {
	for _, o := range ops {
		for i, has := range registers[o.kind] {
			for _, r := range []int{-1, 1, 32} {
				if has && r == 1 {
					continue
				}
				x := with(o, [3]int{31, 31, 31}, fit[o.kind][0])
				*[]*int{&x.Rd, &x.Ra, &x.Rb}[i] = r
				wrong(t, x)
			}
		}
	}
}

// Promises 1.2 and 1.3: numbers at both ends of their bits, and what is beyond.
func TestNumbers(t *testing.T) {
	for _, o := range ops {
		for _, r := range [][3]int{{0, 0, 0}, {31, 31, 31}, {21, 10, 5}} {
			for _, n := range fit[o.kind] {
				x := with(o, r, n)
				w, err := word.Encode(x)
				if err != nil {
					t.Errorf("Encode(%v): %v", x, err)
				}
				same(t, x, w)
			}
			for _, n := range append(misfit[o.kind], never...) {
				wrong(t, with(o, r, n))
			}
		}
	}
}

// Promise 1.2: what is no op.
func TestNoOps(t *testing.T) {
	if len(ops) != api.Ecall {
		t.Fatalf("%d ops of %d", len(ops), api.Ecall)
	}
	for _, n := range []int{0, -1, -31, 32, 33, 64, 255, 256, 257, 1 << 32, 1<<32 + 1, math.MinInt, math.MaxInt} {
		wrong(t, api.Inst{Op: n})
		wrong(t, api.Inst{Op: n, Rd: 1, Ra: 2, Rb: 3, N: 4})
	}
}

// Promise 1.3: each bit of a number, and where it lies.
func TestNumberBits(t *testing.T) {
	for _, o := range ops {
		l := places[o.kind]
		for i, p := range l {
			n := int64(1) << p.n
			if i == len(l)-1 && o.kind != 'H' {
				n = -n
			}
			same(t, api.Inst{Op: o.op, N: n}, bare(o)|1<<p.w)
		}
	}
}

// Promise 1.3: registers at every number, in every place.
func TestRegisterBits(t *testing.T) {
	for _, o := range ops {
		for r := range 32 {
			x := with(o, [3]int{r, (r + 7) % 32, (r + 21) % 32}, 0)
			same(t, x, bare(o)|uint32(x.Rd)<<7|uint32(x.Ra)<<15|uint32(x.Rb)<<20)
		}
	}
}

// Promise 1.3: words of which no instruction is.
func TestNoInstructions(t *testing.T) {
	for _, w := range []uint32{
		0, 1, 0xffffffff, 0x80000000,
		0x00000017,             // another LOW of U's form
		0x0000003b, 0x0000001b, // LOWs of narrower numbers
		0x02001033, 0x02002033, 0x02003033, 0x02005033, 0x02007033, // HIGH 1 beside other MIDs
		0x40001033, 0x40002033, 0x40004033, 0x40007033, // HIGH 20 beside other MIDs
		0x04000033, 0x80000033, 0x42000033, 0x60000033, // other HIGHs
		0x00003013,                                     // a MID that LOW 13 has not
		0x04001013, 0x40001013, 0x80005013, 0x44005013, // other HIGHs of H
		0x00000003, 0x00002003, 0x00001067, 0x00007067, // other MIDs of LOW 3 and 67
		0x00100073, 0x000000f3, 0x00008073, 0x00001073, 0x80000073, // E has nothing beside LOW
	} {
		none(t, w)
	}
}

// Promise 1.3: of any word, Decode tells an instruction of which Encode tells just that word, or ErrForm.
func TestAnyWord(t *testing.T) {
	d := uint64(7)
	for i := range 300_000 {
		d = d*6364136223846793005 + 1442695040888963407
		w := uint32(d >> 32)
		if i%4 != 0 {
			w = w&^0x7f | ops[i%len(ops)].low
		}
		x, err := word.Decode(w)
		if err != nil {
			none(t, w)
			continue
		}
		same(t, x, w)
	}
}

// Promise 1.3: a word that one bit was turned in is another instruction's, or none's.
func TestTurnedBits(t *testing.T) {
	for _, o := range ops {
		for _, n := range fit[o.kind] {
			x := with(o, [3]int{1, 30, 12}, n)
			w, _ := word.Encode(x)
			for bit := range 32 {
				y, err := word.Decode(w ^ 1<<bit)
				if err != nil {
					none(t, w^1<<bit)
					continue
				}
				if y == x {
					t.Errorf("Decode(%#x) and Decode(%#x): both %v", w, w^1<<bit, x)
				}
				same(t, y, w^1<<bit)
			}
		}
	}
}
