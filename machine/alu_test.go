package machine_test

import (
	"math"
	"math/big"
	"testing"

	"bloomery/api"
	"bloomery/machine"
)

// numbers are ordinary ones and edges.
var numbers = []int64{
	0, 1, -1, 2, -2, 3, 7, -7, 10, 31, 32, 33, 62, 63, 64, 65, 127, 128, -62, -63, -64, -65, 1 << 31, -1 << 31, 1 << 32,
	1<<32 + 5, -1 << 40, 0x123456789abcdef, -0x123456789abcdef, 1 << 62, math.MaxInt64 - 1, math.MaxInt64, math.MinInt64 + 1,
	math.MinInt64,
}

// wrapped is a number's last 64 bits.
func wrapped(x *big.Int) int64 {
	return int64(new(big.Int).And(x, new(big.Int).SetUint64(math.MaxUint64)).Uint64())
}

// unsigned is a number without its sign.
func unsigned(a int64) *big.Int { return new(big.Int).SetUint64(uint64(a)) }

func truth(b bool) *big.Int {
	if b {
		return big.NewInt(1)
	}
	return big.NewInt(0)
}

// meant is what chapter 2 says of an op, in numbers without bounds; nil: it says nothing of it.
func meant(op int, a, b int64) *big.Int {
	x, y, z := big.NewInt(a), big.NewInt(b), new(big.Int)
	far := uint(unsigned(b).Bit(5)<<5 | unsigned(b).Bit(4)<<4 | unsigned(b).Bit(3)<<3 | unsigned(b).Bit(2)<<2 | unsigned(b).Bit(1)<<1 | unsigned(b).Bit(0))
	switch op {
	case api.Add, api.Addi:
		return z.Add(x, y)
	case api.Sub:
		return z.Sub(x, y)
	case api.Mul:
		return z.Mul(x, y)
	case api.Div:
		if b == 0 {
			return big.NewInt(-1)
		}
		return z.Quo(x, y)
	case api.Rem:
		if b == 0 {
			return x
		}
		return z.Rem(x, y)
	case api.And, api.Andi:
		return z.And(x, y)
	case api.Orr, api.Ori:
		return z.Or(x, y)
	case api.Xor, api.Xori:
		return z.Xor(x, y)
	case api.Slt, api.Slti:
		return truth(x.Cmp(y) < 0)
	case api.Sltu:
		return truth(unsigned(a).Cmp(unsigned(b)) < 0)
	case api.Sll, api.Slli:
		return z.Lsh(x, far)
	case api.Srl, api.Srli:
		return z.Rsh(unsigned(a), far)
	case api.Sra, api.Srai:
		return z.Rsh(x, far)
	}
	return nil
}

// 2.2: each op, of each pair of numbers.
func TestAlu(t *testing.T) {
	for op := api.Add; op <= api.Srai; op++ {
		for _, a := range numbers {
			for _, b := range numbers {
				if got, want := machine.Alu(op, a, b), wrapped(meant(op, a, b)); got != want {
					t.Errorf("Alu(%d, %d, %d): %d, want %d", op, a, b, got, want)
				}
			}
		}
	}
}

// 2.2: the edges that the chapter names, one by one.
func TestAluEdges(t *testing.T) {
	const least, greatest = math.MinInt64, math.MaxInt64
	cases := []struct {
		op         int
		a, b, want int64
	}{
		{api.Add, greatest, 1, least}, {api.Sub, least, 1, greatest}, {api.Mul, least, -1, least}, {api.Mul, greatest, 2, -2},
		{api.Div, 7, 2, 3}, {api.Div, -7, 2, -3}, {api.Div, 7, -2, -3}, {api.Div, -7, -2, 3},
		{api.Rem, 7, 2, 1}, {api.Rem, -7, 2, -1}, {api.Rem, 7, -2, 1}, {api.Rem, -7, -2, -1},
		{api.Div, 7, 0, -1}, {api.Div, 0, 0, -1}, {api.Div, least, 0, -1}, {api.Rem, 7, 0, 7}, {api.Rem, least, 0, least},
		{api.Div, least, -1, least}, {api.Rem, least, -1, 0},
		{api.Slt, -1, 0, 1}, {api.Slt, 0, 0, 0}, {api.Sltu, -1, 0, 0}, {api.Sltu, 0, -1, 1}, {api.Slti, -1, 0, 1},
		{api.Sll, 1, 0, 1}, {api.Sll, 1, 63, least}, {api.Sll, 1, 64, 1}, {api.Sll, 1, -1, least}, {api.Sll, 3, -64, 3},
		{api.Srl, -1, 0, -1}, {api.Srl, -1, 63, 1}, {api.Srl, -1, 64, -1}, {api.Srl, -1, -1, 1}, {api.Srl, -1, 1, greatest},
		{api.Sra, -8, 1, -4}, {api.Sra, least, 63, -1}, {api.Sra, 5, 64, 5}, {api.Sra, least, -1, -1}, {api.Srai, -8, 65, -4},
	}
	for _, c := range cases {
		if got := machine.Alu(c.op, c.a, c.b); got != c.want {
			t.Errorf("Alu(%d, %d, %d): %d, want %d", c.op, c.a, c.b, got, c.want)
		}
	}
}

// 2.2: all others come to 0.
func TestAluOfOthers(t *testing.T) {
	for _, op := range []int{0, -1, api.Ld, api.Jalr, api.Sd, api.Beq, api.Bne, api.Blt, api.Bge, api.Lui, api.Jal, api.Ecall, 32, 33, 1 << 32, 1<<32 + 1, math.MaxInt, math.MinInt} {
		for _, a := range numbers {
			if got := machine.Alu(op, a, 3); got != 0 {
				t.Errorf("Alu(%d, %d, 3): %d, want 0", op, a, got)
			}
		}
	}
}
