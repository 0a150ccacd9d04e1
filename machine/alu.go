package machine

import "bloomery/api"

// moveBits are the bits of a number that say how far another one is moved.
const moveBits = 63

// Alu is what an op comes to, of two numbers.
func Alu(op int, a, b int64) int64 {
	switch op {
	case api.Add, api.Addi:
		return a + b
	case api.Sub:
		return a - b
	case api.Mul:
		return a * b
	case api.Div:
		return quotient(a, b)
	case api.Rem:
		return rest(a, b)
	case api.And, api.Andi:
		return a & b
	case api.Orr, api.Ori:
		return a | b
	case api.Xor, api.Xori:
		return a ^ b
	case api.Slt, api.Slti:
		return one(a < b)
	case api.Sltu:
		return one(uint64(a) < uint64(b))
	case api.Sll, api.Slli:
		return a << (b & moveBits)
	case api.Srl, api.Srli:
		return int64(uint64(a) >> (b & moveBits))
	case api.Sra, api.Srai:
		return a >> (b & moveBits)
	}
	return 0
}

func quotient(a, b int64) int64 {
	if b == 0 {
		return -1
	}
	return a / b
}

func rest(a, b int64) int64 {
	if b == 0 {
		return a
	}
	return a % b
}

func one(yes bool) int64 {
	if yes {
		return 1
	}
	return 0
}
