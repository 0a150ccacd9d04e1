// Package word: instructions as words of 32 bits.
package word

import (
	"bloomery/api"
)

// Kinds of instructions, by what their words have room for.
const (
	kindR = iota
	kindI
	kindH
	kindS
	kindB
	kindU
	kindJ
	kindE
	kinds
)

// form is what every word of an op has: its kind, and bits that say which op it is.
type form struct {
	kind, low, mid, high uint8
}

// forms of the ops, by their numbers; no op has number 0.
var forms = [api.Ecall + 1]form{
	api.Add:   {kindR, 0x33, 0, 0},
	api.Sub:   {kindR, 0x33, 0, 0x20},
	api.Mul:   {kindR, 0x33, 0, 1},
	api.Div:   {kindR, 0x33, 4, 1},
	api.Rem:   {kindR, 0x33, 6, 1},
	api.And:   {kindR, 0x33, 7, 0},
	api.Orr:   {kindR, 0x33, 6, 0},
	api.Xor:   {kindR, 0x33, 4, 0},
	api.Slt:   {kindR, 0x33, 2, 0},
	api.Sltu:  {kindR, 0x33, 3, 0},
	api.Sll:   {kindR, 0x33, 1, 0},
	api.Srl:   {kindR, 0x33, 5, 0},
	api.Sra:   {kindR, 0x33, 5, 0x20},
	api.Addi:  {kindI, 0x13, 0, 0},
	api.Andi:  {kindI, 0x13, 7, 0},
	api.Ori:   {kindI, 0x13, 6, 0},
	api.Xori:  {kindI, 0x13, 4, 0},
	api.Slti:  {kindI, 0x13, 2, 0},
	api.Slli:  {kindH, 0x13, 1, 0},
	api.Srli:  {kindH, 0x13, 5, 0},
	api.Srai:  {kindH, 0x13, 5, 0x20},
	api.Ld:    {kindI, 0x03, 3, 0},
	api.Jalr:  {kindI, 0x67, 0, 0},
	api.Sd:    {kindS, 0x23, 3, 0},
	api.Beq:   {kindB, 0x63, 0, 0},
	api.Bne:   {kindB, 0x63, 1, 0},
	api.Blt:   {kindB, 0x63, 4, 0},
	api.Bge:   {kindB, 0x63, 5, 0},
	api.Lui:   {kindU, 0x37, 0, 0},
	api.Jal:   {kindJ, 0x6f, 0, 0},
	api.Ecall: {kindE, 0x73, 0, 0},
}

// move is count bits of a number, from one place on, that lie in a word from another place on.
type move struct {
	from, to, count uint8
}

// shape is what the words of a kind have room for: registers, and a number of width bits (the last one its sign, if
// signed), whose lowest bits, as many as zeros, are 0 and have no place in the word. The bits of fixed are the op's.
type shape struct {
	rd, ra, rb   bool
	signed       bool
	width, zeros uint8
	fixed        uint32
	moves        [4]move
}

// shapes of the kinds; a move of no bits does nothing.
var shapes = [kinds]shape{
	kindR: {rd: true, ra: true, rb: true, fixed: 0xfe00707f},
	kindI: {rd: true, ra: true, signed: true, width: 12, fixed: 0x707f, moves: [4]move{{0, 20, 12}}},
	kindH: {rd: true, ra: true, width: 6, fixed: 0xfc00707f, moves: [4]move{{0, 20, 6}}},
	kindS: {ra: true, rb: true, signed: true, width: 12, fixed: 0x707f, moves: [4]move{{0, 7, 5}, {5, 25, 7}}},
	kindB: {ra: true, rb: true, signed: true, width: 13, zeros: 1, fixed: 0x707f,
		moves: [4]move{{11, 7, 1}, {1, 8, 4}, {5, 25, 6}, {12, 31, 1}}},
	kindU: {rd: true, signed: true, width: 32, zeros: 12, fixed: 0x7f, moves: [4]move{{12, 12, 20}}},
	kindJ: {rd: true, signed: true, width: 21, zeros: 1, fixed: 0x7f,
		moves: [4]move{{12, 12, 8}, {11, 20, 1}, {1, 21, 10}, {20, 31, 1}}},
	kindE: {fixed: 0xffffffff},
}

// Right says whether an instruction may be: registers from 0 to 31, a number that its word has room for; all that it has not zero.
func Right(x api.Inst) bool {
	if x.Op < api.Add || x.Op > api.Ecall {
		return false
	}
	s := shapes[forms[x.Op].kind]
	return registerFits(x.Rd, s.rd) && registerFits(x.Ra, s.ra) && registerFits(x.Rb, s.rb) && numberFits(x.N, s)
}

// Encode is an instruction's word. ErrArg: it may not be.
func Encode(x api.Inst) (uint32, error) {
	if !Right(x) {
		return 0, api.ErrArg
	}
	f := forms[x.Op]
	// What a kind has not is 0 in an instruction that is Right, and leaves its bits to others.
	registers := uint32(x.Rd)<<7 | uint32(x.Ra)<<15 | uint32(x.Rb)<<20
	return opBits(f) | registers | spread(x.N, shapes[f.kind]), nil
}

// Decode is the instruction of which Encode tells just this word. ErrForm: there is none.
func Decode(w uint32) (api.Inst, error) {
	for op := api.Add; op <= api.Ecall; op++ {
		f := forms[op]
		s := shapes[f.kind]
		if w&s.fixed == opBits(f) {
			return takeApart(op, w, s), nil
		}
	}
	return api.Inst{}, api.ErrForm
}

func registerFits(r int, has bool) bool {
	return r == 0 || has && r > 0 && r < 32
}

func numberFits(n int64, s shape) bool {
	least, end := int64(0), int64(1)<<s.width
	if s.signed {
		end /= 2
		least = -end
	}
	return n >= least && n < end && n&ones(s.zeros) == 0
}

// ones is a number whose lowest bits, so many, are 1.
func ones(count uint8) int64 {
	return 1<<count - 1
}

func opBits(f form) uint32 {
	return uint32(f.low) | uint32(f.mid)<<12 | uint32(f.high)<<25
}

// spread lays a number's bits where they are in a word.
func spread(n int64, s shape) uint32 {
	w := uint32(0)
	for _, m := range s.moves {
		w |= uint32((n>>m.from)&ones(m.count)) << m.to
	}
	return w
}

// gather is the number that spread laid into a word.
func gather(w uint32, s shape) int64 {
	n := int64(0)
	for _, m := range s.moves {
		n |= ((int64(w) >> m.to) & ones(m.count)) << m.from
	}
	if s.signed && n>>(s.width-1) != 0 {
		n -= 1 << s.width
	}
	return n
}

// takeApart reads what is not fixed in a word of this op.
func takeApart(op int, w uint32, s shape) api.Inst {
	return api.Inst{
		Op: op,
		Rd: register(w, 7, s.rd),
		Ra: register(w, 15, s.ra),
		Rb: register(w, 20, s.rb),
		N:  gather(w, s),
	}
}

func register(w uint32, at uint8, has bool) int {
	if !has {
		return 0
	}
	return int((w >> at) & 31)
}
