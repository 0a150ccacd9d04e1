package emit

import (
	"strconv"

	"bloomery/api"
)

// Registers, by what they have all the time (all others are free, but between enter and the call x28 and x29):
//
//	x2   where the call's numbers begin, on a stack that grows down
//	x3   where the call's arrays end, in roots that grow up
//	x4   where the next array may lie, x8 where its space ends
//	x9   how many more calls may wait
//	x11  what a program tells at its end: 0, until it is Done
//	x18  where the stack may grow to, x19 where the roots may
//	x20  where the space begins that has no arrays now
//	x21  where the roots begin
//	x22  how many bytes a space has
//
// An array is where its numbers are counted; they lie behind that. One without numbers is 0, and lies nowhere.

// start writes what is done first: all is laid as it is planned (the machine says itself where the stack begins), and main is called.
func (w *writer) start(l Layout, main frame) {
	w.address(3, l.Roots)
	w.address(4, l.Space)
	w.address(8, l.Other)
	w.address(18, l.Floor)
	w.lay("addi x19,x4,0\naddi x20,x8,0\naddi x21,x3,0\nsub x22,x8,x4")
	w.number(9, api.MaxCalls)
	w.reach(7, main.name+".in")
	w.reach(1, main.name)
	w.lay("addi x11,x10,0")
	w.reach(0, "done")
}

// ending is a way to end, and what its place is called.
type ending struct {
	name string
	way  int
}

// endings are all of them, but Full, which the machine sees to.
var endings = [...]ending{
	{"done", api.Done},
	{"zero", api.Zero},
	{"bounds", api.Bounds},
	{"size", api.Size},
	{"deep", api.Deep},
	{"memory", api.Memory},
}

// part is what is shared by all who ask for it.
type part struct{ name, lines string }

// shared writes what functions share: of the parts those that were asked for. They lie beside the endings, for a branch does not reach far.
func (w *writer) shared() {
	parts := [...]part{
		{"enter", enterLines},
		{"array", "addi x6,x0," + strconv.Itoa(api.MaxArray+1) + "\n" + arrayLines + "\n" + moveLines + "\n" + roomLines},
		{"item", itemLines},
		{"quotient", quotientLines},
		{"rest", restLines},
	}
	for _, p := range parts {
		if w.asked[p.name] > 0 {
			w.lay(p.name + ":\n" + p.lines)
		}
	}
	for _, e := range endings {
		w.lay(e.name + ":\naddi x10,x0," + strconv.Itoa(e.way) + "\njal x0,end")
	}
	w.lay("end:\naddi x17,x0,3\necall")
}

// enterLines make a call ready that takes x5 bytes of the stack (at least one number's), x6 of the roots, and goes back to x7: its numbers begin at x28, its arrays end at x29, all of them 0. Nothing is written ahead of all that may be wrong.
const enterLines = `beq x9,x0,deep
addi x9,x9,-1
sub x28,x2,x5
blt x28,x18,memory
add x29,x3,x6
blt x19,x29,memory
addi x5,x2,0
enter.number:
addi x5,x5,-8
sd x0,0(x5)
bne x5,x28,enter.number
addi x6,x3,0
enter.array:
beq x6,x29,enter.end
sd x0,0(x6)
addi x6,x6,8
jal x0,enter.array
enter.end:
jalr x0,0(x7)`

// arrayLines begin an array of x5 numbers; x6 is one more than there may be. If there is no room from x4 on, what is held is moved first.
const arrayLines = `sltu x6,x5,x6
beq x6,x0,size
beq x5,x0,room.end
slli x6,x5,3
addi x6,x6,8
add x7,x4,x6
bge x8,x7,room`

// moveLines move all that the roots have into the other space, one behind the other. Where an array lay, they leave where it went, below 0: so it is not moved twice, though two have it.
const moveLines = `addi x4,x20,0
sub x20,x8,x22
add x8,x4,x22
addi x28,x21,0
move:
beq x28,x3,move.end
ld x29,0(x28)
addi x28,x28,8
beq x29,x0,move
ld x30,0(x29)
blt x30,x0,move.gone
addi x12,x29,0
slli x30,x30,3
add x13,x29,x30
sub x30,x0,x4
move.number:
ld x14,0(x12)
sd x14,0(x4)
addi x12,x12,8
addi x4,x4,8
bge x13,x12,move.number
sd x30,0(x29)
move.gone:
sub x30,x0,x30
sd x30,-8(x28)
jal x0,move
move.end:
add x7,x4,x6
blt x8,x7,memory`

// roomLines take the room from x4 to x7, which is x6 bytes, for an array of x5 numbers, all 0; x5 is that array then.
const roomLines = `room:
addi x7,x7,-8
sd x0,0(x7)
bne x7,x4,room
sd x5,0(x4)
addi x5,x4,0
add x4,x4,x6
room.end:
jalr x0,0(x1)`

// itemLines find number x6 of array x5: it lies 8 bytes behind x5 then.
const itemLines = `beq x5,x0,bounds
ld x7,0(x5)
sltu x7,x6,x7
beq x7,x0,bounds
slli x6,x6,3
add x5,x5,x6
jalr x0,0(x1)`

// Lines that divide x5 by x6.
const (
	quotientLines = `beq x6,x0,zero
div x5,x5,x6
jalr x0,0(x1)`
	restLines = `beq x6,x0,zero
rem x5,x5,x6
jalr x0,0(x1)`
)
