package emit

import (
	"strconv"
	"strings"
)

// writer writes instructions as text, and counts them.
type writer struct {
	text   strings.Builder
	words  int
	places map[string]int // by name: how many words stand ahead of it
	asked  map[string]int // by name: how often it is reached for
	known  map[string]int // places, as they will lie, where some are too far away for a jal; nil: none is
}

// newWriter is one that has written nothing.
func newWriter(known map[string]int) *writer {
	return &writer{places: map[string]int{}, asked: map[string]int{}, known: known}
}

// lay writes instructions, and names of places, a line each.
func (w *writer) lay(lines string) {
	for _, line := range strings.Split(lines, "\n") {
		if name, ok := strings.CutSuffix(line, ":"); ok {
			w.places[name] = w.words
		} else {
			w.words++
		}
		w.text.WriteString(line + "\n")
	}
}

// register is a register's name.
func register(n int) string { return "x" + strconv.Itoa(n) }

// decimal is a number's digits.
func decimal(n int64) string { return strconv.FormatInt(n, 10) }

// lowBits are those of a number that an addi, a load, a store or a jalr has room for.
const lowBits = 12

// split takes a number apart: what a lui may have (if it is of 32 bits, that is), and what is added to it.
func split(n int64) (high, low int64) {
	low = n << (64 - lowBits) >> (64 - lowBits)
	return n - low, low
}

// wide: is this more than a lui may have?
func wide(high int64) bool { return high != int64(int32(high)) }

// number writes that a register is a number.
func (w *writer) number(reg int, n int64) {
	r := register(reg)
	high, low := split(n)
	switch {
	case high == 0:
		w.lay("addi " + r + ",x0," + decimal(low))
		return
	case wide(high):
		w.number(reg, high>>lowBits)
		w.lay("slli " + r + "," + r + "," + strconv.Itoa(lowBits))
	default:
		w.lay("lui " + r + "," + decimal(high))
	}
	if low != 0 {
		w.lay("addi " + r + "," + r + "," + decimal(low))
	}
}

// address writes that a register is a number, in as many words whatever it is (if it is of 32 bits): how many words there are is asked for ahead of where all lies.
func (w *writer) address(reg, n int) {
	high, low := split(int64(n))
	if wide(high) {
		w.number(reg, int64(n))
		return
	}
	r := register(reg)
	w.lay("lui " + r + "," + decimal(high) + "\naddi " + r + "," + r + "," + decimal(low))
}

// raise writes that a register is so much more. (Register 5 may be another one then.)
func (w *writer) raise(reg, n int) {
	r := register(reg)
	switch high, low := split(int64(n)); {
	case n == 0:
	case high == 0:
		w.lay("addi " + r + "," + r + "," + decimal(low))
	default:
		w.number(5, int64(n))
		w.lay("add " + r + "," + r + ",x5")
	}
}

// reach writes that it goes on at a place; where it came from lies in a register then. (Register 31 may be another one then.)
func (w *writer) reach(back int, place string) {
	w.asked[place]++
	if w.known == nil {
		w.lay("jal " + register(back) + "," + place)
		return
	}
	high, low := split(int64(w.known[place] * wordBytes))
	w.lay("lui x31," + decimal(high) + "\njalr " + register(back) + "," + decimal(low) + "(x31)")
}

// unless writes that it goes on at a place if register 5 is 0. (A branch does not reach far: so it leads past what does.)
func (w *writer) unless(place string) {
	past := 2 * wordBytes
	if w.known != nil {
		past += wordBytes
	}
	w.lay("bne x5,x0," + strconv.Itoa(past))
	w.reach(0, place)
}

// memory writes a load or a store of a register, so many bytes from where another one says. (Register 31 may be another one then.)
func (w *writer) memory(op string, reg, base, at int) {
	from := register(base)
	high, low := split(int64(at))
	if high != 0 {
		w.lay("lui x31," + decimal(high) + "\nadd x31,x31," + from)
		from = "x31"
	}
	w.lay(op + " " + register(reg) + "," + decimal(low) + "(" + from + ")")
}
