package asm

import (
	"iter"
	"strconv"
	"strings"

	"bloomery/api"
	"bloomery/word"
)

// registers are so many, from 0 on.
const registers = 32

// draft is an instruction as its line tells it: if it names a PLACE, its N is not known yet.
type draft struct {
	inst  api.Inst
	place string
	line  int
}

// Assemble reads a text, line by line, and tells its instructions: where a place's name stands, how far that is away. An At at the line, from 0 on: ErrForm; ErrTwice: a place is called as another one; then ErrMissing: there is no such place; ErrRange: an instruction may not be.
func Assemble(s string) ([]api.Inst, error) {
	var drafts []draft
	places := map[string]int{}
	for at, line := range lines(s) {
		if line == "" {
			continue
		}
		if name, ok := strings.CutSuffix(line, ":"); ok {
			if fault := mark(places, name, len(drafts)); fault != api.OK {
				return nil, &api.At{Err: fault, Place: at}
			}
			continue
		}
		d, ok := read(line)
		if !ok {
			return nil, &api.At{Err: api.ErrForm, Place: at}
		}
		d.line = at
		drafts = append(drafts, d)
	}
	return finish(drafts, places)
}

// mark notes which instruction a PLACE is.
func mark(places map[string]int, name string, next int) api.Errno {
	if !Name(name) {
		return api.ErrForm
	}
	if _, known := places[name]; known {
		return api.ErrTwice
	}
	places[name] = next
	return api.OK
}

// lines are a text's lines, with their numbers, without blanks at both ends.
func lines(s string) iter.Seq2[int, string] {
	return func(yield func(int, string) bool) {
		line, rest, more := strings.Cut(s, "\n")
		for at := 0; yield(at, strings.Trim(line, " ")) && more; at++ {
			line, rest, more = strings.Cut(rest, "\n")
		}
	}
}

// finish tells the drafts' instructions, now that all places are known.
func finish(drafts []draft, places map[string]int) ([]api.Inst, error) {
	list := make([]api.Inst, 0, len(drafts))
	for i, d := range drafts {
		x := d.inst
		if d.place != "" {
			at, ok := places[d.place]
			if !ok {
				return nil, &api.At{Err: api.ErrMissing, Place: d.line}
			}
			x.N = 4 * int64(at-i)
		}
		if !word.Right(x) {
			return nil, &api.At{Err: api.ErrRange, Place: d.line}
		}
		list = append(list, x)
	}
	return list, nil
}

// read reads an instruction, as Print writes it, if it is of that form; whether its N may be is asked later, when all places are known.
func read(line string) (draft, bool) {
	name, rest, _ := strings.Cut(line, " ")
	d := draft{inst: api.Inst{Op: opOf(name)}}
	if d.inst.Op == 0 {
		return d, false
	}
	parts := ops[d.inst.Op].parts
	rest = strings.TrimLeft(rest, " ")
	for i := range len(parts) {
		part, behind, more := strings.Cut(rest, ",")
		if more != (i+1 < len(parts)) || !d.take(parts[i], part) {
			return d, false
		}
		rest = behind
	}
	return d, rest == ""
}

// opOf is the op that is called so; 0: none is.
func opOf(name string) int {
	for i := api.Add; i <= api.Ecall; i++ {
		if ops[i].name == name {
			return i
		}
	}
	return 0
}

// take reads one part, if it is of its form.
func (d *draft) take(kind byte, part string) bool {
	switch kind {
	case partRd:
		return readRegister(part, &d.inst.Rd)
	case partRa:
		return readRegister(part, &d.inst.Ra)
	case partRb:
		return readRegister(part, &d.inst.Rb)
	case partNRa:
		n, behind, _ := strings.Cut(part, "(")
		r, closed := strings.CutSuffix(behind, ")")
		return closed && readNumber(n, &d.inst.N) && readRegister(r, &d.inst.Ra)
	case partPlace:
		if Name(part) {
			d.place = part
			return true
		}
	}
	return readNumber(part, &d.inst.N)
}

// readRegister reads a register. One that is none Print never writes, so it is a fault of form, told ahead of whatever is asked of a whole text; an N beyond what may be is not, for numbers are read at their full width.
func readRegister(s string, r *int) bool {
	digits, ok := strings.CutPrefix(s, "x")
	var n int64
	if !ok || !readNumber(digits, &n) || n < 0 || n >= registers {
		return false
	}
	*r = int(n)
	return true
}

// readNumber reads a number of 64 bits, if it is written as it must be.
func readNumber(s string, n *int64) bool {
	v, err := strconv.ParseInt(s, 10, 64)
	if err != nil || strconv.FormatInt(v, 10) != s {
		return false
	}
	*n = v
	return true
}
