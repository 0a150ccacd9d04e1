package emit

import (
	"strconv"
	"strings"

	"bloomery/mid"
)

// program writes a whole program; false, if a function is too long.
func program(c *mid.Code, l Layout, known map[string]int) (*writer, bool) {
	frames := map[string]frame{}
	for i := range c.Fns {
		frames[c.Fns[i].Name] = framed(i, &c.Fns[i])
	}
	w := newWriter(known)
	w.start(l, frames["main"])
	for i := range c.Fns {
		if !w.function(&c.Fns[i], frames) {
			return w, false
		}
	}
	w.shared()
	return w, true
}

// function writes a function: where room is made for a call of it, its steps, and where it goes back. False, if it is too long.
func (w *writer) function(f *mid.Fn, frames map[string]frame) bool {
	before, own := w.words, frames[f.Name]
	w.lay(own.name + ".in:")
	w.number(5, int64(own.numbers()))
	w.number(6, int64(own.arrays()))
	w.reach(0, "enter")
	w.lay(own.name + ":\nsd x1,0(x28)\naddi x2,x28,0\naddi x3,x29,0")
	write := w.steps(own, frames)
	for i := range f.Steps {
		write[f.Steps[i].Code](&f.Steps[i])
		if w.words-before > mostWords {
			return false
		}
	}
	w.lay(own.name + ".out:\nld x1,0(x2)")
	w.raise(2, own.numbers())
	w.raise(3, -own.arrays())
	w.lay("addi x9,x9,1\njalr x0,0(x1)")
	return w.words-before <= mostWords
}

// steps are what writes each step of a function, by its code.
func (w *writer) steps(own frame, frames map[string]frame) [mid.Input + 1]func(s *mid.Step) {
	load := func(reg, place int) { w.memory("ld", reg, own.slots[place].own, own.slots[place].at) }
	save := func(reg, place int) { w.memory("sd", reg, own.slots[place].own, own.slots[place].at) }
	label := func(s *mid.Step) string { return own.name + "." + strings.Replace(strconv.Itoa(s.Label), "-", "m", 1) }
	find := func(s *mid.Step) {
		load(5, s.A)
		load(6, s.B)
		w.reach(1, "item")
	}
	return [...]func(s *mid.Step){
		mid.Const: func(s *mid.Step) { w.number(5, s.N); save(5, s.Dst) },
		mid.Copy:  func(s *mid.Step) { load(5, s.A); save(5, s.Dst) },
		mid.Two:   func(s *mid.Step) { load(5, s.A); load(6, s.B); w.two(s.Op); save(5, s.Dst) },
		mid.Jump:  func(s *mid.Step) { w.reach(0, label(s)) },
		mid.Zero:  func(s *mid.Step) { load(5, s.A); w.unless(label(s)) },
		mid.Label: func(s *mid.Step) { w.lay(label(s) + ":") },
		mid.Call: func(s *mid.Step) {
			theirs := frames[s.Name]
			w.reach(7, theirs.name+".in")
			for i, place := range s.Args {
				load(5, place)
				w.memory("sd", 5, theirs.slots[i].ready, theirs.slots[i].at)
			}
			w.reach(1, theirs.name)
			save(10, s.Dst)
		},
		mid.Ret:   func(s *mid.Step) { load(10, s.A); w.reach(0, own.name+".out") },
		mid.New:   func(s *mid.Step) { load(5, s.A); w.reach(1, "array"); save(5, s.Dst) },
		mid.Len:   func(s *mid.Step) { load(5, s.A); w.lay("beq x5,x0,8\nld x5,0(x5)"); save(5, s.Dst) },
		mid.Load:  func(s *mid.Step) { find(s); w.lay("ld x5,8(x5)"); save(5, s.Dst) },
		mid.Store: func(s *mid.Step) { find(s); load(6, s.C); w.lay("sd x6,8(x5)") },
		mid.Print: func(s *mid.Step) { load(10, s.A); w.lay("addi x17,x0,1\necall") },
		mid.Input: func(s *mid.Step) { w.lay("addi x17,x0,2\necall"); save(10, s.Dst) },
	}
}

// mark is how a mark of two is reckoned, of registers 5 and 6 into 5: by instructions, or by a part that is shared.
type mark struct{ op, lines, part string }

// marks are all of them.
var marks = [...]mark{
	{op: "+", lines: "add x5,x5,x6"},
	{op: "-", lines: "sub x5,x5,x6"},
	{op: "*", lines: "mul x5,x5,x6"},
	{op: "/", part: "quotient"},
	{op: "%", part: "rest"},
	{op: "==", lines: "sub x5,x5,x6\nsltu x5,x0,x5\nxori x5,x5,1"},
	{op: "!=", lines: "sub x5,x5,x6\nsltu x5,x0,x5"},
	{op: "<", lines: "slt x5,x5,x6"},
	{op: "<=", lines: "slt x5,x6,x5\nxori x5,x5,1"},
	{op: ">", lines: "slt x5,x6,x5"},
	{op: ">=", lines: "slt x5,x5,x6\nxori x5,x5,1"},
}

// two writes a mark of two.
func (w *writer) two(op string) {
	for _, m := range marks {
		if m.op != op {
			continue
		}
		if m.part != "" {
			w.reach(1, m.part)
		} else {
			w.lay(m.lines)
		}
	}
}
