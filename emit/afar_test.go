package emit_test

import (
	"fmt"
	"slices"
	"strings"
	"testing"

	"bloomery/api"
	"bloomery/emit"
	"bloomery/fold"
	"bloomery/machine"
	"bloomery/mid"
	"bloomery/plain"
	"bloomery/run"
)

// great is a machine (2), given nothing, that may have more bytes than a machine has, so that programs can be done that are too long for any: its words are nowhere but in a list, and memory is what was written.
type great struct {
	list   []api.Inst
	reg    [32]int64
	memory map[int64]int64
	pc     int64
	end    api.End
}

// step does an instruction.
func (g *great) step(t *testing.T) {
	t.Helper()
	i := g.list[g.pc/4]
	a, b, next := g.reg[i.Ra], g.reg[i.Rb], g.pc+4
	goes := map[int]bool{api.Jal: true, api.Beq: a == b, api.Bne: a != b, api.Blt: a < b, api.Bge: a >= b}
	switch {
	case i.Op <= api.Sra:
		g.reg[i.Rd] = machine.Alu(i.Op, a, b)
	case i.Op <= api.Srai:
		g.reg[i.Rd] = machine.Alu(i.Op, a, i.N)
	case i.Op == api.Ld:
		g.reg[i.Rd] = g.memory[a+i.N]
	case i.Op == api.Sd:
		g.memory[a+i.N] = b
	case i.Op == api.Lui:
		g.reg[i.Rd] = i.N
	case i.Op == api.Jalr:
		g.reg[i.Rd], next = next, a+i.N
	case i.Op == api.Ecall && g.reg[17] == 1:
		g.end.Out = append(g.end.Out, g.reg[10])
	case i.Op == api.Ecall && g.reg[17] == 2:
		g.reg[10] = 0
	case i.Op == api.Ecall && g.reg[17] == 3:
		g.end.Way, g.end.Code = int(g.reg[10]), g.reg[11]
	case i.Op == api.Ecall:
		t.Fatalf("it asks for %d", g.reg[17])
	case goes[i.Op]:
		g.reg[i.Rd], next = next, g.pc+i.N
	}
	g.reg[0], g.pc = 0, next
}

// done is how a text's instructions end that are too many for a machine.
func done(t *testing.T, what, text string, l emit.Layout) string {
	t.Helper()
	g := &great{list: assembled(t, what, text), memory: map[int64]int64{}}
	g.reg[2] = int64(l.Bytes)
	for n := 0; g.end.Way == 0; n++ {
		if n > 100_000 || g.pc < 0 || g.pc >= int64(len(g.list))*4 {
			t.Fatalf("%s: after %d steps it is at %d of %d words", what, n, g.pc, len(g.list))
		}
		g.step(t)
	}
	return tell(g.end)
}

// beyond is a layout for so many bytes of words, however many that are.
func beyond(code int) emit.Layout {
	l := emit.Layout{Code: code, Roots: code}
	l.Space = l.Roots + 2000
	l.Other = l.Space + 3000
	l.Floor = l.Other + 3000
	l.Bytes = l.Floor + 8000
	return l
}

// 9.1: ErrLimit is never told of Lower's steps, also of programs that were put together: such that no machine has room for them. Functions that are far away from one another, and from what they share, are reached.
func TestAfar(t *testing.T) {
	const functions, filler = 6, 5900
	c := &mid.Code{}
	for i := range functions {
		f := mid.Fn{Name: fmt.Sprint("f", i), Params: 2, Types: []int{api.Int, api.Arr, api.Int, api.Int, api.Arr}}
		f.Steps = slices.Concat(steps(show(0), zero(0, 2), jump(1)), slices.Repeat(steps(num(3, 0x123456789abcdef)), filler), steps(
			label(1), num(2, 3), two(3, 0, "/", 2), show(3), two(3, 0, "%", 2), show(3), array(4, 0), load(3, 1, 2), two(3, 3, "+", 0), store(1, 2, 3),
			num(2, 1), two(2, 0, "-", 2), call(3, fmt.Sprint("f", (i+4)%functions), 2, 1), length(2, 4), two(3, 3, "+", 2), ret(3), label(2), num(3, 3), load(3, 1, 3), ret(3),
		))
		c.Fns = append(c.Fns, f)
	}
	c.Fns = append(c.Fns, mid.Fn{Name: "main", Types: mainTypes(), Steps: steps(num(x, 4), array(v, x), num(x, 20), call(y, "f1", x, v), ret(y))})
	want := c.Run(nil, road)
	if want.Way != api.Done || len(want.Out) != 61 {
		t.Fatalf("steps end %s", tell(want))
	}
	s := text(t, "far away", c, beyond(1<<24))
	if n := strings.Count(s, "\n"); n < emit.NearWords {
		t.Fatalf("only %d lines", n)
	}
	if got := done(t, "far away", s, beyond(1<<24)); got != tell(want) {
		t.Errorf("far away: steps end %s, words %s", tell(want), got)
	}
	// Where all is near, the same is done.
	for i := range functions {
		c.Fns[i].Steps = slices.Delete(c.Fns[i].Steps, 3, filler-100)
	}
	ends(t, "near", c, tell(want))
}

// filled is a program of just so many words in all, or in main alone, as it is counted: main goes to its end, back to its beginning, and tells 7; what lies between is never done.
func filled(t *testing.T, size func(c *mid.Code) int, words int) *mid.Code {
	t.Helper()
	long := call(0, "f", make([]int, 100)...)
	other := mid.Fn{Name: "f", Params: 100, Types: numbers(100), Steps: append(slices.Repeat(steps(long), 600), ret(0))}
	of := func(longs, shows, copies int) *mid.Code {
		between := slices.Concat(slices.Repeat(steps(long), longs), slices.Repeat(steps(show(0)), shows), slices.Repeat(steps(copied(0, 0)), copies))
		l := slices.Concat(steps(jump(2), label(1), num(1, 7), show(1), ret(1)), between, steps(label(2), jump(1)))
		return &mid.Code{Fns: []mid.Fn{{Name: "main", Types: numbers(2), Steps: l}, other}}
	}
	none := size(of(0, 0, 0))
	each := size(of(1, 0, 0)) - none
	// A Print takes three words, a Copy two: so any number of them is taken, but one.
	longs := (words - none - 2) / each
	rest := words - none - longs*each
	c := of(longs, rest%2, (rest-rest%2*3)/2)
	if !c.Right() {
		t.Fatalf("%d words take %d steps", words, c.Steps())
	}
	return c
}

// lines is how many instructions a text has from one place on to another.
func lines(t *testing.T, s, from, to string) int {
	t.Helper()
	_, s, ok := strings.Cut(s, from)
	s, _, also := strings.Cut(s, to)
	if !ok || !also {
		t.Fatalf("there is no %q, or no %q behind it", from, to)
	}
	return strings.Count(s, "\n") - strings.Count(s, ":\n")
}

// 9.1: a whole program of as many words as a jal reaches over, and of one more.
func TestReach(t *testing.T) {
	size := func(c *mid.Code) int {
		s, err := emit.Text(c, beyond(1<<24))
		if err != nil {
			t.Fatalf("Text tells %v", err)
		}
		return len(assembled(t, "reach", s))
	}
	for _, words := range []int{emit.NearWords - 1, emit.NearWords} {
		c := filled(t, size, words)
		s := text(t, "reach", c, beyond(1<<24))
		if n := len(assembled(t, "reach", s)); n != words || strings.Contains(s, "x31") {
			t.Errorf("%d words, not %d, are told, or more than a jal must reach them", n, words)
		}
		if got := done(t, "reach", s, beyond(1<<24)); got != "Done 7 [7]" {
			t.Errorf("%d words end %s", words, got)
		}
		// One more.
		main := &c.Fns[0]
		main.Steps = slices.Insert(main.Steps, 1, jump(2))
		s = text(t, "beyond reach", c, beyond(1<<24))
		if far := strings.Contains(s, "x31"); far != (words == emit.NearWords) {
			t.Errorf("of one word more than %d: are they reached from afar? %v", words, far)
		}
		if got := done(t, "beyond reach", s, beyond(1<<24)); got != "Done 7 [7]" {
			t.Errorf("one word more than %d ends %s", words, got)
		}
	}
}

// 9.1: ErrLimit: a function needs too much room: more than Lower ever tells.
func TestTooLong(t *testing.T) {
	size := func(c *mid.Code) int {
		s, _ := emit.FromAfar(c, beyond(1<<24))
		return lines(t, s, "f0.in:\n", "f1.in:\n")
	}
	c := filled(t, size, emit.MostWords)
	if n := size(c); n != emit.MostWords {
		t.Errorf("main has %d words, not %d", n, emit.MostWords)
	}
	if got := done(t, "a long function", text(t, "a long function", c, beyond(1<<24)), beyond(1<<24)); got != "Done 7 [7]" {
		t.Errorf("a long function ends %s", got)
	}
	tooLong := func(what string, c *mid.Code) {
		t.Helper()
		s, err := emit.Text(c, beyond(1<<24))
		if e, at := plain.Place(err); s != "" || e != api.ErrLimit || at != -1 {
			t.Errorf("%s: Text tells %d bytes, error %d at %d; no text and ErrLimit are asked", what, len(s), e, at)
		}
	}
	for _, more := range []int{1, 100_000} {
		tooLong(fmt.Sprint(more, " words too many"), filled(t, size, emit.MostWords+more))
	}
	// As much as may be Right: it ends soon.
	f := mid.Fn{Params: 3000, Types: numbers(3000), Steps: append(slices.Repeat(steps(call(0, "f1", make([]int, 3000)...)), 5999), ret(0))}
	all := &mid.Code{}
	for i := range api.MaxFuncs {
		f.Name = fmt.Sprint("f", i)
		all.Fns = append(all.Fns, f)
	}
	all.Fns[0].Name, all.Fns[0].Params = "main", 0
	tooLong("the greatest functions", all)
}

// 9.1: ErrLimit is never told of Lower's steps: not of a function that was put together, either, of parts that lie deeper in each other than Parse tells, and that needs as much room as its steps may.
func TestPutTogether(t *testing.T) {
	l := parse(t, "fn main() { print 1 - 2; var a = 1; var b = 2; var c = 3; var d = 4; var e = 5; var f = 6; var g = 7; var h = 8; var i = 9; var j = 10; var k = 11; var l = input(); "+
		"if (l) { g(a, b, c, d, e, f, g, h, i, j, k, l); } return g(a, b, c, d, e, f, g, h, i, j, k, l); } "+
		"fn g(a: int, b: int, c: int, d: int, e: int, f: int, g: int, h: int, i: int, j: int, k: int, l: int) { return a - b * c - d * e - f * g - h * i - j * k - l; }")
	body := l[0].Body
	for range 300 {
		deeper := *body[0].Value
		deeper.Right = body[0].Value
		body[0].Value = &deeper
	}
	then := &body[len(body)-2].Then
	*then = slices.Repeat(*then, 5200)
	c, err := mid.Lower(l)
	if err != nil || !c.Right() {
		t.Fatalf("Lower tells %v, %d steps", err, c.Steps())
	}
	want := run.Run(l, nil, road)
	if want.Way != api.Done || want.Code == 0 {
		t.Fatalf("it ends %s", tell(want))
	}
	less, err := fold.Fold(c)
	if err != nil {
		t.Fatalf("Fold tells %v", err)
	}
	for _, c := range []*mid.Code{c, less} {
		s := text(t, "put together", c, beyond(1<<24))
		if n := lines(t, s, "f0.in:\n", "f1.in:\n"); n > 6000*80 || c != less && n < emit.NearWords {
			t.Errorf("main has %d words", n)
		}
		if got := done(t, "put together", s, beyond(1<<24)); got != tell(want) {
			t.Errorf("it ends %s, words %s", tell(want), got)
		}
	}
}
