package desk

import (
	"math"
	"strconv"
	"strings"

	"bloomery/api"
	"bloomery/asm"
	"bloomery/build"
	"bloomery/check"
	"bloomery/machine"
	"bloomery/run"
	"bloomery/tree"
	"bloomery/word"
)

// firstWords are those that a line may begin with.
const firstWords = "asm check code go help new print regs run same word"

// How far a program is gone through, and a machine of how many bytes goes on with its words.
const (
	runFuel = 2000
	goFuel  = 400_000
	goBytes = 32768
)

// The machine of regs: its registers are told, but the one that says from its beginning on how many bytes there are.
const (
	regsFuel  = 1000
	regsBytes = 1024
	registers = 32
	untold    = 2
)

// renew makes words the program.
func (s *session) renew(words []string) string {
	s.program = joined(words)
	return "new"
}

// read is the program's functions.
func (s *session) read() []api.Func { return need(tree.Parse(s.program)) }

// sound is the program's functions, if nothing is found of them.
func (s *session) sound() []api.Func {
	l := s.read()
	must(check.Check(l))
	return l
}

// check tells how many functions there are.
func (s *session) check(words []string) string {
	none(words)
	return "check" + list(int64(len(s.sound())))
}

// print tells the program as it is written.
func (s *session) print(words []string) string {
	none(words)
	return "print " + strings.ReplaceAll(tree.Print(s.read()), "\n", bar)
}

// meant is how the program is meant to end.
func (s *session) meant(in []int64) string { return end(run.Run(s.sound(), in, runFuel)) }

// made is how a machine with the program's words ends.
func (s *session) made(in []int64, fewer bool) string {
	words := need(build.Words(s.program, fewer, goBytes))
	return end(need(machine.New(words, goBytes, in)).Run(goFuel))
}

// run tells how the program is meant to end.
func (s *session) run(words []string) string { return "run" + s.meant(numbers(words)) }

// goes tells how a machine ends that does the program.
func (s *session) goes(words []string) string { return "go" + s.made(numbers(words), true) }

// same tells whether machines end as the program is meant to.
func (s *session) same(words []string) string {
	in := numbers(words)
	want := s.meant(in)
	told := "same"
	for _, fewer := range [...]bool{false, true} {
		told += " " + strconv.FormatBool(s.made(in, fewer) == want)
	}
	return told
}

// code tells whether fewer steps are no more.
func (s *session) code(words []string) string {
	none(words)
	all := need(build.Steps(s.program, false))
	few := need(build.Steps(s.program, true))
	return "code " + strconv.FormatBool(few.Steps() <= all.Steps())
}

// assembled are the words of a machine that a text of instructions stands for.
func assembled(words []string) []uint32 {
	return need(asm.Words(need(asm.Assemble(textOf(words)))))
}

// asm tells the words of instructions.
func (s *session) asm(words []string) string {
	var l []int64
	for _, w := range assembled(words) {
		l = append(l, int64(w))
	}
	return "asm" + list(l...)
}

// word tells a word's instruction.
func (s *session) word(words []string) string {
	l := numbers(words)
	if len(l) != 1 {
		panic(api.ErrForm)
	}
	if l[0] < 0 || l[0] > math.MaxUint32 {
		panic(api.ErrRange)
	}
	return "word " + need(asm.Print(need(word.Decode(uint32(l[0])))))
}

// regs tells how a machine ends that does instructions, and what its registers have then.
func (s *session) regs(words []string) string {
	m := need(machine.New(assembled(words), regsBytes, []int64{7, 8}))
	told := "regs" + end(m.Run(regsFuel))
	for r := range registers {
		if v := m.Reg(r); r != untold && v != 0 {
			told += " x" + strconv.Itoa(r) + "=" + strconv.FormatInt(v, 10)
		}
	}
	return told
}

// help tells what a line may begin with.
func (s *session) help(words []string) string {
	none(words)
	return firstWords
}
