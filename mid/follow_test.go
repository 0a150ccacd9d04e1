package mid_test

import (
	"strings"

	"bloomery/api"
	"bloomery/mid"
)

// looksRight is 7.1, written down once more, sentence by sentence.
func looksRight(c *mid.Code) bool {
	mains := 0
	for i, f := range c.Fns {
		for k := range i {
			if c.Fns[k].Name == f.Name {
				return false
			}
		}
		if f.Name == "main" && f.Params == 0 {
			mains++
		}
		if f.Params < 0 || len(f.Types) < f.Params || len(f.Types) > 3000 || len(f.Steps) < 1 || len(f.Steps) > 6000 {
			return false
		}
		for _, t := range f.Types {
			if t != 1 && t != 2 {
				return false
			}
		}
	}
	if mains != 1 || len(c.Fns) > 12 {
		return false
	}
	for _, f := range c.Fns {
		if !stepsLookRight(c, f) {
			return false
		}
	}
	return true
}

// places is the types of a step's places, as letters: Dst, A, B, C; a dot: it has none.
func places(code int) string {
	return strings.Fields("i... x... iii. .... .i.. .... i... .i.. ai.. ia.. iai. .aii .i.. i...")[code-1]
}

// stepsLookRight is 7.1 of one function.
func stepsLookRight(c *mid.Code, f mid.Fn) bool {
	count := func(label int) (n int) {
		for _, s := range f.Steps {
			if s.Code == mid.Label && s.Label == label {
				n++
			}
		}
		return n
	}
	letter := func(place int) byte {
		if place < 0 || place >= len(f.Types) {
			return '?'
		}
		return " ia"[f.Types[place]]
	}
	for i, s := range f.Steps {
		if s.Code < 1 || s.Code > 14 || i == len(f.Steps)-1 && s.Code != mid.Jump && s.Code != mid.Ret {
			return false
		}
		form := places(s.Code)
		if s.Code == mid.Copy {
			form = string([]byte{letter(s.A), letter(s.A), '.', '.'})
		}
		for k, place := range []int{s.Dst, s.A, s.B, s.C} {
			if form[k] != '.' && (form[k] == '?' || letter(place) != form[k]) {
				return false
			}
		}
		switch s.Code {
		case mid.Jump, mid.Zero, mid.Label:
			if count(s.Label) != 1 {
				return false
			}
		case mid.Two:
			if !strings.Contains(" + - * / % == != < <= > >= ", " "+s.Op+" ") {
				return false
			}
		case mid.Call:
			if !argsLookRight(c, s, letter) {
				return false
			}
		}
	}
	return true
}

// argsLookRight is 7.1 of a call.
func argsLookRight(c *mid.Code, s mid.Step, letter func(place int) byte) bool {
	for _, f := range c.Fns {
		if f.Name != s.Name {
			continue
		}
		if len(s.Args) != f.Params {
			return false
		}
		for i, a := range s.Args {
			if letter(a) != " ia"[f.Types[i]] {
				return false
			}
		}
		return true
	}
	return false
}

// frame is one call that waits, or goes on.
type frame struct {
	fn      mid.Fn
	at      int
	numbers []int64
	lists   []*[]int64
}

// follow goes through steps in another manner than the program does: it has a list of those that wait, and looks for labels anew each time.
func follow(c *mid.Code, in []int64, fuel int) (e api.End) {
	if !looksRight(c) {
		return api.End{Way: api.Fault}
	}
	stack := []*frame{begin(c, "main")}
	for {
		top := stack[len(stack)-1]
		if fuel < 1 {
			return api.End{Way: api.Fuel, Out: e.Out}
		}
		fuel--
		s := top.fn.Steps[top.at]
		top.at++
		switch s.Code {
		case mid.Call:
			if len(stack) == api.MaxCalls {
				return api.End{Way: api.Deep, Out: e.Out}
			}
			next := begin(c, s.Name)
			for i, a := range s.Args {
				next.numbers[i], next.lists[i] = top.numbers[a], top.lists[a]
			}
			stack = append(stack, next)
		case mid.Ret:
			n := top.numbers[s.A]
			if stack = stack[:len(stack)-1]; len(stack) == 0 {
				return api.End{Way: api.Done, Code: n, Out: e.Out}
			}
			top = stack[len(stack)-1]
			top.numbers[top.fn.Steps[top.at-1].Dst] = n
		case mid.Print:
			if len(e.Out) == api.MaxPrint {
				return api.End{Way: api.Full, Out: e.Out}
			}
			e.Out = append(e.Out, top.numbers[s.A])
		case mid.Input:
			top.numbers[s.Dst] = 0
			if len(in) > 0 {
				top.numbers[s.Dst], in = in[0], in[1:]
			}
		default:
			if way := top.do(s); way != 0 {
				return api.End{Way: way, Out: e.Out}
			}
		}
	}
}

// begin is a call that begins.
func begin(c *mid.Code, name string) *frame {
	f := &frame{}
	for _, fn := range c.Fns {
		if fn.Name == name {
			f.fn = fn
		}
	}
	for range f.fn.Types {
		f.numbers, f.lists = append(f.numbers, 0), append(f.lists, new([]int64))
	}
	return f
}

// do does a step that only this call has to do with, and is the way in which it ends, if it does.
func (f *frame) do(s mid.Step) int {
	switch s.Code {
	case mid.Const:
		f.numbers[s.Dst] = s.N
	case mid.Copy:
		f.numbers[s.Dst], f.lists[s.Dst] = f.numbers[s.A], f.lists[s.A]
	case mid.Two:
		n := reckoned(s.Op, f.numbers[s.A], f.numbers[s.B])
		if n == nil {
			return api.Zero
		}
		f.numbers[s.Dst] = n.Int64()
	case mid.Jump:
		f.find(s.Label)
	case mid.Zero:
		if f.numbers[s.A] == 0 {
			f.find(s.Label)
		}
	case mid.New:
		n := f.numbers[s.A]
		if n < 0 || n > api.MaxArray {
			return api.Size
		}
		list := make([]int64, n)
		f.lists[s.Dst] = &list
	case mid.Len:
		f.numbers[s.Dst] = int64(len(*f.lists[s.A]))
	case mid.Load, mid.Store:
		list, at := *f.lists[s.A], f.numbers[s.B]
		if at < 0 || at >= int64(len(list)) {
			return api.Bounds
		}
		if s.Code == mid.Load {
			f.numbers[s.Dst] = list[at]
		} else {
			list[at] = f.numbers[s.C]
		}
	}
	return 0
}

// find goes on behind a label.
func (f *frame) find(label int) {
	for i, s := range f.fn.Steps {
		if s.Code == mid.Label && s.Label == label {
			f.at = i + 1
		}
	}
}
