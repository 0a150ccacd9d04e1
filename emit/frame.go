package emit

import (
	"strconv"

	"bloomery/api"
	"bloomery/mid"
)

// area is where a call's places of one type lie: by which register of its own, by which register while it is made ready, how far from there the next one lies, and how far one more is away.
type area struct{ own, ready, next, step int }

// areas are those of each type. Arrays lie apart from numbers, so that the mover finds nothing but arrays; numbers lie above where the call goes back to.
func areas() map[int]area {
	return map[int]area{
		api.Int: {own: 2, ready: 28, next: numberBytes, step: numberBytes},
		api.Arr: {own: 3, ready: 29, next: -numberBytes, step: -numberBytes},
	}
}

// slot is where a place lies: by the registers of its area, and how far from there.
type slot struct{ own, ready, at int }

// frame is where all places of a call of a function lie.
type frame struct {
	name  string       // of the function's place
	slots map[int]slot // by place
	areas map[int]area // by type
}

// framed lays the places of a function: its parameters, and those that a step has. (Nobody asks for others: they take no room.)
func framed(number int, f *mid.Fn) frame {
	r := frame{name: "f" + strconv.Itoa(number), slots: map[int]slot{}, areas: areas()}
	lay := func(place int) {
		if _, there := r.slots[place]; there {
			return
		}
		kind := f.Types[place]
		a := r.areas[kind]
		r.slots[place] = slot{own: a.own, ready: a.ready, at: a.next}
		a.next += a.step
		r.areas[kind] = a
	}
	for place := range f.Params {
		lay(place)
	}
	for i := range f.Steps {
		each(&f.Steps[i], lay)
	}
	return r
}

// numbers is how many bytes a call takes on the stack.
func (r frame) numbers() int { return r.areas[api.Int].next }

// arrays is how many bytes a call takes of the roots.
func (r frame) arrays() int { return -r.areas[api.Arr].next - numberBytes }

// form is which places a step has.
type form struct{ dst, a, b, c bool }

// forms are those of all steps, by their codes. (A Call's Args are looked at apart.)
var forms = [...]form{
	mid.Const: {dst: true},
	mid.Copy:  {dst: true, a: true},
	mid.Two:   {dst: true, a: true, b: true},
	mid.Jump:  {},
	mid.Zero:  {a: true},
	mid.Label: {},
	mid.Call:  {dst: true},
	mid.Ret:   {a: true},
	mid.New:   {dst: true, a: true},
	mid.Len:   {dst: true, a: true},
	mid.Load:  {dst: true, a: true, b: true},
	mid.Store: {a: true, b: true, c: true},
	mid.Print: {a: true},
	mid.Input: {dst: true},
}

// each looks at each place that a step has.
func each(s *mid.Step, look func(place int)) {
	m := forms[s.Code]
	if m.dst {
		look(s.Dst)
	}
	if m.a {
		look(s.A)
	}
	if m.b {
		look(s.B)
	}
	if m.c {
		look(s.C)
	}
	if s.Code == mid.Call {
		for _, place := range s.Args {
			look(place)
		}
	}
}
