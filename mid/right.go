package mid

import "bloomery/api"

// Bounds of a function.
const (
	maxPlaces = 3000
	maxSteps  = 6000
)

// marks are those that Two may have.
var marks = [...]string{"+", "-", "*", "/", "%", "==", "!=", "<", "<=", ">", ">="}

// form is what a step has: the types of its places (0: it has none there), and whether it goes to its Label.
type form struct {
	dst, a, b, c int
	goes         bool
}

// forms are those of all steps, by their codes. (Places that may be of either type, Copy's and a Call's Args, are looked at apart.)
var forms = [...]form{
	Const: {dst: api.Int},
	Copy:  {},
	Two:   {dst: api.Int, a: api.Int, b: api.Int},
	Jump:  {goes: true},
	Zero:  {a: api.Int, goes: true},
	Label: {},
	Call:  {dst: api.Int},
	Ret:   {a: api.Int},
	New:   {dst: api.Arr, a: api.Int},
	Len:   {dst: api.Int, a: api.Arr},
	Load:  {dst: api.Int, a: api.Arr, b: api.Int},
	Store: {a: api.Arr, b: api.Int, c: api.Int},
	Print: {a: api.Int},
	Input: {dst: api.Int},
}

// Right says whether steps may be a program: functions none called as another one, one of them main without parameters; steps whose places are there, and of the types that they must be; labels that are there, none twice; the last step goes elsewhere, or tells.
func (c *Code) Right() bool {
	if c == nil || len(c.Fns) > api.MaxFuncs {
		return false
	}
	fns := c.byName()
	main := fns["main"]
	if len(fns) < len(c.Fns) || main == nil || main.Params != 0 {
		return false
	}
	// All of the places first: a call looks at those of another function.
	for i := range c.Fns {
		if !c.Fns[i].places() {
			return false
		}
	}
	for i := range c.Fns {
		if !c.Fns[i].right(fns) {
			return false
		}
	}
	return true
}

// places: may a function have the places that it has?
func (f *Fn) places() bool {
	if f.Params < 0 || f.Params > len(f.Types) || len(f.Types) > maxPlaces {
		return false
	}
	for _, t := range f.Types {
		if t != api.Int && t != api.Arr {
			return false
		}
	}
	return true
}

// right: may a function have the steps that it has, among all functions?
func (f *Fn) right(fns map[string]*Fn) bool {
	n := len(f.Steps)
	if n < 1 || n > maxSteps || f.Steps[n-1].Code != Ret && f.Steps[n-1].Code != Jump {
		return false
	}
	labels, ok := f.labels()
	if !ok {
		return false
	}
	for i := range f.Steps {
		if !f.step(&f.Steps[i], labels, fns) {
			return false
		}
	}
	return true
}

// labels is which step each Label is, and whether none is there twice.
func (f *Fn) labels() (labels map[int]int, ok bool) {
	labels = map[int]int{}
	for i, s := range f.Steps {
		if s.Code != Label {
			continue
		}
		if _, twice := labels[s.Label]; twice {
			return nil, false
		}
		labels[s.Label] = i
	}
	return labels, true
}

// step: may this be a step of the function?
func (f *Fn) step(s *Step, labels map[int]int, fns map[string]*Fn) bool {
	is := func(place, kind int) bool {
		return place >= 0 && place < len(f.Types) && f.Types[place] == kind
	}
	has := func(place, kind int) bool { return kind == 0 || is(place, kind) }
	if s.Code < Const || s.Code >= len(forms) {
		return false
	}
	m := forms[s.Code]
	if !has(s.Dst, m.dst) || !has(s.A, m.a) || !has(s.B, m.b) || !has(s.C, m.c) {
		return false
	}
	if _, there := labels[s.Label]; m.goes && !there {
		return false
	}
	switch s.Code {
	case Copy:
		return is(s.Dst, api.Int) && is(s.A, api.Int) || is(s.Dst, api.Arr) && is(s.A, api.Arr)
	case Two:
		return mark(s.Op)
	case Call:
		return s.fits(fns[s.Name], is)
	}
	return true
}

// mark: may Two have it?
func mark(op string) bool {
	for _, m := range marks {
		if m == op {
			return true
		}
	}
	return false
}

// fits: does a call have what a function must be given?
func (s *Step) fits(f *Fn, is func(place, kind int) bool) bool {
	if f == nil || len(s.Args) != f.Params {
		return false
	}
	for i, a := range s.Args {
		if !is(a, f.Types[i]) {
			return false
		}
	}
	return true
}
