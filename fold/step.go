package fold

import "bloomery/mid"

// form is what a step does with its places: which of A, B, C it reads, whether it writes Dst, and whether it does no more than that.
type form struct {
	a, b, c, writes, only bool
}

// forms are those of all steps, by their codes. (What a step has beside them means nothing, and may be anything.)
var forms = [...]form{
	mid.Const: {writes: true, only: true},
	mid.Copy:  {a: true, writes: true, only: true},
	mid.Two:   {a: true, b: true, writes: true, only: true},
	mid.Jump:  {},
	mid.Zero:  {a: true},
	mid.Label: {},
	mid.Call:  {writes: true},
	mid.Ret:   {a: true},
	mid.New:   {a: true, writes: true},
	mid.Len:   {a: true, writes: true, only: true},
	mid.Load:  {a: true, b: true, writes: true},
	mid.Store: {a: true, b: true, c: true},
	mid.Print: {a: true},
	mid.Input: {writes: true},
}

// reads looks at each place that a step reads.
func reads(s *mid.Step, look func(place *int)) {
	m := forms[s.Code]
	if m.a {
		look(&s.A)
	}
	if m.b {
		look(&s.B)
	}
	if m.c {
		look(&s.C)
	}
	if s.Code == mid.Call {
		for i := range s.Args {
			look(&s.Args[i])
		}
	}
}

// onlyWrites: is nothing lost with a step but what it writes? (Who divides, may end so.)
func onlyWrites(s *mid.Step) bool {
	return forms[s.Code].only && (s.Code != mid.Two || s.Op != "/" && s.Op != "%")
}

// jumps: may a step go to its Label?
func jumps(s *mid.Step) bool { return s.Code == mid.Jump || s.Code == mid.Zero }

// sound: are all steps such as there are, and all their places there? Of a function that is not, nothing can be left out.
func sound(f mid.Fn) bool {
	ok := true
	look := func(place *int) { ok = ok && *place >= 0 && *place < len(f.Types) }
	for i := range f.Steps {
		s := &f.Steps[i]
		if s.Code < mid.Const || s.Code >= len(forms) {
			return false
		}
		reads(s, look)
		if forms[s.Code].writes {
			look(&s.Dst)
		}
	}
	return ok
}
