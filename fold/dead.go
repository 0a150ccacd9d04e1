package fold

import (
	"bloomery/api"
	"bloomery/mid"
)

// Dead leaves steps out that write what nobody needs.
func Dead(f mid.Fn) mid.Fn {
	f = own(f)
	if !sound(f) {
		return f
	}
	n := &needs{fn: f, behind: map[int]set{}, idle: idle(f), now: room(f), gone: make([]bool, len(f.Steps))}
	for i := range f.Steps {
		if s := &f.Steps[i]; s.Code == mid.Label {
			n.behind[s.Label] = room(f)
		}
	}
	for n.back() {
	}
	return without(f, func(at int) bool { return n.gone[at] })
}

// set is places, a bit each.
type set []uint64

// room is a set of none of a function's places.
func room(f mid.Fn) set { return make(set, (len(f.Types)+63)/64) }

func (l set) has(place int) bool { return l[place/64]>>(place%64)&1 == 1 }
func (l set) add(place int)      { l[place/64] |= 1 << (place % 64) }
func (l set) drop(place int)     { l[place/64] &^= 1 << (place % 64) }

// join adds all of another set, and says whether there are more then.
func (l set) join(m set) bool {
	grown := false
	for i, bits := range m {
		grown = grown || bits&^l[i] != 0
		l[i] |= bits
	}
	return grown
}

// needs is which places are read later on.
type needs struct {
	fn     mid.Fn
	behind map[int]set // by label, as far as it is found yet
	idle   set
	now    set // behind the step that is looked at
	gone   []bool
}

// idle are the places that nobody reads, and into which nothing but copies is written.
func idle(f mid.Fn) set {
	l := room(f)
	for place := range f.Types {
		l.add(place)
	}
	for i := range f.Steps {
		s := &f.Steps[i]
		reads(s, func(place *int) { l.drop(*place) })
		if forms[s.Code].writes && s.Code != mid.Copy {
			l.drop(s.Dst)
		}
	}
	return l
}

// back goes through the steps from the last one on, and says whether more is needed behind a label than was found yet. (What only a step needs that goes itself, is not needed.)
func (n *needs) back() bool {
	grown := false
	for at := len(n.fn.Steps) - 1; at >= 0; at-- {
		s := &n.fn.Steps[at]
		switch s.Code {
		case mid.Label:
			grown = n.behind[s.Label].join(n.now) || grown
		case mid.Jump, mid.Ret:
			clear(n.now)
		}
		if jumps(s) {
			n.now.join(n.behind[s.Label])
		}
		if n.gone[at] = n.needless(s); n.gone[at] {
			continue
		}
		if forms[s.Code].writes {
			n.now.drop(s.Dst)
		}
		reads(s, func(place *int) { n.now.add(*place) })
	}
	return grown
}

// needless: may a step be left out, by what is needed behind it? A place for an array lets the one go that it had, when it is written: so such a step stays, unless the place never has any of its own.
func (n *needs) needless(s *mid.Step) bool {
	switch {
	case !onlyWrites(s):
		return false
	case n.fn.Types[s.Dst] == api.Arr:
		return n.idle.has(s.Dst)
	}
	return !n.now.has(s.Dst)
}
