package run

import "bloomery/api"

// action is a statement, or a block, that is ready to be done in a call, with its names.
type action func(own names)

// block makes statements ready.
func (p *program) block(l []api.Stmt) action {
	actions := make([]action, len(l))
	for i := range l {
		actions[i] = p.stmt(&l[i])
	}
	return func(own names) {
		for _, do := range actions {
			p.pay()
			do(own)
		}
	}
}

// stmt makes a statement ready.
func (p *program) stmt(s *api.Stmt) action {
	switch s.Code {
	case api.Put:
		return p.put(s)
	case api.If:
		return p.choice(s)
	case api.While:
		return p.loop(s)
	}
	reckon := p.part(s.Value)
	switch s.Code {
	case api.Return:
		return func(own names) { panic(told(reckon(own).n)) }
	case api.Print:
		return func(own names) { p.tell(reckon(own).n) }
	case api.Do:
		return func(own names) { reckon(own) }
	}
	return func(own names) { own[s.Name] = reckon(own) }
}

// put makes ready that a number of an array changes.
func (p *program) put(s *api.Stmt) action {
	index, reckon := p.part(s.Index), p.part(s.Value)
	return func(own names) {
		i := index(own).n
		n := reckon(own).n
		*item(own[s.Name].list, i) = n
	}
}

// choice makes ready that one of two blocks is done.
func (p *program) choice(s *api.Stmt) action {
	reckon, then, other := p.part(s.Value), p.block(s.Then), p.block(s.Else)
	return func(own names) {
		if reckon(own).n != 0 {
			then(own)
		} else {
			other(own)
		}
	}
}

// loop makes ready that a block is done round by round.
func (p *program) loop(s *api.Stmt) action {
	reckon, then := p.part(s.Value), p.block(s.Then)
	return func(own names) {
		for reckon(own).n != 0 {
			then(own)
			p.pay()
		}
	}
}
