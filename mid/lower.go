package mid

import (
	"bloomery/api"
	"bloomery/check"
)

// Lower makes steps of a program. check.Check's errors.
func Lower(l []api.Func) (c *Code, err error) {
	defer func() {
		// Only what Parse never told comes here: nothing is promised of it, but that no panic comes out.
		if recover() != nil {
			c, err = nil, api.ErrArg
		}
	}()
	if err := check.Check(l); err != nil {
		return nil, err
	}
	c = &Code{Fns: make([]Fn, len(l))}
	for i, f := range l {
		c.Fns[i] = function(f)
	}
	return c, nil
}

// function makes steps of a function.
func function(f api.Func) Fn {
	w := &writer{names: map[string]int{}, nought: -1}
	for _, p := range f.Params {
		w.names[p.Name] = w.place(p.Type)
	}
	w.block(f.Body)
	// What falls out of the last statement tells 0.
	if n := len(w.steps); n == 0 || w.steps[n-1].Code != Ret {
		w.add(Step{Code: Ret, A: w.zero()})
	}
	return Fn{Name: f.Name, Params: len(f.Params), Types: w.types, Steps: w.steps}
}

// byType has something of each type.
type byType[T any] [api.Arr + 1]T

// writer writes the steps of one function.
type writer struct {
	types  []int // of the places
	steps  []Step
	names  map[string]int // where each one's place is; of blocks that have ended, too, but Check has found that nobody asks for those
	spare  byType[[]int]  // places for what is reckoned on the way
	used   byType[int]    // how many of these hold what is still asked for
	nought int            // a place into which nobody writes, -1: there is none yet
	labels int            // how many there are
}

// add writes a step.
func (w *writer) add(s Step) { w.steps = append(w.steps, s) }

// place is one more place.
func (w *writer) place(kind int) int {
	w.types = append(w.types, kind)
	return len(w.types) - 1
}

// take is a place for what is reckoned on the way. It is given back where used becomes what it was: few places do, and they hold no array for long that nobody asks for any more.
func (w *writer) take(kind int) int {
	if w.used[kind] == len(w.spare[kind]) {
		w.spare[kind] = append(w.spare[kind], w.place(kind))
	}
	w.used[kind]++
	return w.spare[kind][w.used[kind]-1]
}

// zero is a place that is 0.
func (w *writer) zero() int {
	if w.nought < 0 {
		w.nought = w.place(api.Int)
	}
	return w.nought
}

// label is one more label; it is put somewhere by put.
func (w *writer) label() int {
	w.labels++
	return w.labels
}

// put puts a label behind the last step.
func (w *writer) put(label int) { w.add(Step{Code: Label, Label: label}) }

// block writes statements.
func (w *writer) block(l []api.Stmt) {
	for i := range l {
		w.stmt(&l[i])
		w.used = byType[int]{}
	}
}

// stmt writes a statement.
func (w *writer) stmt(s *api.Stmt) {
	switch s.Code {
	case api.Var:
		place := w.place(w.kind(s.Value))
		w.into(place, s.Value)
		w.names[s.Name] = place
	case api.Set:
		w.into(w.names[s.Name], s.Value)
	case api.Put:
		at := w.value(s.Index)
		w.add(Step{Code: Store, A: w.names[s.Name], B: at, C: w.value(s.Value)})
	case api.If:
		w.choice(s)
	case api.While:
		w.loop(s)
	case api.Return:
		w.add(Step{Code: Ret, A: w.value(s.Value)})
	case api.Print:
		w.add(Step{Code: Print, A: w.value(s.Value)})
	case api.Do:
		w.value(s.Value)
	}
}

// choice writes an If.
func (w *writer) choice(s *api.Stmt) {
	other := w.label()
	w.unless(s.Value, other)
	w.block(s.Then)
	if len(s.Else) > 0 {
		end := w.label()
		w.add(Step{Code: Jump, Label: end})
		w.put(other)
		w.block(s.Else)
		other = end
	}
	w.put(other)
}

// loop writes a While.
func (w *writer) loop(s *api.Stmt) {
	again, end := w.label(), w.label()
	w.put(again)
	w.unless(s.Value, end)
	w.block(s.Then)
	w.add(Step{Code: Jump, Label: again})
	w.put(end)
}
