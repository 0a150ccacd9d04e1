package mid

import "bloomery/api"

// kind is the type of an expression.
func (w *writer) kind(x *api.Expr) int {
	switch x.Code {
	case api.Name:
		return w.types[w.names[x.Name]]
	case api.New:
		return api.Arr
	}
	return api.Int
}

// value writes an expression, and is the place where it lies then. (A name's own: nothing in an expression lets a name be another number, or another array, so it may be looked at as late as it is asked for.)
func (w *writer) value(x *api.Expr) int {
	if x.Code == api.Name {
		return w.names[x.Name]
	}
	used := w.used
	s := w.last(x)
	w.used = used
	// What the parts lay in may be written into now, for the last step reads ahead of that.
	return w.finish(s, w.take(w.kind(x)))
}

// into writes an expression whose value is to lie in a place.
func (w *writer) into(place int, x *api.Expr) { w.finish(w.last(x), place) }

// finish writes an expression's last step, and is its place.
func (w *writer) finish(s Step, place int) int {
	if s.Code != Copy || s.A != place {
		s.Dst = place
		w.add(s)
	}
	return place
}

// last writes an expression but for its last step, which it tells: where that lays it, is not told yet.
func (w *writer) last(x *api.Expr) Step {
	switch x.Code {
	case api.Name:
		return Step{Code: Copy, A: w.names[x.Name]}
	case api.Bin:
		return w.ofTwo(x)
	case api.Un:
		return w.ofOne(x)
	case api.Call:
		args := make([]int, len(x.Args))
		for i, a := range x.Args {
			args[i] = w.value(a)
		}
		return Step{Code: Call, Name: x.Name, Args: args}
	case api.New:
		return Step{Code: New, A: w.value(x.Left)}
	case api.Len:
		return Step{Code: Len, A: w.value(x.Left)}
	case api.Item:
		list := w.value(x.Left)
		return Step{Code: Load, A: list, B: w.value(x.Right)}
	case api.Input:
		return Step{Code: Input}
	}
	return Step{Code: Const, N: x.N}
}

// ofOne writes a mark of one, but for its last step.
func (w *writer) ofOne(x *api.Expr) Step {
	left := w.value(x.Left)
	if x.Op == "-" {
		return Step{Code: Two, Op: "-", A: w.zero(), B: left}
	}
	return Step{Code: Two, Op: "==", A: left, B: w.zero()}
}

// ofTwo writes a mark of two, but for its last step.
func (w *writer) ofTwo(x *api.Expr) Step {
	if x.Op == "&&" || x.Op == "||" {
		return w.truth(x)
	}
	left := w.value(x.Left)
	return Step{Code: Two, Op: x.Op, A: left, B: w.value(x.Right)}
}

// truth writes whether something is not 0, but for a last step, in a place of its own: it is written into ahead of the parts, and these may ask for a name that the whole is to be.
func (w *writer) truth(x *api.Expr) Step {
	place, end := w.take(api.Int), w.label()
	w.add(Step{Code: Const, Dst: place})
	w.unless(x, end)
	w.add(Step{Code: Const, Dst: place, N: 1})
	w.put(end)
	return Step{Code: Copy, A: place}
}

// unless writes that it goes to a label, if an expression is 0.
func (w *writer) unless(x *api.Expr, label int) {
	used := w.used
	switch {
	case x.Code == api.Un && x.Op == "!":
		w.when(x.Left, label)
	case x.Code == api.Bin && x.Op == "&&":
		w.unless(x.Left, label)
		w.unless(x.Right, label)
	case x.Code == api.Bin && x.Op == "||":
		on := w.label()
		w.when(x.Left, on)
		w.unless(x.Right, label)
		w.put(on)
	default:
		w.add(Step{Code: Zero, A: w.value(x), Label: label})
	}
	w.used = used
}

// when writes that it goes to a label, if an expression is not 0.
func (w *writer) when(x *api.Expr, label int) {
	used := w.used
	switch {
	case x.Code == api.Un && x.Op == "!":
		w.unless(x.Left, label)
	case x.Code == api.Bin && x.Op == "||":
		w.when(x.Left, label)
		w.when(x.Right, label)
	case x.Code == api.Bin && x.Op == "&&":
		on := w.label()
		w.unless(x.Left, on)
		w.when(x.Right, label)
		w.put(on)
	default:
		is := w.value(x)
		w.used = used
		not := w.take(api.Int)
		w.add(Step{Code: Two, Op: "==", Dst: not, A: is, B: w.zero()})
		w.add(Step{Code: Zero, A: not, Label: label})
	}
	w.used = used
}
