package mid

import "bloomery/api"

// Run goes through a program's steps, from main on, so many at most (else: Fuel): how it ends. (Of steps that are not Right: Fault.)
func (c *Code) Run(in []int64, fuel int) (e api.End) {
	if !c.Right() {
		return api.End{Way: api.Fault}
	}
	r := &runner{fns: c.routines(), in: in, fuel: fuel}
	defer func() {
		if way, ok := recover().(ending); ok {
			e = api.End{Way: int(way), Out: r.out}
		}
	}()
	main := r.fns["main"]
	code := r.call(main, main.fresh())
	return api.End{Way: api.Done, Code: code, Out: r.out}
}

// value is a number, or an array: whoever has the slice, has the same numbers.
type value struct {
	n    int64
	list []int64
}

// ending is thrown where the program ends in another Way than Done.
type ending int

// throw ends the program.
func throw(way int) { panic(ending(way)) }

// routine is a function that is ready to be called.
type routine struct {
	fn     *Fn
	labels map[int]int // which step each one is
}

// routines makes all functions ready.
func (c *Code) routines() map[string]routine {
	all := make(map[string]routine, len(c.Fns))
	for name, f := range c.byName() {
		labels, _ := f.labels()
		all[name] = routine{f, labels}
	}
	return all
}

// fresh are the places of a call into which nobody wrote yet.
func (f routine) fresh() []value { return make([]value, len(f.fn.Types)) }

// runner goes through steps.
type runner struct {
	fns   map[string]routine
	in    []int64 // what was not asked for yet
	out   []int64
	fuel  int
	calls int // that have begun and not ended: each one waits for the next
}

// call goes through a function whose parameters lie in its places already, and is what it tells.
func (r *runner) call(f routine, own []value) int64 {
	if r.calls >= api.MaxCalls {
		throw(api.Deep)
	}
	r.calls++
	for at := 0; ; at++ {
		r.pay()
		switch s := &f.fn.Steps[at]; s.Code {
		case Ret:
			r.calls--
			return own[s.A].n
		case Jump:
			at = f.labels[s.Label]
		case Zero:
			if own[s.A].n == 0 {
				at = f.labels[s.Label]
			}
		case Print:
			r.tell(own[s.A].n)
		case Store:
			*item(own[s.A].list, own[s.B].n) = own[s.C].n
		case Label:
		default:
			own[s.Dst] = r.reckon(s, own)
		}
	}
}

// reckon is what a step writes into its Dst.
func (r *runner) reckon(s *Step, own []value) value {
	switch s.Code {
	case Const:
		return value{n: s.N}
	case Two:
		n, way := Both(s.Op, own[s.A].n, own[s.B].n)
		if way != 0 {
			throw(way)
		}
		return value{n: n}
	case Call:
		f := r.fns[s.Name]
		theirs := f.fresh()
		for i, a := range s.Args {
			theirs[i] = own[a]
		}
		return value{n: r.call(f, theirs)}
	case New:
		return value{list: array(own[s.A].n)}
	case Len:
		return value{n: int64(len(own[s.A].list))}
	case Load:
		return value{n: *item(own[s.A].list, own[s.B].n)}
	case Input:
		return value{n: r.take()}
	}
	return own[s.A]
}

// pay costs one.
func (r *runner) pay() {
	if r.fuel <= 0 {
		throw(api.Fuel)
	}
	r.fuel--
}

// tell tells a number.
func (r *runner) tell(n int64) {
	if len(r.out) >= api.MaxPrint {
		throw(api.Full)
	}
	r.out = append(r.out, n)
}

// take is the next number that is given, 0 behind the last one.
func (r *runner) take() int64 {
	if len(r.in) == 0 {
		return 0
	}
	n := r.in[0]
	r.in = r.in[1:]
	return n
}

// array is one of so many 0.
func array(n int64) []int64 {
	if n < 0 || n > api.MaxArray {
		throw(api.Size)
	}
	return make([]int64, n)
}

// item is where a number of an array lies.
func item(list []int64, i int64) *int64 {
	if i < 0 || i >= int64(len(list)) {
		throw(api.Bounds)
	}
	return &list[i]
}
