package run_test

import (
	"math/big"

	"bloomery/api"
)

// variable is what a name stands for: a number, or an array.
type variable struct {
	name string
	n    int64
	list *[]int64
}

// walker goes through a program in another manner than the program does: blocks have their own names, what ended is asked for everywhere, numbers are reckoned at any length.
type walker struct {
	funcs  []api.Func
	given  []int64
	out    []int64
	left   int // of the fuel
	deep   int
	ended  int // in which Way
	frames [][]variable
}

// walk is how a program ends.
func walk(l []api.Func, in []int64, fuel int) api.End {
	w := &walker{funcs: l, given: in, left: fuel}
	n := w.call("main", nil)
	if w.ended != 0 {
		return api.End{Way: w.ended, Out: w.out}
	}
	return api.End{Way: api.Done, Code: n, Out: w.out}
}

// end ends it, if it did not yet.
func (w *walker) end(way int) {
	if w.ended == 0 {
		w.ended = way
	}
}

func (w *walker) pay() {
	if w.left < 1 {
		w.end(api.Fuel)
	}
	w.left--
}

func (w *walker) find(name string) *variable {
	l := w.frames[len(w.frames)-1]
	for i := range l {
		if l[i].name == name {
			return &l[i]
		}
	}
	return nil
}

func (w *walker) add(v variable) {
	w.frames[len(w.frames)-1] = append(w.frames[len(w.frames)-1], v)
}

func (w *walker) call(name string, args []variable) int64 {
	if w.deep == api.MaxCalls {
		w.end(api.Deep)
	}
	for _, f := range w.funcs {
		if f.Name != name || w.ended != 0 {
			continue
		}
		w.deep++
		w.frames = append(w.frames, nil)
		for i, p := range f.Params {
			args[i].name = p.Name
			w.add(args[i])
		}
		_, n := w.block(f.Body)
		w.frames = w.frames[:len(w.frames)-1]
		w.deep--
		return n
	}
	return 0
}

// block: did it come to a Return, and what did that say?
func (w *walker) block(l []api.Stmt) (bool, int64) {
	had := len(w.frames[len(w.frames)-1])
	for _, s := range l {
		if w.pay(); w.ended != 0 {
			return false, 0
		}
		if back, n := w.stmt(s); back {
			return true, n
		}
	}
	w.frames[len(w.frames)-1] = w.frames[len(w.frames)-1][:had]
	return false, 0
}

func (w *walker) stmt(s api.Stmt) (bool, int64) {
	switch s.Code {
	case api.If:
		v := w.value(s.Value)
		if w.ended != 0 {
			return false, 0
		}
		if v.n == 0 {
			return w.block(s.Else)
		}
		return w.block(s.Then)
	case api.While:
		for {
			if v := w.value(s.Value); w.ended != 0 || v.n == 0 {
				return false, 0
			}
			if back, n := w.block(s.Then); back || w.ended != 0 {
				return back, n
			}
			if w.pay(); w.ended != 0 {
				return false, 0
			}
		}
	case api.Put:
		i, v := w.value(s.Index), w.value(s.Value)
		if p := w.item(w.find(s.Name).list, i.n); p != nil {
			*p = v.n
		}
		return false, 0
	}
	v := w.value(s.Value)
	if w.ended != 0 {
		return false, 0
	}
	switch s.Code {
	case api.Var:
		w.add(variable{s.Name, v.n, v.list})
	case api.Set:
		x := w.find(s.Name)
		x.n, x.list = v.n, v.list
	case api.Print:
		if len(w.out) == api.MaxPrint {
			w.end(api.Full)
			break
		}
		w.out = append(w.out, v.n)
	}
	return s.Code == api.Return, v.n
}

// item is where a number lies; nil, if it ended.
func (w *walker) item(list *[]int64, i int64) *int64 {
	if w.ended != 0 {
		return nil
	}
	for k := range *list {
		if int64(k) == i {
			return &(*list)[k]
		}
	}
	w.end(api.Bounds)
	return nil
}

// value is what an expression comes to; of no account, if it ended.
func (w *walker) value(x *api.Expr) (v variable) {
	if x == nil || w.ended != 0 {
		return v
	}
	switch x.Code {
	case api.Num:
		v.n = x.N
	case api.Name:
		v = *w.find(x.Name)
	case api.Input:
		if len(w.given) > 0 {
			v.n, w.given = w.given[0], w.given[1:]
		}
	case api.Call:
		var args []variable
		for _, a := range x.Args {
			args = append(args, w.value(a))
		}
		if w.ended == 0 {
			v.n = w.call(x.Name, args)
		}
	case api.Bin:
		v.n = w.bin(x)
	default:
		v = w.other(x, w.value(x.Left), w.value(x.Right))
	}
	return v
}

// other is what Un, New, Len and Item come to.
func (w *walker) other(x *api.Expr, a, b variable) (v variable) {
	switch {
	case w.ended != 0:
	case x.Code == api.Un && x.Op == "-":
		v.n = wrap(new(big.Int).Neg(big.NewInt(a.n))).Int64()
	case x.Code == api.Un:
		v.n = reckoned("==", big.NewInt(a.n), new(big.Int)).Int64()
	case x.Code == api.New && 0 <= a.n && a.n <= api.MaxArray:
		v.list = new([]int64)
		for range a.n {
			*v.list = append(*v.list, 0)
		}
	case x.Code == api.New:
		w.end(api.Size)
	case x.Code == api.Len:
		v.n = int64(len(*a.list))
	case x.Code == api.Item:
		if p := w.item(a.list, b.n); p != nil {
			v.n = *p
		}
	}
	return v
}

// bin is what a mark of two comes to.
func (w *walker) bin(x *api.Expr) int64 {
	a := w.value(x.Left).n
	if x.Op == "&&" && a == 0 || x.Op == "||" && a != 0 {
		return reckoned("!=", big.NewInt(a), new(big.Int)).Int64()
	}
	b := w.value(x.Right).n
	if w.ended != 0 {
		return 0
	}
	if x.Op == "&&" || x.Op == "||" {
		return reckoned("!=", big.NewInt(b), new(big.Int)).Int64()
	}
	n := reckoned(x.Op, big.NewInt(a), big.NewInt(b))
	if n == nil {
		w.end(api.Zero)
		return 0
	}
	return n.Int64()
}
