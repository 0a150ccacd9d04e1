package fold

import (
	"bloomery/api"
	"bloomery/mid"
)

// Known goes through a function's steps, from label to label, and does what is known ahead.
func Known(f mid.Fn) mid.Fn {
	f = own(f)
	if !sound(f) {
		return f
	}
	k := &facts{fn: f, written: written(f), begins: true, numbers: map[int]int64{}, values: map[int64]int{}, lengths: map[int]int64{}}
	k.forget()
	return without(f, func(at int) bool { return k.step(&f.Steps[at]) })
}

// written is how many steps write into each place that is written.
func written(f mid.Fn) map[int]int {
	times := map[int]int{}
	for i := range f.Steps {
		if s := &f.Steps[i]; forms[s.Code].writes {
			times[s.Dst]++
		}
	}
	return times
}

// facts is what is known between two steps. Places that are known to have the same have one value; what is known of a value holds for ever, which places have it until they are written, or a label comes.
type facts struct {
	fn      mid.Fn
	written map[int]int   // by place
	begins  bool          // no label came yet: what was not written is as it began
	holds   map[int]int   // by place: its value
	homes   map[int]int   // by value: a place that has it
	numbers map[int]int64 // by value: which number it is
	values  map[int64]int // by number: its value
	lengths map[int]int64 // by value: how many numbers that array has
	count   int           // of values
}

// forget forgets what places have: it may come from elsewhere now.
func (k *facts) forget() { k.holds, k.homes = map[int]int{}, map[int]int{} }

// fresh is a value of which nothing is known.
func (k *facts) fresh() int {
	k.count++
	return k.count
}

// number is a number's value.
func (k *facts) number(n int64) int {
	v, ok := k.values[n]
	if !ok {
		v = k.fresh()
		k.values[n], k.numbers[v] = v, n
	}
	return v
}

// value is the value that a place has.
func (k *facts) value(place int) int {
	v, ok := k.holds[place]
	if !ok {
		v = k.first(place)
		k.holds[place] = v
	}
	return v
}

// first is the value of a place that was not written since there was a label: what it began with, if there was none, or if nobody writes it.
func (k *facts) first(place int) int {
	switch {
	case place < k.fn.Params || !k.begins && k.written[place] > 0:
		return k.fresh()
	case k.fn.Types[place] == api.Arr:
		v := k.fresh()
		k.lengths[v] = 0
		return v
	}
	return k.number(0)
}

// home is the place that is read in place of another one that has the same: so a copy is often needed no more.
func (k *facts) home(place int) int {
	v := k.value(place)
	if home, ok := k.homes[v]; ok {
		return home
	}
	k.homes[v] = place
	return place
}

// write lets a place have a value.
func (k *facts) write(place, v int) {
	if old := k.value(place); k.homes[old] == place {
		delete(k.homes, old)
	}
	k.holds[place] = v
	if _, ok := k.homes[v]; !ok {
		k.homes[v] = place
	}
}

// step does a step as far as it is known, and says whether nothing is left of it.
func (k *facts) step(s *mid.Step) bool {
	reads(s, func(place *int) { *place = k.home(*place) })
	switch {
	case s.Code == mid.Label:
		k.begins = false
		k.forget()
	case s.Code == mid.Zero:
		return k.choose(s)
	case forms[s.Code].writes:
		v := k.result(s)
		if n, ok := k.numbers[v]; ok {
			*s = mid.Step{Code: mid.Const, Dst: s.Dst, N: n}
		}
		if k.value(s.Dst) == v {
			return true
		}
		k.write(s.Dst, v)
	}
	return false
}

// choose does a Zero, if it is known where it goes, and says whether nothing is left of it.
func (k *facts) choose(s *mid.Step) bool {
	n, ok := k.numbers[k.value(s.A)]
	if ok && n == 0 {
		*s = mid.Step{Code: mid.Jump, Label: s.Label}
	}
	return ok && n != 0
}

// result is the value that a step writes.
func (k *facts) result(s *mid.Step) int {
	switch s.Code {
	case mid.Const:
		return k.number(s.N)
	case mid.Copy:
		return k.value(s.A)
	case mid.Two:
		a, okA := k.numbers[k.value(s.A)]
		b, okB := k.numbers[k.value(s.B)]
		// What ends the program is no number, and stays.
		if n, way := mid.Both(s.Op, a, b); okA && okB && way == 0 {
			return k.number(n)
		}
	case mid.Len:
		if n, ok := k.lengths[k.value(s.A)]; ok {
			return k.number(n)
		}
	case mid.New:
		v := k.fresh()
		if n, ok := k.numbers[k.value(s.A)]; ok {
			k.lengths[v] = n
		}
		return v
	}
	return k.fresh()
}
