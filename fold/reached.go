package fold

import "bloomery/mid"

// Reached leaves steps out that are never reached, jumps to what comes next, and labels that nobody jumps to. Labels in a row become one.
func Reached(f mid.Fn) mid.Fn {
	f = own(f)
	if !sound(f) {
		return f
	}
	seen := reached(f)
	f = joined(without(f, func(at int) bool { return !seen[at] }))
	asked := map[int]int{}
	for i := range f.Steps {
		if s := &f.Steps[i]; jumps(s) {
			asked[s.Label]++
		}
	}
	return without(f, func(at int) bool {
		s := &f.Steps[at]
		return s.Code == mid.Label && asked[s.Label] == 0
	})
}

// reached is which steps are come to on some road.
func reached(f mid.Fn) []bool {
	labels := map[int]int{}
	for at := range f.Steps {
		if s := &f.Steps[at]; s.Code == mid.Label {
			labels[s.Label] = at
		}
	}
	seen := make([]bool, len(f.Steps))
	for work := []int{0}; len(work) > 0; {
		at := work[len(work)-1]
		work = work[:len(work)-1]
		for at < len(seen) && !seen[at] {
			seen[at] = true
			s := &f.Steps[at]
			if to, ok := labels[s.Label]; ok && jumps(s) {
				work = append(work, to)
			}
			if s.Code == mid.Jump || s.Code == mid.Ret {
				break
			}
			at++
		}
	}
	return seen
}

// joined lets labels in a row become the last one of them, and leaves out who goes there from just ahead. (Both at once: a label that is passed costs as much as a jump, so with two of them it would be dearer without the jump.)
func joined(f mid.Fn) mid.Fn {
	last := map[int]int{} // by label: what it becomes, as far as the steps were looked at, from the last one on
	gone := make([]bool, len(f.Steps))
	next, labelled := 0, false // the label that comes next, if one does
	for at := len(f.Steps) - 1; at >= 0; at-- {
		s := &f.Steps[at]
		to, ahead := last[s.Label]
		switch {
		case s.Code == mid.Label && labelled:
			last[s.Label] = next
			gone[at] = true
		case s.Code == mid.Label:
			last[s.Label] = s.Label
			next, labelled = s.Label, true
		case jumps(s) && labelled && ahead && to == next:
			gone[at] = true
		default:
			labelled = false
		}
	}
	for i := range f.Steps {
		if to, ok := last[f.Steps[i].Label]; ok && jumps(&f.Steps[i]) {
			f.Steps[i].Label = to
		}
	}
	return without(f, func(at int) bool { return gone[at] })
}
