package fold_test

import (
	"fmt"
	"math/rand"
	"slices"
	"testing"

	"bloomery/api"
	"bloomery/mid"
)

// Bounds of a function (7.1).
const (
	mostPlaces = 3000
	mostSteps  = 6000
)

// crowd is as many functions as there may be, all of them alike.
func crowd(f mid.Fn) *mid.Code {
	c := &mid.Code{}
	for i := range api.MaxFuncs {
		g := f
		g.Name = fmt.Sprint("f", i)
		if i == 0 {
			g.Name = "main"
		}
		c.Fns = append(c.Fns, g)
	}
	return c
}

// numbers are the types of so many places for numbers.
func numbers(n int) []int { return slices.Repeat([]int{api.Int}, n) }

// P1: Fold ends, and soon, whatever is long about its steps.
func TestBig(t *testing.T) {
	big := func(what string, f mid.Fn) {
		t.Helper()
		d := folded(t, what, crowd(f))
		alike(t, what, crowd(f), d, []int64{1, 0})
	}
	// Round a loop, each place is handed on to the next one.
	l := steps(label(0))
	for i := range mostPlaces - 1 {
		l = append(l, copied(i, i+1))
	}
	big("handed on", mid.Fn{Types: numbers(mostPlaces), Steps: append(l, input(mostPlaces-1), show(0), zero(mostPlaces-1, 1), jump(0), label(1), ret(1))})
	// The same, with roads out of it at each step.
	l = steps(label(-1))
	for i := range mostSteps/3 - 10 {
		l = append(l, copied(i, i+1), zero(i, i), label(i))
		l[len(l)-2].Label = max(i-1, -1)
	}
	last := mostSteps/3 - 10
	big("handed on, with roads", mid.Fn{Types: numbers(mostPlaces), Steps: append(l, input(last), show(0), zero(last, -2), jump(-1), label(-2), ret(1))})
	// What is known of one place lets something be known of the next one, in one more round each.
	l = nil
	for i := range mostSteps/5 - 10 {
		l = append(l, label(3*i), input(mostPlaces-1), zero(i, 3*i+1), num(i+1, 1), label(3*i+1))
	}
	big("one behind the other", mid.Fn{Types: numbers(mostPlaces), Steps: append(l, zero(mostPlaces-1, 1), jump(3), ret(0))})
	l = steps(label(1))
	for i := range mostSteps/2 - 2 {
		l = append(l, zero(i, 2), num(i, 1))
	}
	big("a road out at each step", mid.Fn{Types: numbers(mostPlaces), Steps: append(l, jump(1), label(2), ret(0))})
	l = nil
	for i := range mostSteps - 1 {
		l = append(l, label(i))
	}
	big("labels alone", mid.Fn{Types: numbers(1), Steps: append(l, ret(0))})
	big("jumps alone", mid.Fn{Types: numbers(1), Steps: append(slices.Repeat(steps(zero(0, 5)), mostSteps-2), label(5), jump(5))})
}

// 8.1: drawn steps of many places and roads.
func TestBigDrawn(t *testing.T) {
	d := rand.New(rand.NewSource(86))
	for range 12 {
		places := 2 + d.Intn(mostPlaces-2)
		f := mid.Fn{Types: numbers(places)}
		some := func() int { return d.Intn(min(places, 2+d.Intn(places))) }
		const labels = 500
		for i := range mostSteps - 1 {
			switch n := d.Intn(12); {
			case i%10 == 0 && i/10 < labels:
				f.Steps = append(f.Steps, label(i/10))
			case n < 3:
				f.Steps = append(f.Steps, num(some(), int64(d.Intn(4)-1)))
			case n < 5:
				f.Steps = append(f.Steps, copied(some(), some()))
			case n < 8:
				f.Steps = append(f.Steps, two(some(), some(), []string{"+", "-", "*", "<", "=="}[d.Intn(5)], some()))
			case n < 10:
				// Mostly onwards, so that it comes to an end.
				f.Steps = append(f.Steps, zero(some(), min(labels-1, max(0, i/10+d.Intn(12)-1))))
			case n == 10:
				f.Steps = append(f.Steps, input(some()))
			default:
				f.Steps = append(f.Steps, show(some()))
			}
		}
		f.Steps = append(f.Steps, ret(some()))
		f.Name = "main"
		same(t, "big, drawn", &mid.Code{Fns: []mid.Fn{f}}, drawnNumbers(d), drawnNumbers(d))
	}
}
