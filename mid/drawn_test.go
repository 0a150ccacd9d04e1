package mid_test

import (
	"math/rand"
	"slices"
	"testing"

	"bloomery/api"
	"bloomery/mid"
	"bloomery/run"
)

// drawnNumbers are some that a program is given.
func drawnNumbers(d *rand.Rand) []int64 {
	in := make([]int64, d.Intn(5))
	for i := range in {
		in[i] = []int64{0, 1, 2, 3, -1, 1 << 40}[d.Intn(6)]
	}
	return in
}

// 7.3: steps of drawn programs are Right, and end as the programs do.
func TestLowerDrawn(t *testing.T) {
	d := rand.New(rand.NewSource(73))
	ways := map[int]int{}
	for range 3000 {
		s := (&maker{d: d}).program()
		l := parse(t, s)
		c := lower(t, s, l)
		for range 3 {
			ways[alike(t, s, l, c, drawnNumbers(d), 2000).Way]++
		}
	}
	for _, w := range []int{api.Done, api.Zero, api.Bounds, api.Size, api.Deep, api.Full} {
		if ways[w] < 20 {
			t.Errorf("%s was met %d times alone", wayNames[w], ways[w])
		}
	}
}

// 7.3: in any order of its functions a program's steps do the same.
func TestLowerAnyOrder(t *testing.T) {
	d := rand.New(rand.NewSource(74))
	for range 300 {
		s := (&maker{d: d}).program()
		l := parse(t, s)
		want := tell(run.Run(l, []int64{3, 1}, 1000))
		if want[:4] == "Fuel" {
			continue
		}
		d.Shuffle(len(l), func(i, k int) { l[i], l[k] = l[k], l[i] })
		if got := tell(lower(t, s, l).Run([]int64{3, 1}, 10_000_000)); got != want {
			t.Errorf("%s\nends %s; its steps in another order %s", s, want, got)
		}
	}
}

// 7.2: drawn steps are Right, or not, and end as another manner of going through them tells, with whichever fuel.
func TestStepsDrawn(t *testing.T) {
	d := rand.New(rand.NewSource(71))
	ways, wrong := map[int]int{}, 0
	for range 30_000 {
		c := drawnCode(d)
		if right := looksRight(c); c.Right() != right {
			t.Fatalf("%+v\nRight tells %v", c, !right)
		} else if !right {
			wrong++
		}
		in := drawnNumbers(d)
		for _, fuel := range []int{d.Intn(12), d.Intn(100), 1500} {
			want, got := follow(c, in, fuel), c.Run(in, fuel)
			if tell(got) != tell(want) {
				t.Fatalf("%+v\nof %v with fuel %d ends %s; %s is asked", c, in, fuel, tell(got), tell(want))
			}
			ways[got.Way]++
		}
	}
	for _, w := range []int{api.Done, api.Zero, api.Bounds, api.Size, api.Deep, api.Fuel, api.Full, api.Fault} {
		if ways[w] < 30 {
			t.Errorf("%s was met %d times alone", wayNames[w], ways[w])
		}
	}
	if wrong < 2500 || wrong > 25_000 {
		t.Errorf("%d were not Right", wrong)
	}
}

// 7.2: more fuel is no other road: with less, it is Fuel, and told is the beginning of what is told with more.
func TestMoreFuel(t *testing.T) {
	d := rand.New(rand.NewSource(72))
	for range 2000 {
		c := drawnCode(d)
		last := c.Run([]int64{3, 1}, 0)
		for fuel := range 60 {
			next := c.Run([]int64{3, 1}, fuel+1)
			if last.Way != api.Fuel && tell(next) != tell(last) {
				t.Fatalf("%+v\nwith fuel %d ends %s, with one more %s", c, fuel, tell(last), tell(next))
			}
			if len(next.Out) < len(last.Out) || !slices.Equal(next.Out[:len(last.Out)], last.Out) {
				t.Fatalf("%+v\nwith fuel %d ends %s, with one more %s", c, fuel, tell(last), tell(next))
			}
			last = next
		}
	}
}

// drawnCode is steps that are Right more often than not.
func drawnCode(d *rand.Rand) *mid.Code {
	names := []string{"main", "f", "g"}[:1+d.Intn(3)]
	c := &mid.Code{}
	for _, s := range names {
		f := mid.Fn{Name: s}
		for range 3 + d.Intn(4) {
			f.Types = append(f.Types, api.Int+d.Intn(5)/3)
		}
		if s != "main" {
			f.Params = d.Intn(4)
		}
		c.Fns = append(c.Fns, f)
	}
	for i := range c.Fns {
		drawSteps(d, c, &c.Fns[i])
	}
	if d.Intn(4) == 0 {
		spoil(d, c)
	}
	return c
}

// drawSteps draws those of one function.
func drawSteps(d *rand.Rand, c *mid.Code, f *mid.Fn) {
	place := func(kind int) int {
		i := d.Intn(len(f.Types))
		for range 20 {
			if f.Types[i] == kind {
				break
			}
			i = d.Intn(len(f.Types))
		}
		return i
	}
	i, a := func() int { return place(api.Int) }, func() int { return place(api.Arr) }
	labels := d.Perm(3)
	for range 2 + d.Intn(14) {
		switch d.Intn(16) {
		case 0, 1, 2:
			f.Steps = append(f.Steps, num(i(), []int64{-1, 0, 1, 2, 3, 40, 41, 1 << 62}[d.Intn(8)]))
		case 3:
			f.Steps = append(f.Steps, []mid.Step{copied(i(), i()), copied(a(), a())}[d.Intn(2)])
		case 4, 5:
			f.Steps = append(f.Steps, two(i(), i(), ops[d.Intn(len(ops))], i()))
		case 6:
			f.Steps = append(f.Steps, []mid.Step{jump(d.Intn(3)), zero(i(), d.Intn(3)), zero(i(), d.Intn(3))}[d.Intn(3)])
		case 7:
			if len(labels) > 0 {
				f.Steps, labels = append(f.Steps, label(labels[0])), labels[1:]
			}
		case 8:
			f.Steps = append(f.Steps, drawnCall(d, c, place, i()))
		case 9:
			f.Steps = append(f.Steps, input(i()))
		case 10:
			f.Steps = append(f.Steps, array(a(), i()))
		case 11:
			f.Steps = append(f.Steps, length(i(), a()))
		case 12:
			f.Steps = append(f.Steps, load(i(), a(), i()))
		case 13:
			f.Steps = append(f.Steps, store(a(), i(), i()))
		case 14:
			f.Steps = append(f.Steps, ret(i()))
		default:
			f.Steps = append(f.Steps, show(i()))
		}
	}
	for _, n := range labels {
		f.Steps = append(f.Steps, label(n))
	}
	f.Steps = append(f.Steps, []mid.Step{ret(i()), jump(d.Intn(3))}[d.Intn(2)])
}

// drawnCall draws a call.
func drawnCall(d *rand.Rand, c *mid.Code, place func(kind int) int, dst int) mid.Step {
	f := c.Fns[d.Intn(len(c.Fns))]
	s := call(dst, f.Name)
	for _, t := range f.Types[:f.Params] {
		s.Args = append(s.Args, place(t))
	}
	return s
}

// spoil changes something, so that steps are often not Right any more.
func spoil(d *rand.Rand, c *mid.Code) {
	f := &c.Fns[d.Intn(len(c.Fns))]
	s := &f.Steps[d.Intn(len(f.Steps))]
	n := d.Intn(10) - 2
	switch d.Intn(12) {
	case 0:
		s.Dst = n
	case 1:
		s.A = n
	case 2:
		s.B = n
	case 3:
		s.C = n
	case 4:
		s.Code = n * 2
	case 5:
		s.Label = n
	case 6:
		s.Op = "&&"
	case 7:
		s.Name = "h"
	case 8:
		s.Args = append(s.Args, n)
	case 9:
		f.Types[d.Intn(len(f.Types))] = n
	case 10:
		f.Params = n
	default:
		f.Name = "main"
	}
}
