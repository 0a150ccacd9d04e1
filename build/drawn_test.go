package build_test

import (
	"math/rand"
	"strings"
	"testing"

	"bloomery/api"
)

// newDie draws numbers, the same each time.
func newDie(seed int64) *rand.Rand { return rand.New(rand.NewSource(seed)) }

// drawnNumbers are some that a program is given.
func drawnNumbers(d *rand.Rand) []int64 {
	in := make([]int64, d.Intn(6))
	for i := range in {
		in[i] = []int64{0, 1, 2, 3, 7, 40, 41, -1, -1 << 63, 1<<63 - 1}[d.Intn(10)]
	}
	return in
}

// enough asks that each of these Ways was met now and then.
func enough(t *testing.T, met map[int]int, least int, ways ...int) {
	t.Helper()
	for _, way := range ways {
		if met[way] < least {
			t.Errorf("%s was met %d times alone", wayNames[way], met[way])
		}
	}
}

// 10.2: drawn programs: machines of several sizes end as they are meant, whatever is given; or with Memory.
func TestDrawn(t *testing.T) {
	d := newDie(106)
	met := map[int]int{}
	for range 300 {
		s := drawn(d, []int{90, 200, 400, 1000}[d.Intn(4)], d.Intn(3) > 0)
		for _, m := range makes(t, s, api.MaxBytes, 32768, 8*(128+d.Intn(8064)), 8*(128+d.Intn(512))) {
			for range 2 {
				met[m.ask(t, drawnNumbers(d)).Way]++
			}
		}
	}
	enough(t, met, 20, api.Done, api.Zero, api.Bounds, api.Size, api.Deep, api.Fuel, api.Full, api.Memory)
}

// 10.2: drawn programs of at most 200 tokens without a Call: the greatest machine does not end with Memory (ask asks for it).
func TestDrawnWithoutCall(t *testing.T) {
	d := newDie(107)
	met := map[int]int{}
	for range 500 {
		for _, m := range makes(t, drawn(d, 200, false), api.MaxBytes) {
			if tokens(m.text) > 200 || calls(m.funcs) {
				t.Fatalf("%s has %d tokens", m, tokens(m.text))
			}
			for range 3 {
				met[m.ask(t, drawnNumbers(d)).Way]++
			}
		}
	}
	enough(t, met, 10, api.Done, api.Zero, api.Bounds, api.Size, api.Fuel, api.Full)
}

// 10.2: where fuel is spent, whenever that is, what was told is the beginning of what Run tells, and Code is 0.
func TestFuelSpent(t *testing.T) {
	d := newDie(108)
	texts := []string{inMain("print 1; show(2); x = 3; while (x) { print x; x = x - 1; v = new(40); } return down(3);"), inMain("print 1; main();"), inMain("while (1) { print x; }")}
	for range 40 {
		texts = append(texts, drawn(d, 300, true))
	}
	for _, s := range texts {
		for _, m := range makes(t, s, api.MaxBytes, 4096) {
			in := drawnNumbers(d)
			want := m.ask(t, in)
			x := m.machine(t, in)
			for spent := range 2500 {
				got := x.Run(1)
				if got.Way != api.Fuel {
					if tell(got) != tell(want) {
						t.Fatalf("%s of %v ends %s after %d words; %s is asked", m, in, tell(got), spent, tell(want))
					}
					break
				}
				if got.Code != 0 || !begins(got.Out, want.Out) {
					t.Fatalf("%s of %v tells %s within %d words; %s is asked in the end", m, in, tell(got), spent, tell(want))
				}
			}
		}
	}
}

// withoutInput is a program that asks for nothing.
func withoutInput(s string) string { return strings.ReplaceAll(s, "input ( )", "2") }

// 10.2: a program that asks for nothing ends the same whatever is given; one that asks, by no more than it asks for.
func TestAsksForNothing(t *testing.T) {
	d := newDie(109)
	texts := []string{"fn main() { print 3; return 4; }", "fn main() { var n = 9; var v = new(n); while (n) { n = n - 1; v[n] = n * n; print v[n]; } return v[3]; }", "fn main() { return f(3); } fn f(n: int) { print n; return f(n + 1); }"}
	for len(texts) < 60 {
		texts = append(texts, withoutInput(drawn(d, 300, true)))
	}
	for _, s := range texts {
		for _, m := range makes(t, s, api.MaxBytes, 3000) {
			want := tell(m.ask(t, nil))
			for _, in := range given {
				if got := tell(m.ask(t, in)); got != want {
					t.Errorf("%s ends %s; of %v %s", m, want, in, got)
				}
			}
		}
	}
	for _, m := range makes(t, "fn main() { print input(); return input(); }", sizes...) {
		for _, in := range [][]int64{{4, 5}, {4, 5, 6}, {4, 5, 0, 0, 7}} {
			if got := tell(m.ask(t, in)); got != "Done 5 [4]" {
				t.Errorf("%s of %v ends %s", m, in, got)
			}
		}
	}
}
