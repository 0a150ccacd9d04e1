package emit_test

import (
	"fmt"
	"math"
	"math/rand"
	"testing"

	"bloomery/emit"
)

// 9.1: Plan, by examples: the document's, and some that are reckoned by hand.
func TestPlanExamples(t *testing.T) {
	for _, c := range []struct {
		words, bytes int
		want         emit.Layout
	}{
		{10, 1040, emit.Layout{Code: 40, Roots: 40, Space: 160, Other: 472, Floor: 792, Bytes: 1040}},
		{9, 1040, emit.Layout{Code: 40, Roots: 40, Space: 160, Other: 472, Floor: 792, Bytes: 1040}},
		{11, 1040, emit.Layout{Code: 48, Roots: 48, Space: 168, Other: 480, Floor: 792, Bytes: 1040}},
		{0, 0, emit.Layout{}},
		{0, 1024, emit.Layout{Code: 0, Roots: 0, Space: 128, Other: 448, Floor: 768, Bytes: 1024}},
		{1, 8, emit.Layout{Code: 8, Roots: 8, Space: 8, Other: 8, Floor: 8, Bytes: 8}},
		{0, 7, emit.Layout{Floor: 7, Bytes: 7}},
		{0, 31, emit.Layout{Other: 8, Floor: 31, Bytes: 31}},
		{0, 32, emit.Layout{Other: 8, Floor: 24, Bytes: 32}},
		{0, 63, emit.Layout{Other: 24, Floor: 55, Bytes: 63}},
		{0, 64, emit.Layout{Space: 8, Other: 24, Floor: 48, Bytes: 64}},
		{10, 1047, emit.Layout{Code: 40, Roots: 40, Space: 160, Other: 472, Floor: 799, Bytes: 1047}},
		{16, 64, emit.Layout{Code: 64, Roots: 64, Space: 64, Other: 64, Floor: 64, Bytes: 64}},
		{17, 64, emit.Layout{Code: 72, Roots: 72, Space: 72, Other: 72, Floor: 64, Bytes: 64}},
		{1 << 20, 1 << 20, emit.Layout{Code: 1 << 22, Roots: 1 << 22, Space: 1 << 22, Other: 1 << 22, Floor: 1 << 20, Bytes: 1 << 20}},
		{0, 1 << 20, emit.Layout{Code: 0, Roots: 0, Space: 131072, Other: 458752, Floor: 786432, Bytes: 1 << 20}},
		{1 << 20, 0, emit.Layout{Code: 1 << 22, Roots: 1 << 22, Space: 1 << 22, Other: 1 << 22}},
	} {
		if got := emit.Plan(c.words, c.bytes); got != c.want {
			t.Errorf("Plan(%d, %d) is %+v, not %+v", c.words, c.bytes, got, c.want)
		}
	}
}

// whole asks that a part is a multiple of 8, and that just so much as it must be: no whole number more goes into a share of all (one of so many).
func whole(t *testing.T, what string, part, all, share int) {
	t.Helper()
	if part%8 != 0 || part < 0 || part*share > all || (part+8)*share <= all {
		t.Errorf("%s: %d is not one of %d parts of %d, cut to a multiple of 8", what, part, share, all)
	}
}

// asPlanned asks each part of the sentence, one by one.
func asPlanned(t *testing.T, words, bytes int) {
	t.Helper()
	l := emit.Plan(words, bytes)
	what := fmt.Sprintf("Plan(%d, %d) is %+v", words, bytes, l)
	if l.Code%8 != 0 || l.Code < 4*words || l.Code >= 4*words+8 {
		t.Errorf("%s: Code", what)
	}
	if l.Roots != l.Code {
		t.Errorf("%s: Roots", what)
	}
	if l.Bytes != bytes {
		t.Errorf("%s: Bytes", what)
	}
	rest := bytes - l.Code
	if rest < 0 {
		rest = 0
	}
	whole(t, what+": Space", l.Space-l.Roots, rest, 8)
	whole(t, what+": Floor", l.Bytes-l.Floor, rest, 4)
	whole(t, what+": Other", l.Other-l.Space, rest-(l.Space-l.Roots)-(l.Bytes-l.Floor), 2)
}

// 9.1: Plan: words and bytes at their ends, words about a multiple of 8 bytes, and as many as there are bytes.
func TestPlan(t *testing.T) {
	ends := []int{0, 1, 2, 3, 4, 5, 7, 8, 9, 15, 16, 17, 127, 128, 129, 1023, 1024, 1025, 65535, 65536, 1<<20 - 8, 1<<20 - 1, 1 << 20}
	for _, words := range ends {
		for _, bytes := range ends {
			asPlanned(t, words, bytes)
		}
	}
	for bytes := range 400 {
		for words := range 110 {
			asPlanned(t, words, bytes)
		}
	}
	for words := range 300 {
		for _, more := range []int{-8, -4, -1, 0, 1, 4, 7, 8, 16, 31, 32, 33, 63, 64, 65} {
			asPlanned(t, words, max(0, 4*words+more))
			asPlanned(t, 1<<18-words, 4*(1<<18-words)+min(more, 4*words))
		}
	}
}

// 9.1: Plan: drawn words and bytes.
func TestPlanDrawn(t *testing.T) {
	d := rand.New(rand.NewSource(91))
	for range 100_000 {
		asPlanned(t, d.Intn(1<<d.Intn(21)+1), d.Intn(1<<d.Intn(21)+1))
	}
}

// P2: beyond what the sentence speaks of, nothing is planned.
func TestPlanBeyond(t *testing.T) {
	for _, n := range []int{math.MinInt, -8, -1, 1<<20 + 1, 1<<20 + 8, math.MaxInt} {
		for _, l := range []emit.Layout{emit.Plan(n, 1024), emit.Plan(10, n), emit.Plan(n, n)} {
			if l != (emit.Layout{}) {
				t.Errorf("of %d %+v is planned", n, l)
			}
		}
	}
}
