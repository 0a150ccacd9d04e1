package build_test

import (
	"fmt"
	"math"
	"slices"
	"strings"
	"testing"

	"bloomery/api"
	"bloomery/asm"
	"bloomery/build"
)

// refused asks that neither Text nor Words tells anything but this error.
func refused(t *testing.T, s string, fewer bool, bytes int, want string) {
	t.Helper()
	text, err := build.Text(s, fewer, bytes)
	if text != "" || wrong(err) != want {
		t.Errorf("%.80q, %d bytes: Text tells %.80q, %s; %s is asked", s, bytes, text, wrong(err), want)
	}
	words, err := build.Words(s, fewer, bytes)
	if len(words) > 0 || wrong(err) != want {
		t.Errorf("%.80q, %d bytes: Words tells %d words, %s; %s is asked", s, bytes, len(words), wrong(err), want)
	}
}

// long is a program that takes more than half of any machine's bytes, with fewer steps, too.
func long() string {
	return "fn main() { var x = input(); print " + strings.Repeat("x == 6123456789012345678 || ", 360) + "x; }"
}

// 10.1: ErrRange: bytes below 1024, above MaxBytes, and that are no multiple of 8; ahead of every other error.
func TestRange(t *testing.T) {
	texts := []string{"fn main() { }", long()}
	for _, f := range append(notRead(), notRight()...) {
		texts = append(texts, f.text)
	}
	bytes := []int{math.MinInt, math.MinInt + 1, -api.MaxBytes, -1024, -8, -1, 0, 1, 8, 512, 1008, 1015, 1016, 1020, 1023, 1025, 1026, 1028, 1030, 1031, 1033, 4100, 32764, 32769,
		api.MaxBytes - 4, api.MaxBytes - 1, api.MaxBytes + 1, api.MaxBytes + 4, api.MaxBytes + 8, 2 * api.MaxBytes, 1 << 20, 1 << 32, 1<<32 + 1024, 1<<62 + 1024, math.MaxInt - 7, math.MaxInt}
	for _, b := range bytes {
		for _, s := range texts {
			refused(t, s, b%3 == 0, b, "error 2 at -1")
		}
	}
}

// 10.1: every multiple of 8 from 1024 to MaxBytes may be.
func TestInRange(t *testing.T) {
	for bytes := 1024; bytes <= api.MaxBytes; bytes += 8 {
		if words, err := build.Words("fn main() { return 7; }", bytes%16 == 0, bytes); err != nil || len(words) == 0 {
			t.Fatalf("%d bytes: Words tells %s", bytes, wrong(err))
		}
	}
}

// 10.1: Text, Words: Steps's errors, with their places.
func TestStepsErrorsAreTold(t *testing.T) {
	for _, f := range append(notRead(), notRight()...) {
		for _, bytes := range []int{1024, 1032, 32768, api.MaxBytes} {
			for _, fewer := range both {
				refused(t, f.text, fewer, bytes, fmt.Sprint("error ", int(f.err), " at ", f.place))
			}
		}
	}
	// What takes more than half is told behind them.
	for _, fewer := range both {
		refused(t, long()+" fn f() { return q; }", fewer, 1024, fmt.Sprint("error ", int(api.ErrMissing), " at ", len(long())+17))
		refused(t, long()+" fn", fewer, 1024, fmt.Sprint("error ", int(api.ErrForm), " at ", len(long())+3))
		refused(t, strings.Replace(long(), "main", "f", 1), fewer, 1024, fmt.Sprint("error ", int(api.ErrNone), " at -1"))
	}
}

// count is how many words a program has for a machine of so many bytes.
func count(t *testing.T, s string, fewer bool, bytes int) int {
	t.Helper()
	words, err := build.Words(s, fewer, bytes)
	if err != nil {
		t.Fatalf("%s\n%d bytes: Words tells %s", s, bytes, wrong(err))
	}
	return len(words)
}

// 10.1: ErrLimit: the words take more than half of bytes; not if they take just half.
func TestLimit(t *testing.T) {
	d := newDie(103)
	for i := range 80 {
		s, fewer := drawn(d, 150+15*i, i%2 == 0), i%4 < 2
		n := count(t, s, fewer, api.MaxBytes)
		if n <= 128 {
			continue
		}
		if m := count(t, s, fewer, 8*n); m != n {
			t.Errorf("%s\n%d words of %d bytes are %d of %d", s, n, api.MaxBytes, m, 8*n)
		}
		for _, bytes := range []int{8*n - 8, 8*n - 16, 4*n + 8 - 4*n%8, 1024} {
			if bytes >= 1024 && bytes < 8*n {
				refused(t, s, fewer, bytes, "error 4 at -1")
			}
		}
	}
	refused(t, long(), false, api.MaxBytes, "error 4 at -1")
	refused(t, long(), true, api.MaxBytes, "error 4 at -1")
}

// 10.1: just so many words, and one more, in the same bytes.
func TestLimitByWords(t *testing.T) {
	for _, fewer := range both {
		for _, bytes := range []int{1024, 1032, 2048} {
			last, met := bytes/8, map[int]int{}
			// A print of a number of two words takes one more than of one word.
			for prints := range 60 {
				for wide := range min(prints, 6) {
					s := "fn main() { "
					for i := range prints {
						s += fmt.Sprint("print ", i+1+4096*min(1, max(0, i+1-prints+wide)), "; ")
					}
					s += "}"
					n := count(t, s, fewer, api.MaxBytes)
					met[n]++
					if n > last {
						refused(t, s, fewer, bytes, "error 4 at -1")
					} else {
						count(t, s, fewer, bytes)
					}
				}
			}
			for n := last - 3; n <= last+3; n++ {
				if met[n] == 0 {
					t.Errorf("no program has %d words", n)
				}
			}
		}
	}
}

// upTo200 is a program of main with this ahead, this behind, and as often as 200 tokens allow this between.
func upTo200(ahead, again, behind string) string {
	n := (200 - tokens(ahead) - tokens(behind)) / tokens(again)
	return ahead + strings.Repeat(again, n) + behind
}

// dear are programs of at most 200 tokens that take as many words as may be.
func dear() []string {
	l := []string{
		upTo200("fn main() { print ", "6123456789012345678 || ", "input(); }"),
		upTo200("fn main() { print ", "6123456789012345678 && ", "input(); }"),
		upTo200("fn main() { print ", "6123456789012345678 == ", "input(); }"),
		upTo200("fn main() { var a = input(); print ", "a + 6123456789012345678 || ", "a; }"),
		upTo200("fn main() { ", "print 6123456789012345678; ", "}"),
		upTo200("fn main() { var a = input(); a = ", "!!!!!!!!!!!!a == ", "a; }"),
		upTo200("fn main() { var a = input(); a = ", "-!-!-!-!-!-!a >= ", "a; }"),
		upTo200("fn main() { var a = input(); a = ", "(a || a) <= ", "a; }"),
		upTo200("fn main() { var a = input(); a = ", "(a && !a || a) != ", "a; }"),
		upTo200("fn main() { var v = new(40); ", "v[6123456789012345678] = 6123456789012345678; ", "}"),
		upTo200("fn main() { var v = new(40); ", "v = new(6123456789012345678); ", "}"),
		upTo200("fn main() { ", "print len(new(input())); ", "}"),
		upTo200("fn main() { ", "if (input()) { } else { print 6123456789012345678; } ", "}"),
		upTo200("fn main() { ", "while (!input()) { print 6123456789012345678; } ", "}"),
		upTo200("fn main() { ", "f(); ", "} fn f() { }"),
		upTo200("fn main() { ", "return f(6123456789012345678, 6123456789012345678); ", "} fn f(a: int, b: int) { return b; }"),
	}
	// With as many arguments as there may be, in as many functions as there may be.
	many := "fn main() { }"
	for i := range 11 {
		many += fmt.Sprint(" fn f", i, "() { return f", (i+1)%11, "(); }")
	}
	l = append(l, many)
	many = "fn f(a: int, b: arr, c: arr, d: arr, e: arr, g: arr, h: arr, i: arr, j: arr, k: arr, l: arr, m: int) { } fn main() { var a = new(40); "
	return append(l, upTo200(many, "f(1, a, a, a, a, a, a, a, a, a, a, 6123456789012345678); ", "}"))
}

// 10.1: programs of at most 200 tokens never meet ErrLimit with 32768 bytes or more.
func TestNoLimit(t *testing.T) {
	check := func(s string, sizes ...int) {
		t.Helper()
		if tokens(s) > 200 {
			t.Fatalf("%s\nhas %d tokens", s, tokens(s))
		}
		for _, fewer := range both {
			for _, bytes := range sizes {
				if _, err := build.Text(s, fewer, bytes); err != nil {
					t.Errorf("%s\n%d bytes: Text tells %s", s, bytes, wrong(err))
				}
			}
		}
	}
	for _, s := range dear() {
		check(s, 32768, 32776, 40000, api.MaxBytes-8, api.MaxBytes)
	}
	d := newDie(104)
	for i := range 400 {
		check(drawn(d, 200, i%2 == 0), 32768, api.MaxBytes)
	}
}

// 10.1: instructions as text, and their words: those that Assemble makes of it; they take no more than half of bytes; the same arguments tell the same.
func TestWordsOfText(t *testing.T) {
	type made struct {
		s     string
		fewer bool
		bytes int
		text  string
	}
	var all []made
	for _, s := range append(programs(), dear()...) {
		for i, bytes := range sizes {
			fewer := i%2 == 0
			text, err := build.Text(s, fewer, bytes)
			words, err2 := build.Words(s, fewer, bytes)
			if wrong(err) != wrong(err2) {
				t.Fatalf("%s\nText tells %s, Words %s", s, wrong(err), wrong(err2))
			}
			all = append(all, made{s, fewer, bytes, text})
			if err != nil {
				continue
			}
			l, err := asm.Assemble(text)
			if err != nil {
				t.Fatalf("%s\nAssemble tells %s of\n%s", s, wrong(err), text)
			}
			want, err := asm.Words(l)
			if err != nil || !slices.Equal(want, words) {
				t.Errorf("%s\nhas words %x, its text %x (%v)", s, words, want, err)
			}
			if len(words) == 0 || 2*4*len(words) > bytes {
				t.Errorf("%s\nhas %d words in %d bytes", s, len(words), bytes)
			}
		}
	}
	// In another order, with other calls between.
	for _, i := range newDie(105).Perm(len(all)) {
		if again, _ := build.Text(all[i].s, all[i].fewer, all[i].bytes); again != all[i].text {
			t.Errorf("%s\n%d bytes: two texts are told", all[i].s, all[i].bytes)
		}
	}
}
