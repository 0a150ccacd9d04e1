package desk_test

import (
	"fmt"
	"strings"
	"testing"

	"bloomery/api"
	"bloomery/build"
)

const (
	goBytes = 32768
	goFuel  = 400_000
)

// ends is how a machine ends that does a program.
func ends(t *testing.T, program string, fewer bool, bytes, fuel int, in ...int64) string {
	t.Helper()
	m, err := machineOf(program, fewer, bytes, in)
	if err != nil {
		t.Fatalf("%s: %v", cut(program), err)
	}
	return endOf(m.Run(fuel))
}

// costs is how many words a machine does of a program of fewer steps, to its end.
func costs(t *testing.T, program string, in ...int64) int {
	t.Helper()
	m, err := machineOf(program, true, goBytes, in)
	if err != nil {
		t.Fatalf("%s: %v", cut(program), err)
	}
	for n := range 10 * goFuel {
		if m.End().Way != 0 {
			return n
		}
		m.Step()
	}
	t.Fatalf("%s of %v goes on for too long", cut(program), in)
	return 0
}

// rounds are numbers of which a program with two loops costs just so much.
func rounds(t *testing.T, program string, cost int) (n, m int64) {
	t.Helper()
	// Both loops go round at least once, so that each round more costs the same.
	none := costs(t, program, 1, 1)
	one, other := costs(t, program, 2, 1)-none, costs(t, program, 1, 2)-none
	for more := range one {
		if left := cost - none - more*other; left >= 0 && left%one == 0 {
			return int64(1 + left/one), int64(1 + more)
		}
	}
	t.Fatalf("%d and %d words a round never come to %d", one, other, cost)
	return 0, 0
}

// 11.1: go's fuel is 400000: a machine that does just so many words ends, one that does one more does not.
func TestGoFuel(t *testing.T) {
	const program = "fn main() { var n = input(); var m = input(); var k = 0; print 3; while (n) { n = n - 1; } while (m) { m = m - 1; k = k + m; } return k; }"
	for cost, done := range map[int]bool{goFuel - 1: true, goFuel: true, goFuel + 1: false, goFuel + 2: false} {
		n, m := rounds(t, program, cost)
		if got := costs(t, program, n, m); got != cost {
			t.Fatalf("%d and %d rounds cost %d, not %d", n, m, got, cost)
		}
		want := "go 6 0 3"
		if done {
			want = fmt.Sprint("go 1 ", m*(m-1)/2, " 3")
		}
		tells(t, program, said{fmt.Sprint("go ", n, " ", m), want})
	}
	tells(t, program, said{"go 1 -1", "go 6 0 3"}, said{"go 1 3", "go 1 3 3"})
}

// heaps is a program whose calls hold many arrays: it is given how many numbers one of them has, how many calls there are, how many numbers each of their arrays has.
const heaps = "fn main() { var v = new(input()); return f(input(), input()) + len(v); } fn f(n: int, m: int) { var a = new(m); var b = new(m); var c = new(m); var d = new(m); var e = new(m); if (n) { return f(n - 1, m); } return len(a) + len(b) + len(c) + len(d) + len(e); }"

// 11.1: go's machine has 32768 bytes: neither a few less nor a few more.
func TestGoBytes(t *testing.T) {
	memory := func(bytes int, in ...int64) bool { return ends(t, heaps, true, bytes, goFuel, in...) == "8 0" }
	found := 0
	for calls := int64(4); calls < 14; calls++ {
		for m := int64(10); m <= 40; m++ {
			if memory(goBytes, 0, calls, m) || !memory(goBytes, 40, calls, m) {
				continue
			}
			// So many numbers have just room.
			n := int64(0)
			for !memory(goBytes, n+1, calls, m) {
				n++
			}
			if !memory(goBytes-48, n, calls, m) || memory(goBytes+48, n+1, calls, m) {
				t.Fatalf("%d %d %d: machines of other bytes end alike", n, calls, m)
			}
			tells(t, heaps, said{fmt.Sprint("go ", n, " ", calls, " ", m), fmt.Sprint("go 1 ", n+5*m)}, said{fmt.Sprint("go ", n+1, " ", calls, " ", m), "go 8 0"})
			found++
		}
	}
	if found == 0 {
		t.Errorf("nothing has just room")
	}
}

// long is a product of so many parts, all of which are known ahead.
func long(parts int) string {
	return strings.Repeat("6123456789012345678 * ", parts) + "0"
}

// spent is a program with a loop of so many rounds that goes on for too long, unless what is known is not reckoned.
func spent(rounds int) string {
	return fmt.Sprint("fn main() { var n = 0; while (n < ", rounds, ") { n = n + 1 + ", long(100), "; } return n; }")
}

// 11.1: go does fewer steps.
func TestGoFewer(t *testing.T) {
	if all, few := ends(t, spent(800), false, goBytes, goFuel), ends(t, spent(800), true, goBytes, goFuel); all != "6 0" || few != "1 800" {
		t.Fatalf("all steps end %s, fewer %s", all, few)
	}
	tells(t, spent(800), said{"go", "go 1 800"}, said{"go 1 2", "go 1 800"})
	// Only fewer steps have room.
	tells(t, "fn main() { return "+long(700)+"; }", said{"go", "go 1 0"})
}

// 11.1: go, and same, tell ErrLimit of words that take too much room.
func TestGoLimit(t *testing.T) {
	both := "fn main() { var x = input(); return " + strings.Repeat("x == 6123456789012345678 || ", 360) + "x; }"
	few := "fn main() { return " + long(700) + "; }"
	for program, want := range map[string][2]error{both: {api.ErrLimit, api.ErrLimit}, few: {api.ErrLimit, nil}} {
		for i, fewer := range []bool{false, true} {
			if _, err := build.Words(program, fewer, goBytes); err != want[i] {
				t.Fatalf("%s (%t): Words tells %v", cut(program), fewer, err)
			}
		}
	}
	tells(t, both, said{"go", "error 4"}, said{"go 1", "error 4"}, said{"same", "error 4"}, said{"same 1", "error 4"}, said{"run 0", "run 1 0"}, said{"code", "code true"}, said{"check", "check 1"})
	// What Parse and Check tell comes first.
	tells(t, both+" fn f() { return q; }", said{"go", "error 7"}, said{"same", "error 7"}, said{"code", "error 7"})
	tells(t, both+" fn f() { return q; } fn", said{"go", "error 3"}, said{"same", "error 3"}, said{"code", "error 3"})
	tells(t, few, said{"same", "error 4"}, said{"same 1 2", "error 4"}, said{"go", "go 1 0"}, said{"run", "run 1 0"}, said{"code", "code true"})
}

// 11.1: same tells whether machines end as the program is meant to: first the one with all steps, then the one with fewer.
func TestSame(t *testing.T) {
	// They end alike, in each Way (TestRun asks for others), and where both go on for ever.
	tells(t, inMain("print input(); return down(input());"), said{"same", "same true true"}, said{"same 5", "same true true"}, said{"same -5 7", "same true true"}, said{"same 1 41", "same true true"}, said{"same 1 9223372036854775807", "same true true"})
	tells(t, inMain("print 1; while (1) { }"), said{"same", "same true true"}, said{"run", "run 6 0 1"}, said{"go", "go 6 0 1"})
	// The program's fuel is spent, the machines' is not.
	tells(t, inMain("print 4; var n = 1500; while (n) { n = n - 1; } return 9;"), said{"run", "run 6 0 4"}, said{"go", "go 1 9 4"}, said{"same", "same false false"})
	tells(t, inMain("var n = 1500; while (n) { n = n - 1; } while (1) { }"), said{"same", "same true true"})
	tells(t, inMain("var n = 1500; while (n) { n = n - 1; } print 1; while (1) { }"), said{"run", "run 6 0"}, said{"go", "go 6 0 1"}, said{"same", "same false false"})
	// The machines' fuel is spent, the program's is not.
	heavy := inMain("print 3; var n = 100; while (n) { n = n - 1 + 0 * (" + strings.Repeat("len(new(40)) + ", 150) + "0); } print 4; return 5;")
	tells(t, heavy, said{"run", "run 1 5 3 4"}, said{"go", "go 6 0 3"}, said{"same", "same false false"})
	// Only that of all steps is; then that of the program, too.
	tells(t, spent(800), said{"run", "run 1 800"}, said{"go", "go 1 800"}, said{"same", "same false true"})
	tells(t, spent(1000), said{"run", "run 6 0"}, said{"go", "go 1 1000"}, said{"same", "same true false"})
	// The machines want for memory.
	tells(t, heaps, said{"run 40 12 40", "run 1 240"}, said{"go 40 12 40", "go 8 0"}, said{"same 40 12 40", "same false false"}, said{"same 3 12 3", "same true true"}, said{"same 41 12 3", "same true true"})
}

// 11.1: an END is Way, Code and what was told: same looks at all of them.
func TestSameLooksAtAll(t *testing.T) {
	// Where the machine's fuel is spent it told less, or as much; its Way is another one in both cases.
	slow := "var n = 100; while (n) { n = n - 1 + 0 * (" + strings.Repeat("len(new(40)) + ", 150) + "0); } "
	tells(t, inMain(slow+"return 0;"), said{"run", "run 1 0"}, said{"go", "go 6 0"}, said{"same", "same false false"})
	// Both Ways are Fuel, both Codes 0; the machine told more.
	tells(t, inMain("var n = 0; while (1) { n = n + 1; if (n == 1200) { print n; } }"), said{"run", "run 6 0"}, said{"go", "go 6 0 1200"}, said{"same", "same false false"})
	tells(t, inMain("print 1; var n = 0; while (1) { n = n + 1; if (n == 1200) { print 2; } }"), said{"run", "run 6 0 1"}, said{"go", "go 6 0 1 2"}, said{"same", "same false false"})
}

// 11.1: code tells true, if there are fewer steps, and if there are as many.
func TestCode(t *testing.T) {
	for program, fewer := range map[string]bool{
		"fn main() { return 1 + 2 * 3; }":                             true,
		"fn main() { if (1) { print 1; } else { print 2; } }":         true,
		"fn main() { return 7; }":                                     false,
		"fn main() { print input(); return 7; }":                      false,
		"fn main() { return f(input()); } fn f(a: int) { return a; }": false,
	} {
		all, err := build.Steps(program, false)
		few, err2 := build.Steps(program, true)
		if err != nil || err2 != nil || fewer != (few.Steps() < all.Steps()) {
			t.Fatalf("%s has %d steps, fewer %d", program, all.Steps(), few.Steps())
		}
		tells(t, program, said{"code", "code true"}, said{"  code ", "code true"})
	}
}
