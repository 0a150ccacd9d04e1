package build_test

import (
	"fmt"
	"strings"
	"testing"

	"bloomery/api"
	"bloomery/run"
)

// churns are programs of at most 200 tokens without a Call in which arrays are made again and again and dropped, while others are held; and how they end.
func churns() []meant {
	nest := strings.Repeat("new(40)[", 12) + "0" + strings.Repeat("]", 12)
	held := ""
	for _, s := range strings.Fields("b c d e f g h i j k l") {
		held += "var " + s + " = new(40); "
	}
	return []meant{
		// One after another, in one name; those of a block that ended; those that no name has.
		{"fn main() { var n = 900; var v = new(40); while (n) { v = new(40); v[39] = v[39] + n; n = n - 1; } return v[39]; }", "Done 1 []"},
		{"fn main() { var n = 900; var s = 0; while (n) { var v = new(40); s = s + v[n % 40]; v[n % 40] = n; n = n - 1; } return s; }", "Done 0 []"},
		{"fn main() { var n = 900; var s = 0; while (n) { s = s + len(new(40)) + new(n % 41)[0] * len(new(39)); n = n - 1; } return s; }", "Bounds 0 []"},
		{"fn main() { var n = 900; var s = 0; while (n) { s = s + len(new(40)) + new(n % 40 + 1)[0] * len(new(39)); n = n - 1; } return s; }", "Done 36000 []"},
		// Held all the time, by one name, by several, by one that takes it from another one.
		{"fn main() { var a = new(40); var b = a; var n = 900; var c = b; while (n) { var v = new(40); a[n % 40] = n; v[1] = b[n % 40]; c[0] = c[0] + v[1]; n = n - 1; } print a[0]; print b[0]; print c[0]; b[7] = -1; print a[7]; return c[7]; }", "Done -1 [860 860 860 -1]"},
		{"fn main() { var keep = new(3); keep[1] = 77; var n = 900; while (n > 0) { n = n - 1; var b = new(40); keep[2] = keep[2] + len(b); } print keep[1]; print keep[2]; return keep[0]; }", "Done 0 [77 36000]"},
		{"fn main() { var a = new(40); var b = a; var c = new(2); a[39] = 5; var n = 900; while (n) { c = new(40); c[0] = n; b[39] = a[39] + c[0]; a = b; n = n - 1; } print a[39]; b[0] = 4; return a[0]; }", "Done 4 [405455]"},
		{"fn main() { var a = new(9); var b = new(9); var n = 901; while (n) { var h = a; a = b; b = h; a[8] = a[8] + 1; h = new(40); n = n - 1; } print a[8]; return b[8]; }", "Done 450 [451]"},
		{"fn main() { var old = new(40); var n = 900; while (n) { var v = new(40); v[0] = old[0] + 1; v[39] = old[0]; old = v; n = n - 1; } print old[39]; return old[0]; }", "Done 900 [899]"},
		{"fn main() { var a = new(0); var b = new(1); var n = 900; while (n) { a = new(0); b = new(1); b[0] = len(a) + n; var c = new(n % 41); n = n - 1; } return b[0] + len(a); }", "Done 1 []"},
		{"fn main() { var a = new(1); var n = 900; while (n) { var b = a; if (n % 2) { a = new(n % 40 + 1); a[0] = b[0] + 1; } else { b = new(40); b[0] = n; } n = n - 1; } return a[0]; }", "Done 450 []"},
		{"fn main() { var v = new(40); var n = 0; while (1) { v = new(40); v[0] = n; n = n + 1; if (n % 10 == 0) { print v[0] - n; } } }", "Full 0 " + full(-1)},
		{"fn main() { var v = new(40); var n = 900; while (n) { n = n - 1; v = new(n - v[0]); } }", "Size 0 []"},
		{"fn main() { var n = 900; while (n) { n = n - 1; var v = new(40); v[0] = 1 / n; print 7; } }", "Full 0 " + full(7)},
		{"fn main() { var n = 900; while (n) { n = n - 1; var v = new(40); v[0] = 1 / n; } }", "Zero 0 []"},
		{"fn main() { var n = 900; var k = new(2); k[1] = 6; while (n) { n = n - 1; var v = new(40); if (n == 4) { print k[1]; v[40] = 1; } } }", "Bounds 0 [6]"},
		{"fn main() { var n = 60; var k = new(2); while (n) { n = n - 1; k[1] = k[1] + len(new(40)) + " + nest + "; } return k[1]; }", "Done 2400 []"},
		{"fn main() { var n = 90; " + held + "while (n) { n = n - 1; b = new(40); c = b; d[n % 40] = n; e = d; f = new(40); g = f; h = new(40); i[7] = i[7] + 1; } return i[7] + d[9]; }", "Done 99 []"},
		{"fn main() { var n = 90; " + held + "while (n) { n = n - 1; l = new(40); n = n + " + nest + "; } return n; }", "Done 0 []"},
		{"fn main() { var n = 90; while (n) { n = n - 1; " + held + "b[2] = c[2] + d[2] + e[2] + f[2] + g[2] + h[2] + i[2] + j[2] + k[2] + l[2]; if (b[2]) { return 1; } c[2] = 1; l[2] = 1; } return 3; }", "Done 3 []"},
	}
}

// 10.2: the greatest machine does not end with Memory, if there are at most 200 tokens and no Call: who drops makes room.
func TestDropped(t *testing.T) {
	for _, c := range churns() {
		s, want := c.text, c.want
		if n := tokens(s); n > 200 || calls(parse(t, s)) {
			t.Fatalf("%s\nhas %d tokens, or a Call", s, n)
		}
		if got := tell(run.Run(parse(t, s), nil, 100_000)); got != want {
			t.Fatalf("%s\nends %s; %s is asked", s, got, want)
		}
		for _, m := range makes(t, s, api.MaxBytes) {
			if got := tell(m.machine(t, nil).Run(plenty)); got != want {
				t.Errorf("%s ends %s; %s is asked", m, got, want)
			}
		}
	}
}

// 10.2: arrays that those that wait hold stay as they are, while others are made and dropped, and calls come and go of which each has places for arrays of its own.
func TestHeldInCalls(t *testing.T) {
	fill := "fn fill(v: arr, n: int) { var i = len(v); while (i) { i = i - 1; v[i] = n * 1000003 + i; } return n; } " +
		"fn sum(v: arr) { var i = len(v); var s = 0; while (i) { i = i - 1; s = s + v[i]; } return s; } "
	// g has the places that f left behind, and room is made in main between, and in g before it has arrays of its own in all of them.
	ends(t, fill+`fn main() { var k = new(5); var n = 40; fill(k, 1); while (n) { n = n - 1; f(n); var i = 30 + n; while (i) { i = i - 1; var w = new(i % 20 + 3); var j = len(w); while (j) { j = j - 1; w[j] = 1000003 * i; } } if (g(n)) { return 1; } } return sum(k); }
		fn f(n: int) { var a = new(17); var b = new(n % 41); var c = new(7); fill(a, n); fill(b, n); return fill(c, n); }
		fn g(n: int) { var i = 30; while (i) { i = i - 1; var a = new(20); a[n % 20] = a[19] + i; } var b = new(9); var c = b; fill(b, n); return sum(c) != sum(b) + len(new(0)); }`,
		"Done 5000025 []")
	// Those that wait have one array by several names, and each of them writes into it.
	ends(t, fill+`fn main() { var k = new(3); var l = k; var n = f(k, l, 9); print n; k[0] = k[0] + 1; print l[0]; print k[1]; return l[2]; }
		fn f(v: arr, w: arr, n: int) { var x = v; v[0] = v[0] + n; if (n) { f(w, v, n - 1); } var i = 40; while (i) { i = i - 1; var y = new(30); fill(y, i); } w[1] = v[0] * 10; x[2] = w[1] + n; return v[2] + w[2] + x[2]; }`,
		"Done 459 [1377 46 450]")
	// Each call has ten places for arrays, but few numbers: there is no more room for places first.
	ends(t, fill+`fn main() { var k = new(12); fill(k, 2); print sum(k); print f(8, k); return sum(k); }
		fn f(n: int, k: arr) { var a = new(0); var b = a; var c = b; var d = c; var e = d; var g = e; var h = g; var i = h; var j = k; print n; if (n) { f(n - 1, j); } return sum(j) + len(a) + len(b) + len(c) + len(d) + len(e) + len(g) + len(h) + len(i); }`,
		"Done 24000138 "+merged(merged("[24000138]", counted(8, 0)), "[24000138]"))
}

// holders are programs in which those that wait hold arrays, and how they end.
func holders() []meant {
	return []meant{
		{"fn main() { return f(0); } fn f(n: int) { var a = new(40); print n; if (n < 30) { f(n + 1); } a[0] = n; print a[0] + 100; return len(a); }", "Done 40 " + merged(counted(0, 30), counted(130, 100))},
		{"fn main() { print 1; return f(new(40), 20); } fn f(v: arr, n: int) { v[n] = n; if (n) { print n; return v[n] + f(v, n - 1); } print v[20]; return v[1]; }", "Done 211 " + merged(merged("[1]", counted(20, 1)), "[20]")},
		{"fn main() { return f(0); } fn f(n: int) { var a = new(40); var b = new(40); var c = new(40); print n; return f(n + 1) + len(a) + len(b) + len(c); }", "Deep 0 " + counted(0, 38)},
		{"fn main() { var n = 30; while (n) { print f(n % 7); n = n - 1; } } fn f(n: int) { var a = new(40); a[n] = n; if (n) { f(n - 1); } return a[n]; }", "Done 0 [2 1 0 6 5 4 3 2 1 0 6 5 4 3 2 1 0 6 5 4 3 2 1 0 6 5 4 3 2 1]"},
	}
}

// merged is two lists, as texts, one behind the other.
func merged(a, b string) string { return strings.TrimSuffix(a, "]") + " " + strings.TrimPrefix(b, "[") }

// 10.2: Memory: Code is 0, and what was told is the beginning of what Run tells; a program with Calls may meet it in the greatest machine, too.
func TestMemory(t *testing.T) {
	for _, c := range holders() {
		s, want := c.text, c.want
		if got := tell(run.Run(parse(t, s), nil, road)); got != want {
			t.Fatalf("%s\nends %s; %s is asked", s, got, want)
		}
		met := map[int]int{}
		for _, m := range makes(t, s, 1024, 1200, 1520, 2000, 2504, 3008, 4096, 6000, 8192, 12000, 16384, 24000, 32768, api.MaxBytes) {
			met[m.ask(t, nil).Way]++
		}
		if met[api.Memory] == 0 {
			t.Errorf("%s\nnever met Memory", s)
		}
	}
	// 40 calls that hold 11 arrays each have no room anywhere.
	s := "fn main() { return f(0); } fn f(n: int) { print n; "
	for i := range 11 {
		s += fmt.Sprint("var a", i, " = new(40); ")
	}
	for _, m := range makes(t, s+"return f(n + 1) + a0[0] + a10[0]; }", sizes...) {
		if got := m.ask(t, nil); got.Way != api.Memory || len(got.Out) == 0 && m.bytes >= 8192 {
			t.Errorf("%s ends %s", m, tell(got))
		}
	}
	// Nothing is told of a call that has no room.
	for _, m := range makes(t, "fn main() { print 1; return f(2); } fn f(n: int) { print n; print n - ("+strings.Repeat("n - (n * ", 5)+"n"+strings.Repeat(")", 5)+"); return f(n + 1); }", 1024, 1104, 1600, 2048) {
		m.ask(t, nil)
	}
}

// 10.2: with more bytes a machine ends as with fewer, unless those wanted for memory: what has room in some, has it in more, by whichever few.
func TestMoreBytes(t *testing.T) {
	lists := [][]int64{{0, 9, 7}, {3, 12, 5}, {6, 20, 2}, {13, 14, 15}, {22, 4, 23}, {28, 6, 28}, {33, 33, 33}, {40, 40, 40}}
	for _, s := range []string{
		"fn main() { return len(new(input())); }", "fn main() { var v = new(input()); v = new(input()); print len(v); v = new(input()); return len(v); }",
		"fn main() { return f(input()); } fn f(n: int) { if (n) { print n; return f(n - 1); } return 3; }",
		"fn main() { return f(input(), new(1)); } fn f(n: int, v: arr) { var w = new(0); if (n) { w = v; print n; return f(n - 1, w) + len(w); } return 3; }",
	} {
		more(t, s, lists)
	}
	for _, c := range holders() {
		more(t, c.text, [][]int64{nil})
	}
}

// more asks a program of machines of all sizes up to some: if one of them has enough memory, those that are greater end as it does.
func more(t *testing.T, s string, lists [][]int64) {
	t.Helper()
	var sizes []int
	for bytes := 1024; bytes < 4096; bytes += 8 {
		sizes = append(sizes, bytes)
	}
	all := makes(t, s, sizes...)
	for _, in := range lists {
		ended := map[bool]string{}
		for _, m := range all {
			got := m.ask(t, in)
			if before := ended[m.fewer]; before != "" && before != tell(got) {
				t.Fatalf("%s of %v ends %s; with fewer bytes %s", m, in, tell(got), before)
			}
			if got.Way != api.Memory {
				ended[m.fewer] = tell(got)
			}
		}
	}
}

// 10.2: likewise with drawn programs, and greater steps.
func TestMoreBytesDrawn(t *testing.T) {
	for seed := range int64(60) {
		s := drawn(newDie(seed), 400, seed%4 > 0)
		in := drawnNumbers(newDie(seed))
		ended := map[bool]string{}
		for _, m := range makes(t, s, 1024, 1032, 1088, 1152, 1216, 1536, 2048, 2056, 3000, 4096, 5000, 8192, 16384, 32768, 40000, api.MaxBytes-8, api.MaxBytes) {
			got := m.ask(t, in)
			if got.Way == api.Fuel {
				break
			}
			if ended[m.fewer] != "" && ended[m.fewer] != tell(got) {
				t.Fatalf("%s of %v ends %s; with fewer bytes %s", m, in, tell(got), ended[m.fewer])
			}
			if got.Way != api.Memory {
				ended[m.fewer] = tell(got)
			}
		}
	}
}
