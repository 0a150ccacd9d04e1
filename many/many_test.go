package many_test

import (
	"fmt"
	"math"
	"runtime"
	"slices"
	"strings"
	"sync"
	"testing"
	"time"

	"bloomery/api"
	"bloomery/desk"
	"bloomery/many"
)

// mostWorkers and mostTexts are bounds of All.
const (
	mostWorkers = 16
	mostTexts   = 50
)

// plain are so many texts, each of which is answered otherwise than the others.
func plain(n int) []string {
	var l []string
	for i := range n {
		l = append(l, fmt.Sprint("new fn main() { print ", i, "; }\nrun\nx\nregs addi x5,x0,", i))
	}
	return l
}

// unequal are texts of very unequal length, and of which some take a thousand times as long as others.
func unequal() []string {
	const talks = "new fn main() { while (1) { print 5; print input(); } }\n"
	l := []string{
		"new fn main() { var n = 5; while (1) { n = n * n - 1; } }\ngo\nsame\ngo",
		"", "\n", "help",
		"new fn main() { return 1 + 2; }\ncheck\nprint\nrun\ngo\nsame\ncode\nasm ecall\nword 19\nregs",
		talks + strings.Repeat("run 1 2 3\n", 300),
		"x",
		strings.Repeat("help\n", api.MaxText/5),
		strings.Repeat("h", api.MaxText+1),
		talks + strings.Repeat("go\n", 30),
		"check",
	}
	for i := range mostTexts - len(l) {
		l = append(l, fmt.Sprint("new fn main() { var n = ", i*i*i%997, "; while (n) { n = n - 1; } print ", i, "; }\n", strings.Repeat("go\n", i%7), "run"))
	}
	return l
}

// sessions are the answers to texts, one by one.
func sessions(texts []string) []string {
	l := make([]string, len(texts))
	for i, s := range texts {
		l[i] = desk.Session(s)
	}
	return l
}

// answers asks that texts are answered as Session does it, in order.
func answers(t *testing.T, texts, want []string, workers int) {
	t.Helper()
	got, err := many.All(texts, workers)
	if err != nil {
		t.Fatalf("%d texts, %d workers: %v", len(texts), workers, err)
	}
	if len(got) != len(want) {
		t.Fatalf("%d texts, %d workers: %d answers", len(texts), workers, len(got))
	}
	for i := range want {
		if got[i] != want[i] {
			t.Errorf("%d texts, %d workers: %.200q is answered %.200q; %.200q is asked", len(texts), workers, texts[i], got[i], want[i])
		}
	}
}

// 12.1: ErrLimit: more than 50 texts, or workers that are not from 1 to 16; with it there is no answer.
func TestLimit(t *testing.T) {
	for _, n := range []int{0, 1, 2, mostTexts - 1, mostTexts, mostTexts + 1, mostTexts + 2, 1000} {
		texts := plain(n)
		want := sessions(texts)
		for _, workers := range []int{math.MinInt, math.MinInt32, -17, -16, -1, 0, 1, 2, 15, 16, 17, 18, 50, 51, 1 << 16, 1<<32 + 1, math.MaxInt} {
			if n <= mostTexts && workers >= 1 && workers <= mostWorkers {
				answers(t, texts, want, workers)
				continue
			}
			if l, err := many.All(texts, workers); len(l) > 0 || l != nil || err != api.ErrLimit {
				t.Errorf("%d texts, %d workers: %d answers, %v; ErrLimit is asked", n, workers, len(l), err)
			}
		}
	}
}

// 12.1: no texts have no answers, with however many workers.
func TestNone(t *testing.T) {
	for workers := 1; workers <= mostWorkers; workers++ {
		for _, texts := range [][]string{nil, {}, make([]string, 0, 4)} {
			answers(t, texts, nil, workers)
		}
	}
}

// 12.1: the answers are Session's, in the texts' order, with as many texts as there may be, and as many workers: more than texts, and fewer.
func TestEach(t *testing.T) {
	texts := plain(mostTexts)
	want := sessions(texts)
	for n := range mostTexts + 1 {
		for workers := 1; workers <= mostWorkers; workers++ {
			answers(t, texts[:n], want[:n], workers)
		}
	}
}

// 12.1: texts of very unequal length are answered alike, whoever is ready first, whichever of them comes first.
func TestUnequal(t *testing.T) {
	texts := unequal()
	want := sessions(texts)
	for workers := 1; workers <= mostWorkers; workers++ {
		answers(t, texts, want, workers)
	}
	slices.Reverse(texts)
	slices.Reverse(want)
	for _, workers := range []int{1, 2, 3, 16} {
		answers(t, texts, want, workers)
	}
}

// 12.1: a text that is there twice is answered twice; no session knows of another one, also of one that the same worker answered.
func TestAlone(t *testing.T) {
	var texts, want []string
	for i := range mostTexts / 2 {
		texts = append(texts, fmt.Sprint("new fn main() { return ", i%3, "; }\nrun"), "print\nrun")
		want = append(want, fmt.Sprint("new\nrun 1 ", i%3, "\n"), "print \nerror 8\n")
	}
	for workers := 1; workers <= mostWorkers; workers++ {
		answers(t, texts, want, workers)
	}
}

// P4: the texts that were handed in are as they were, and so is what stands behind them; the answers are the caller's.
func TestGiven(t *testing.T) {
	all := plain(mostTexts)
	before := slices.Clone(all)
	want := sessions(all[:20])
	for workers := 1; workers <= mostWorkers; workers++ {
		l, err := many.All(all[:20], workers)
		if err != nil || !slices.Equal(l, want) {
			t.Fatalf("%d workers: %v, %v", workers, l, err)
		}
		clear(l)
		_ = append(l, "more")
		if !slices.Equal(all, before) {
			t.Fatalf("%d workers: the texts are %q", workers, all)
		}
		answers(t, all[:20], want, workers)
	}
	// What is changed behind the answer changes no answer.
	l, _ := many.All(all[:20], 4)
	clear(all)
	if !slices.Equal(l, want) {
		t.Errorf("the answers hang on the texts still")
	}
}

// P4: who asks at the same time as others is answered as alone.
func TestAtTheSameTime(t *testing.T) {
	texts := plain(20)
	want := sessions(texts)
	var all sync.WaitGroup
	for workers := 1; workers <= mostWorkers; workers++ {
		all.Add(1)
		go func() {
			defer all.Done()
			l, err := many.All(texts, workers)
			if err != nil || !slices.Equal(l, want) {
				t.Errorf("%d workers: %.200q, %v", workers, l, err)
			}
		}()
	}
	all.Wait()
}

// No worker goes on when All has answered.
func TestJoined(t *testing.T) {
	before := runtime.NumGoroutine()
	for range 20 {
		for workers := range mostWorkers + 2 {
			many.All(plain(5), workers)
		}
	}
	// Who has said that it is done may take a moment to be gone.
	for range 1000 {
		if runtime.NumGoroutine() <= before {
			return
		}
		time.Sleep(time.Millisecond)
	}
	t.Errorf("%d go on, %d did before", runtime.NumGoroutine(), before)
}
