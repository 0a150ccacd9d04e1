package emit_test

import (
	"fmt"
	"testing"

	"bloomery/api"
	"bloomery/emit"
	"bloomery/mid"
)

// tight are the words of steps for a layout in which so many bytes are just there: for roots, for each space, for the stack; with some that are nobody's behind the words, and ahead of the stack.
func tight(t *testing.T, what string, c *mid.Code, roots, space, stack int) made {
	t.Helper()
	n := len(assembled(t, what, text(t, what, c, emit.Layout{})))
	l := emit.Layout{Code: emit.Plan(n, 0).Code}
	l.Roots = l.Code + 48
	l.Space = l.Roots + roots
	l.Other = l.Space + space
	l.Floor = l.Other + space + 56
	l.Bytes = l.Floor + stack
	return made{words(t, what, text(t, what, c, l)), l}
}

// just asks that steps need just so many bytes, of each: with as many, and with more, they end as it is told; with fewer of one of them they end with Memory.
func just(t *testing.T, what string, c *mid.Code, want string, roots, space, stack int) {
	t.Helper()
	end := func(r, s, f int) string {
		t.Helper()
		return tell(askAs(t, what, tight(t, what, c, r, s, f), nil, want))
	}
	for _, more := range []int{0, 8, 16, 24, 400, 4000} {
		for _, got := range []string{end(roots+more, space, stack), end(roots, space+more, stack), end(roots, space, stack+more), end(roots+more, space+more, stack+more)} {
			if got != want {
				t.Errorf("%s: with %d, %d, %d bytes, and %d more, it ends %s", what, roots, space, stack, more, got)
			}
		}
	}
	memory := func(r, s, f int) {
		t.Helper()
		if got := end(max(0, r), max(0, s), max(0, f)); got[:6] != "Memory" {
			t.Errorf("%s: with %d, %d, %d bytes it ends %s", what, r, s, f, got)
		}
	}
	for _, less := range []int{8, 16, 40, 4000} {
		if roots > 0 {
			memory(roots-less, space, stack)
		}
		if space > 0 {
			memory(roots, space-less, stack)
		}
		if stack > 0 {
			memory(roots, space, stack-less)
		}
	}
}

// 9.1: the roots, both spaces and the stack lie where the layout says: their bytes are used to the last one, and none beside them.
func TestRoom(t *testing.T) {
	const n = 8 // bytes of a number
	just(t, "a number", main(ret(x)), "Done 0 []", 0, 0, 2*n)
	just(t, "three numbers", main(num(x, 1), num(y, 2), two(z, x, "+", y), ret(z)), "Done 3 []", 0, 0, 4*n)
	just(t, "arrays without numbers", main(length(x, v), length(x, w), array(u, x), ret(x)), "Done 0 []", 3*n, 0, 2*n)
	just(t, "an array", main(num(x, 5), array(v, x), length(x, v), ret(x)), "Done 5 []", n, 6*n, 2*n)
	just(t, "two arrays", main(num(x, 5), array(v, x), num(x, 40), array(w, x), length(x, v), ret(x)), "Done 5 []", 2*n, 47*n, 2*n)
	just(t, "an array that is held while another one takes its place", main(num(x, 5), array(v, x), num(x, 7), array(v, x), length(x, v), ret(x)), "Done 7 []", n, 14*n, 2*n)
	just(t, "one that two places have", main(num(x, 5), array(v, x), copied(w, v), num(x, 7), array(v, x), num(x, 8), array(v, x), length(x, w), ret(x)), "Done 5 []", 2*n, (6+8+9)*n, 2*n)
	for k := range int64(6) {
		want := fmt.Sprint("Done ", k, " [", k, "]")
		just(t, fmt.Sprint("calls within ", k, " calls"), down(k), want, 0, 0, 3*n+int(k+1)*4*n)
	}
	deepest := int64(api.MaxCalls - 2)
	just(t, "as deep as may be", down(deepest), fmt.Sprint("Done ", deepest, " [", deepest, "]"), 0, 0, 3*n+int(deepest+1)*4*n)
	// Each call holds an array as great as its number, and one more place.
	hold := program(steps(num(x, 6), call(y, "f", x, v), ret(y)), mid.Fn{Name: "f", Params: 2, Types: []int{api.Int, api.Arr, api.Arr, api.Int}, Steps: steps(
		array(2, 0), zero(0, 1), num(3, 1), two(3, 0, "-", 3), call(3, "f", 3, 2), show(0), length(3, 1), show(3), length(3, 2), ret(3), label(1), ret(0),
	)})
	just(t, "arrays in calls", hold, "Done 6 [1 2 2 3 3 4 4 5 5 6 6 0]", n+7*2*n, (7+6+5+4+3+2)*n, 3*n+7*3*n)
	held := program(steps(num(x, 3), array(v, x), num(y, 1), num(z, 21), store(v, y, z), num(x, 40), num(z, 60), call(x, "churn", x, z), load(x, v, y), ret(x)), churn())
	just(t, "one that is held, and one behind the other", held, "Done 21 []", 2*n, (4+2*41)*n, 4*n+6*n)
}

// 9.1: Memory: what is dropped makes room, however often; what is held does not, and it ends with Memory.
func TestHeldForEver(t *testing.T) {
	// down(n) holds an array of 40 numbers in each call.
	c := program(steps(num(x, 39), call(x, "f", x), ret(x)), mid.Fn{Name: "f", Params: 1, Types: []int{api.Int, api.Arr, api.Int}, Steps: steps(
		show(0), num(2, 40), array(1, 2), zero(0, 1), num(2, 1), two(2, 0, "-", 2), call(2, "f", 2), label(1), length(0, 1), ret(0),
	)})
	for room := range 39 {
		m := tight(t, "held for ever", c, 400, room*41*8, 4000)
		got := ask(t, "held for ever", c, m, nil)
		if got.Way != api.Memory || len(got.Out) != room+1 {
			t.Errorf("with room for %d arrays it ends %s", room, tell(got))
		}
	}
	if got := ask(t, "held for ever", c, tight(t, "held for ever", c, 400, 39*41*8, 4000), nil); got.Way != api.Deep {
		t.Errorf("with room for all it ends %s", tell(got))
	}
}
