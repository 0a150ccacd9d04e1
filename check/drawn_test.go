package check_test

import (
	"fmt"
	"math/rand"
	"slices"
	"strings"
	"testing"

	"bloomery/api"
	"bloomery/check"
)

// tooLong is a text that no more statements are added to, so that it stays within MaxTokens.
const tooLong = 2000

// maker writes programs, from the left, in the order in which they are looked at. It knows of each fault that it plants, and keeps the first.
type maker struct {
	d     *rand.Rand
	rare  int // of so many places one has a fault; 0: none has
	text  strings.Builder
	funcs []api.Func
	names []api.Param
	count int
	err   api.Errno
	place int
}

func (m *maker) at() int { return m.text.Len() }

func (m *maker) write(s string) { m.text.WriteString(s) }

// fault: is one to be planted here?
func (m *maker) fault() bool { return m.rare > 0 && m.d.Intn(m.rare) == 0 }

func (m *maker) found(err api.Errno, place int) {
	if m.err == 0 {
		m.err, m.place = err, place
	}
}

func other(kind int) int { return api.Int + api.Arr - kind }

// named is a name that stands for a variable of a type, if there is any.
func (m *maker) named(kind int) (string, bool) {
	for _, i := range m.d.Perm(len(m.names)) {
		if m.names[i].Type == kind {
			return m.names[i].Name, true
		}
	}
	return "", false
}

// fresh is a name that stands for nothing there.
func (m *maker) fresh() string {
	for {
		s := fmt.Sprint("n", m.d.Intn(30))
		if !slices.ContainsFunc(m.names, func(p api.Param) bool { return p.Name == s }) {
			return s
		}
	}
}

// must writes an expression where one of a type must stand, or one of the other.
func (m *maker) must(kind, deep int) {
	if !m.fault() {
		m.expr(kind, deep)
		return
	}
	m.found(api.ErrArg, m.expr(other(kind), deep))
}

// expr writes an expression of a type, and tells where it begins.
func (m *maker) expr(kind, deep int) int {
	at := m.at()
	s, ok := m.named(kind)
	switch {
	case m.fault():
		m.found(api.ErrMissing, at)
		m.write(m.fresh())
	case ok && m.d.Intn(3) == 0:
		m.write(s)
	case kind == api.Arr:
		m.write("new(")
		m.must(api.Int, deep-1)
		m.write(")")
	case deep <= 0:
		m.write([]string{"0", "17", "input()"}[m.d.Intn(3)])
	default:
		return m.deeper(deep - 1)
	}
	return at
}

// deeper writes an Int of which others are parts, and tells where it begins.
func (m *maker) deeper(deep int) int {
	at := m.at()
	switch m.d.Intn(5) {
	case 0:
		m.write("(")
		m.must(api.Int, deep)
		m.write(" " + marks[m.d.Intn(len(marks))] + " ")
		m.must(api.Int, deep)
		m.write(")")
		return at + 1
	case 1:
		m.write([]string{"(-", "(!"}[m.d.Intn(2)])
		m.must(api.Int, deep)
		m.write(")")
		return at + 1
	case 2:
		m.write("len(")
		m.must(api.Arr, deep)
		m.write(")")
	case 3:
		m.must(api.Arr, deep)
		m.write("[")
		m.must(api.Int, deep)
		m.write("]")
	default:
		m.call(deep)
	}
	return at
}

// call writes a call.
func (m *maker) call(deep int) {
	f := m.funcs[m.d.Intn(len(m.funcs))]
	params := f.Params
	switch {
	case m.fault():
		m.found(api.ErrMissing, m.at())
		f.Name = "nobody"
	case m.fault():
		m.found(api.ErrRange, m.at())
		params = append(params[:len(params):len(params)], api.Param{Type: api.Arr})
	case len(params) > 0 && m.fault():
		m.found(api.ErrRange, m.at())
		params = params[1:]
	}
	m.write(f.Name + "(")
	for i, p := range params {
		if i > 0 {
			m.write(", ")
		}
		m.must(p.Type, deep)
	}
	m.write(")")
}

// add lets a name stand for a variable, or tells that it may not.
func (m *maker) add(p api.Param, at int) {
	switch {
	case slices.ContainsFunc(m.names, func(q api.Param) bool { return q.Name == p.Name }):
		m.found(api.ErrTwice, at)
	case m.count == api.MaxVars:
		m.found(api.ErrFull, at)
	default:
		m.count++
		m.names = append(m.names, p)
	}
}

// block writes statements in { and }.
func (m *maker) block(deep int) {
	m.write("{ ")
	outside := len(m.names)
	for n := m.d.Intn(8); n > 0 && m.at() < tooLong; n-- {
		m.stmt(deep)
	}
	m.names = m.names[:outside]
	m.write("} ")
}

// stmt writes a statement.
func (m *maker) stmt(deep int) {
	n := m.d.Intn(9)
	switch {
	case n < 3:
		m.variable()
		return
	case n == 3:
		m.put()
		return
	case n == 4:
		m.set()
		return
	case n == 5:
		m.call(1)
		m.write("; ")
		return
	case n > 6 && deep > 0:
		m.write([]string{"if (", "while ("}[n-7])
		m.must(api.Int, 2)
		m.write(") ")
		m.block(deep - 1)
		if n == 7 && m.d.Intn(2) == 0 {
			m.write("else ")
			m.block(deep - 1)
		}
		return
	}
	m.write([]string{"return ", "print "}[m.d.Intn(2)])
	m.must(api.Int, 3)
	m.write("; ")
}

// variable writes a var, where there is room for its name.
func (m *maker) variable() {
	at, p := m.at(), api.Param{Name: m.fresh(), Type: api.Int + m.d.Intn(2)}
	// Few functions have so many names: where one does, the fault is likely.
	if m.count == api.MaxVars && (m.rare == 0 || m.d.Intn(2) == 0) {
		return
	}
	if len(m.names) > 0 && m.fault() {
		p.Name = m.names[m.d.Intn(len(m.names))].Name
	}
	m.write("var " + p.Name + " = ")
	m.expr(p.Type, 2)
	m.write("; ")
	m.add(p, at)
}

// set writes a Set, if there is a variable.
func (m *maker) set() {
	kind := api.Int + m.d.Intn(2)
	s, ok := m.named(kind)
	if m.fault() {
		m.found(api.ErrMissing, m.at())
		s, ok = m.fresh(), true
	}
	if !ok {
		return
	}
	m.write(s + " = ")
	m.must(kind, 2)
	m.write("; ")
}

// put writes a Put, if there is an array.
func (m *maker) put() {
	s, ok := m.named(api.Arr)
	if m.fault() {
		m.found(api.ErrMissing, m.at())
		s, ok = m.fresh(), true
	} else if i, is := m.named(api.Int); is && m.fault() {
		m.found(api.ErrArg, m.at())
		s, ok = i, true
	}
	if !ok {
		return
	}
	m.write(s + "[")
	m.must(api.Int, 2)
	m.write("] = ")
	m.must(api.Int, 2)
	m.write("; ")
}

// function writes a function.
func (m *maker) function(f api.Func) {
	m.names, m.count = nil, 0
	at := m.at()
	m.write("fn " + f.Name + "(")
	for i, p := range f.Params {
		if i > 0 {
			m.write(", ")
		}
		m.write(p.Name + []string{": int", ": arr"}[p.Type-api.Int])
		m.add(p, at)
	}
	m.write(") ")
	m.block(2)
}

// program writes a program of main and some other functions.
func (m *maker) program() string {
	m.funcs = []api.Func{{Name: "main"}}
	for i := range m.d.Intn(4) {
		f := api.Func{Name: fmt.Sprint("f", i)}
		for k := range m.d.Intn(4) {
			p := api.Param{Name: fmt.Sprint("n", k), Type: api.Int + m.d.Intn(2)}
			if m.fault() {
				p.Name = "n0"
			}
			f.Params = append(f.Params, p)
		}
		m.funcs = append(m.funcs, f)
	}
	for _, f := range m.funcs {
		m.function(f)
	}
	return m.text.String()
}

// 5.1: of programs without a fault nothing is found, in any order of their functions.
func TestAnyOrder(t *testing.T) {
	d := rand.New(rand.NewSource(5))
	for range 2000 {
		m := &maker{d: d}
		s := m.program()
		if m.err != 0 {
			t.Fatalf("%q: a fault was planted", s)
		}
		right(t, s)
		l := parse(t, s)
		d.Shuffle(len(l), func(i, k int) { l[i], l[k] = l[k], l[i] })
		if err := check.Check(l); err != nil {
			t.Errorf("Check of %q in another order: %s; nothing is to be found", s, tell(err))
		}
	}
}

// 5.1: of programs with faults the first one is found, of whichever kind it is.
func TestPlanted(t *testing.T) {
	d := rand.New(rand.NewSource(6))
	kinds := map[api.Errno]int{}
	for range 10_000 {
		m := &maker{d: d, rare: 20 + d.Intn(200)}
		s := m.program()
		kinds[m.err]++
		if m.err == 0 {
			right(t, s)
		} else {
			found(t, s, m.err, m.place)
		}
	}
	for _, e := range []api.Errno{0, api.ErrTwice, api.ErrFull, api.ErrMissing, api.ErrRange, api.ErrArg} {
		if kinds[e] < 20 {
			t.Errorf("error %d was planted first %d times alone", e, kinds[e])
		}
	}
}
