package build_test

import (
	"fmt"
	"math/rand"
	"slices"
	"strings"

	"bloomery/api"
)

// drawn is a program of at most so many tokens (each behind a blank) of which nothing is found, and which mostly goes on for a while; with Calls, if it is told.
func drawn(d *rand.Rand, most int, calls bool) string {
	for {
		m := &maker{d: d, calls: calls, left: most - 15}
		if s := m.program(); len(strings.Fields(s)) <= most {
			return s
		}
	}
}

// maker writes programs.
type maker struct {
	d     *rand.Rand
	text  strings.Builder
	calls bool
	left  int // how many more tokens are welcome
	funcs []api.Func
	names []api.Param
	count int // of names
}

// write writes tokens.
func (m *maker) write(l ...string) {
	for _, s := range l {
		m.text.WriteString(s + " ")
		m.left -= len(strings.Fields(s))
	}
}

// one is one of some texts.
func (m *maker) one(l ...string) string { return l[m.d.Intn(len(l))] }

// named is a name that stands for a variable of a type, if there is any.
func (m *maker) named(kind int) (string, bool) {
	for _, i := range m.d.Perm(len(m.names)) {
		if m.names[i].Type == kind {
			return m.names[i].Name, true
		}
	}
	return "", false
}

// expr writes an expression of a type.
func (m *maker) expr(kind, deep int) {
	if kind == api.Arr {
		m.array(deep)
		return
	}
	if deep <= 0 || m.left < 0 {
		m.least()
		return
	}
	switch n := m.d.Intn(12); {
	case n == 0:
		m.write(m.one("-", "!"))
		m.expr(api.Int, deep-1)
	case n == 1:
		m.write("len", "(")
		m.array(deep - 1)
		m.write(")")
	case n == 2:
		m.array(deep - 1)
		m.write("[", m.one("0", "0", "1", "2"), "]")
	case n == 3:
		m.array(deep - 1)
		m.write("[")
		m.expr(api.Int, deep-1)
		m.write("]")
	case n == 4:
		m.nest()
	case n == 5 && m.calls:
		m.call(deep - 1)
	case n < 8:
		m.least()
	default:
		m.pair(deep - 1)
	}
}

// least writes an Int of which no other is a part.
func (m *maker) least() {
	if s, ok := m.named(api.Int); ok && m.d.Intn(2) == 0 {
		m.write(s)
		return
	}
	m.write(m.one("0", "1", "2", "3", "40", "007", "2048", "4097", "4294967296", "6123456789012345678", "9223372036854775807", "input ( )", "input ( )"))
}

// array writes an Arr.
func (m *maker) array(deep int) {
	if s, ok := m.named(api.Arr); ok && m.d.Intn(3) > 0 {
		m.write(m.one(s, s, s, "( "+s+" )"))
		return
	}
	m.write("new", "(")
	if m.d.Intn(5) == 0 {
		m.expr(api.Int, deep-1)
	} else {
		m.write(m.one("1", "3", "7", "39", "40", "40", "40", "0", "2", "5"))
	}
	m.write(")")
}

// nest writes an array at what an array has at what an array has: all of them are held meanwhile.
func (m *maker) nest() {
	n := 1 + m.d.Intn(5)
	for range n {
		m.array(0)
		m.write("[")
	}
	m.write("0")
	for range n {
		m.write("]")
	}
}

// pair writes a mark of two.
func (m *maker) pair(deep int) {
	held := m.d.Intn(2) == 0
	if held {
		m.write("(")
	}
	m.expr(api.Int, deep)
	m.write(ops[m.d.Intn(len(ops))])
	m.expr(api.Int, deep)
	if held {
		m.write(")")
	}
}

// call writes a call: mostly of one that stands behind, so that few go round.
func (m *maker) call(deep int) {
	f := m.funcs[len(m.funcs)-1]
	if m.d.Intn(3) == 0 {
		f = m.funcs[m.d.Intn(len(m.funcs))]
	}
	m.write(f.Name, "(")
	for i, p := range f.Params {
		if i > 0 {
			m.write(",")
		}
		m.expr(p.Type, deep)
	}
	m.write(")")
}

// block writes statements in { and }.
func (m *maker) block(deep int, first ...string) {
	m.write("{")
	m.write(first...)
	outside := len(m.names)
	for n := m.d.Intn(7); n > 0 && m.left > 0; n-- {
		m.stmt(deep)
	}
	m.names = m.names[:outside]
	m.write("}")
}

// stmt writes a statement, or none.
func (m *maker) stmt(deep int) {
	kind := api.Int + m.d.Intn(2)
	s, ok := m.named(kind)
	switch n := m.d.Intn(16); {
	case n < 4 && m.count < api.MaxVars:
		p := m.fresh(kind)
		m.write("var", p.Name, "=")
		m.expr(kind, 3)
		m.write(";")
		m.names = append(m.names, p)
	case n < 6 && deep > 0:
		m.write("if", "(")
		m.expr(api.Int, 3)
		m.write(")")
		m.block(deep - 1)
		if m.d.Intn(2) == 0 {
			m.write("else")
			m.block(deep - 1)
		}
	case n < 9 && deep > 0:
		m.loop(deep)
	case n < 11 && ok && kind == api.Arr:
		m.write(s, "[", m.one("0", "1", "input ( )"), "]", "=")
		m.expr(api.Int, 3)
		m.write(";")
	case n < 13 && ok:
		m.write(s, "=")
		m.expr(kind, 3)
		m.write(";")
	case n == 13 && m.calls:
		m.call(2)
		m.write(";")
	default:
		m.write(m.one("print", "print", "print", "print", "return"))
		m.expr(api.Int, 3)
		m.write(";")
	}
}

// fresh is one more name of a type.
func (m *maker) fresh(kind int) api.Param {
	m.count++
	return api.Param{Name: fmt.Sprint("v", m.count), Type: kind}
}

// loop writes a while, mostly one that counts.
func (m *maker) loop(deep int) {
	if m.count == api.MaxVars || m.d.Intn(6) == 0 {
		m.write("while", "(")
		m.expr(api.Int, 3)
		m.write(")")
		m.block(deep - 1)
		return
	}
	s := m.fresh(api.Int).Name
	m.write("var", s, "=", m.one("2", "3", "30", "90"), ";", "while", "(", s, ">", "0", ")")
	m.block(deep-1, s, "=", s, "-", "1", ";")
}

// program writes a program.
func (m *maker) program() string {
	m.funcs = []api.Func{{Name: "main"}}
	for i := range m.d.Intn(4) {
		f := api.Func{Name: fmt.Sprint("f", i)}
		for k := range m.d.Intn(4) {
			f.Params = append(f.Params, api.Param{Name: fmt.Sprint("p", k), Type: api.Int + m.d.Intn(2)})
		}
		m.funcs = append(m.funcs, f)
	}
	for i, f := range m.funcs {
		m.write("fn", f.Name, "(")
		for k, p := range f.Params {
			if k > 0 {
				m.write(",")
			}
			m.write(p.Name, ":", []string{"int", "arr"}[p.Type-api.Int])
		}
		m.write(")")
		m.names, m.count = slices.Clone(f.Params), len(f.Params)
		m.block(3 - min(i, 2))
	}
	return m.text.String()
}
