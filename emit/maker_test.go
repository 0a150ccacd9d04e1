package emit_test

import (
	"fmt"
	"math/rand"
	"slices"
	"strings"

	"bloomery/api"
)

// tooLong is a text that no more statements are added to, so that it stays within MaxTokens.
const tooLong = 2000

// maker writes programs of which nothing is found, and which mostly go on for a while.
type maker struct {
	d     *rand.Rand
	text  strings.Builder
	funcs []api.Func
	names []api.Param
	count int
}

func (m *maker) write(l ...string) {
	for _, s := range l {
		m.text.WriteString(s)
	}
}

// one is one of some texts.
func (m *maker) one(l ...string) string { return l[m.d.Intn(len(l))] }

// named is a name that stands for a variable of a type, if there is any.
func (m *maker) named(kind int) (string, bool) {
	for _, i := range m.d.Perm(len(m.names)) {
		if m.names[i].Type == kind {
			return m.names[i].Name, true
		}
	}
	return "", false
}

// expr writes an expression of a type.
func (m *maker) expr(kind, deep int) {
	s, ok := m.named(kind)
	switch {
	case ok && m.d.Intn(2) == 0:
		m.write(s)
	case kind == api.Arr && m.d.Intn(6) == 0:
		m.write("new(")
		m.expr(api.Int, deep-1)
		m.write(")")
	case kind == api.Arr:
		m.write(m.one("new(3)", "new(4)", "new(40)", "new(2)"))
	case deep <= 0:
		m.write(m.one("0", "1", "2", "3", "17", "input()", "9223372036854775807"))
	default:
		m.deeper(deep - 1)
	}
}

// deeper writes an Int of which others are parts.
func (m *maker) deeper(deep int) {
	switch m.d.Intn(7) {
	case 0:
		m.write(m.one("(-", "(!"))
		m.expr(api.Int, deep)
		m.write(")")
	case 1:
		m.write("len(")
		m.expr(api.Arr, deep)
		m.write(")")
	case 2:
		m.expr(api.Arr, deep)
		m.write("[", m.one("0", "1", "1", "input()"), "]")
	case 3:
		m.expr(api.Arr, deep)
		m.write("[")
		m.expr(api.Int, deep)
		m.write("]")
	case 4:
		m.call(deep)
	default:
		m.write("(")
		m.expr(api.Int, deep)
		m.write(m.one(" + ", " - ", " * ", " == ", " != ", " < ", " <= ", " > ", " >= ", " && ", " || ", " / ", " % "))
		m.expr(api.Int, deep)
		m.write(")")
	}
}

// call writes a call: mostly of one that stands behind, so that few go round.
func (m *maker) call(deep int) {
	f := m.funcs[len(m.funcs)-1]
	if m.d.Intn(2) == 0 {
		f = m.funcs[m.d.Intn(len(m.funcs))]
	}
	m.write(f.Name, "(")
	for i, p := range f.Params {
		if i > 0 {
			m.write(", ")
		}
		m.expr(p.Type, deep)
	}
	m.write(")")
}

// block writes statements in { and }.
func (m *maker) block(deep int) {
	m.write("{ ")
	outside := len(m.names)
	for n := m.d.Intn(6); n > 0 && m.text.Len() < tooLong; n-- {
		m.stmt(deep)
	}
	m.names = m.names[:outside]
	m.write("} ")
}

// stmt writes a statement.
func (m *maker) stmt(deep int) {
	kind := api.Int + m.d.Intn(2)
	s, ok := m.named(kind)
	switch n := m.d.Intn(16); {
	case n < 4 && m.count < api.MaxVars:
		m.variable(kind)
	case n < 6 && deep > 0:
		m.write("if (")
		m.expr(api.Int, 2)
		m.write(") ")
		m.block(deep - 1)
		if m.d.Intn(2) == 0 {
			m.write("else ")
			m.block(deep - 1)
		}
	case n < 8 && deep > 0:
		m.loop(deep)
	case n < 10 && ok && kind == api.Arr:
		m.write(s, "[", m.one("0", "1", "2", "3"), "] = ")
		m.expr(api.Int, 2)
		m.write("; ")
	case n < 12 && ok:
		m.write(s, " = ")
		m.expr(kind, 2)
		m.write("; ")
	case n == 12:
		m.call(2)
		m.write("; ")
	default:
		m.write(m.one("print ", "print ", "print ", "return "))
		m.expr(api.Int, 3)
		m.write("; ")
	}
}

// fresh is one more name of a type.
func (m *maker) fresh(kind int) api.Param {
	m.count++
	for {
		s := m.one("a", "b", "c", "d", "e", "f", "g", "h", "i", "j", "k", "l", "m", "n")
		if !slices.ContainsFunc(m.names, func(p api.Param) bool { return p.Name == s }) {
			return api.Param{Name: s, Type: kind}
		}
	}
}

// variable writes a var.
func (m *maker) variable(kind int) {
	p := m.fresh(kind)
	m.write("var ", p.Name, " = ")
	m.expr(kind, 2)
	m.write("; ")
	m.names = append(m.names, p)
}

// loop writes a while, mostly one that counts.
func (m *maker) loop(deep int) {
	if m.count == api.MaxVars || m.d.Intn(4) == 0 {
		m.write("while (")
		m.expr(api.Int, 2)
		m.write(") ")
		m.block(deep - 1)
		return
	}
	p := m.fresh(api.Int)
	m.write("var ", p.Name, " = ", m.one("2", "3", "0", "12", "90"), "; while (0 < ", p.Name, ") { ", p.Name, " = ", p.Name, " - 1; ", m.one("if (1) ", "if (0) { } else "))
	m.names = append(m.names, p)
	m.block(deep - 1)
	m.write("} ")
}

// program writes a program.
func (m *maker) program() string {
	m.funcs = []api.Func{{Name: "main"}}
	for i := range m.d.Intn(4) {
		f := api.Func{Name: fmt.Sprint("f", i)}
		for k := range m.d.Intn(4) {
			f.Params = append(f.Params, api.Param{Name: m.one("p", "q") + fmt.Sprint(k), Type: api.Int + m.d.Intn(2)})
		}
		m.funcs = append(m.funcs, f)
	}
	for _, f := range m.funcs {
		m.write("fn ", f.Name, "(")
		for i, p := range f.Params {
			if i > 0 {
				m.write(", ")
			}
			m.write(p.Name, []string{": int", ": arr"}[p.Type-api.Int])
		}
		m.write(") ")
		m.names, m.count = slices.Clone(f.Params), len(f.Params)
		m.block(2)
	}
	return m.text.String()
}
