package tree

import (
	"strings"

	"bloomery/api"
)

// step is how much further from the left a block's statements stand.
const step = "  "

// Print writes a program (of what Parse told).
func Print(l []api.Func) string {
	var b strings.Builder
	for _, f := range l {
		b.WriteString("fn " + f.Name + "(")
		printParams(&b, f.Params)
		b.WriteString(")")
		printBlock(&b, f.Body, "")
		b.WriteString("\n")
	}
	return b.String()
}

// printParams writes parameters, and their types.
func printParams(b *strings.Builder, l []api.Param) {
	for i, p := range l {
		if i > 0 {
			b.WriteString(", ")
		}
		b.WriteString(p.Name + ": ")
		if p.Type == api.Arr {
			b.WriteString("arr")
		} else {
			b.WriteString("int")
		}
	}
}

// printBlock writes a block, from its { on, which stands in a line already, to its }, behind which the line may go on.
func printBlock(b *strings.Builder, l []api.Stmt, left string) {
	b.WriteString(" {\n")
	for _, t := range l {
		b.WriteString(left + step)
		printStmt(b, t, left+step)
		b.WriteString("\n")
	}
	b.WriteString(left + "}")
}

// printStmt writes a statement; left stands ahead of its further lines.
func printStmt(b *strings.Builder, t api.Stmt, left string) {
	switch t.Code {
	case api.If:
		printHead(b, "if", t.Value)
		printBlock(b, t.Then, left)
		if len(t.Else) > 0 {
			b.WriteString(" else")
			printBlock(b, t.Else, left)
		}
		return
	case api.While:
		printHead(b, "while", t.Value)
		printBlock(b, t.Then, left)
		return
	case api.Var:
		b.WriteString("var " + t.Name + " = ")
	case api.Set:
		b.WriteString(t.Name + " = ")
	case api.Put:
		b.WriteString(t.Name)
		writeItem(b, t.Index)
		b.WriteString(" = ")
	case api.Return:
		b.WriteString("return ")
	case api.Print:
		b.WriteString("print ")
	}
	write(b, t.Value)
	b.WriteString(";")
}

// printHead writes what a block hangs on.
func printHead(b *strings.Builder, word string, x *api.Expr) {
	b.WriteString(word + " (")
	write(b, x)
	b.WriteString(")")
}
