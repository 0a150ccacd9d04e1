package tree

import (
	"strconv"

	"bloomery/api"
)

// Parse reads a program: functions. ErrForm, ErrLimit: an At at the byte.
func Parse(s string) (l []api.Func, err error) {
	defer func() {
		thrown := recover()
		if thrown == nil {
			return
		}
		at, ok := thrown.(*api.At)
		if !ok {
			panic(thrown)
		}
		l, err = nil, at
	}()
	p := &parser{tokens: cut(s)}
	return p.program(), nil
}

// parser reads tokens, the first one first. Its methods throw what is wrong: an At.
type parser struct {
	tokens []token // the end is the last one
}

// first is the token that is read next.
func (p *parser) first() token { return p.tokens[0] }

// fault is an error at the token that is read next.
func (p *parser) fault(err api.Errno) *api.At {
	return &api.At{Err: err, Place: p.first().at}
}

// next takes a token, whichever it is.
func (p *parser) next() token {
	t := p.first()
	p.tokens = p.tokens[1:]
	return t
}

// accept takes a token, if it is that fixed one.
func (p *parser) accept(text string) bool {
	if p.first().text != text {
		return false
	}
	p.next()
	return true
}

// need takes a token, which must be that fixed one.
func (p *parser) need(text string) {
	if !p.accept(text) {
		panic(p.fault(api.ErrForm))
	}
}

// bound tells that something lies in too many others, whatever the token is with which it would begin. Behind the last token nothing would begin.
func (p *parser) bound(deep int) {
	if deep > api.MaxDepth && p.first().kind != end {
		panic(p.fault(api.ErrLimit))
	}
}

// name reads a NAME.
func (p *parser) name() string {
	t := p.first()
	if t.kind != name {
		panic(p.fault(api.ErrForm))
	}
	if len(t.text) > api.MaxName {
		panic(p.fault(api.ErrLimit))
	}
	return p.next().text
}

// program reads functions up to the end.
func (p *parser) program() []api.Func {
	var l []api.Func
	for p.first().kind != end {
		if len(l) == api.MaxFuncs {
			panic(p.fault(api.ErrLimit))
		}
		l = append(l, p.function())
	}
	return l
}

// function reads a FUNC.
func (p *parser) function() api.Func {
	f := api.Func{At: p.first().at}
	p.need("fn")
	f.Name = p.name()
	p.need("(")
	for more := !p.accept(")"); more; more = p.more() {
		f.Params = append(f.Params, p.param())
	}
	f.Body = p.block(0)
	return f
}

// more reads what stands behind a part of a list: is there one more?
func (p *parser) more() bool {
	if p.accept(",") {
		return true
	}
	p.need(")")
	return false
}

// param reads a parameter.
func (p *parser) param() api.Param {
	x := api.Param{Name: p.name(), Type: api.Int}
	p.need(":")
	if p.accept("arr") {
		x.Type = api.Arr
		return x
	}
	p.need("int")
	return x
}

// block reads a BLOCK that lies in so many others.
func (p *parser) block(deep int) []api.Stmt {
	p.bound(deep)
	p.need("{")
	var l []api.Stmt
	for !p.accept("}") {
		l = append(l, p.stmt(deep+1))
	}
	return l
}

// stmt reads a STMT that lies in so many BLOCKs.
func (p *parser) stmt(deep int) api.Stmt {
	t := api.Stmt{At: p.first().at}
	switch {
	case p.first().kind == name:
		p.named(&t)
	case p.accept("var"):
		t.Code = api.Var
		t.Name = p.name()
		p.need("=")
		t.Value = p.expr(0)
	case p.accept("return"):
		t.Code = api.Return
		t.Value = p.expr(0)
	case p.accept("print"):
		t.Code = api.Print
		t.Value = p.expr(0)
	case p.accept("if"):
		t.Code = api.If
		t.Value = p.held(0)
		t.Then = p.block(deep)
		if p.accept("else") {
			t.Else = p.block(deep)
		}
		return t
	case p.accept("while"):
		t.Code = api.While
		t.Value = p.held(0)
		t.Then = p.block(deep)
		return t
	default:
		panic(p.fault(api.ErrForm))
	}
	p.need(";")
	return t
}

// named reads a statement that begins with a NAME, but its `;`.
func (p *parser) named(t *api.Stmt) {
	called := p.name()
	if p.accept("(") {
		t.Code = api.Do
		t.Value = &api.Expr{Code: api.Call, At: t.At, Name: called, Args: p.args(0)}
		return
	}
	t.Code, t.Name = api.Set, called
	if p.accept("[") {
		t.Code, t.Index = api.Put, p.index(0)
	}
	p.need("=")
	t.Value = p.expr(0)
}

// Parts of expressions: deep is how many -, !, ( ) and [ ] of the statement they lie in.

// held reads an EXPR in ( and ).
func (p *parser) held(deep int) *api.Expr {
	p.need("(")
	x := p.expr(deep + 1)
	p.need(")")
	return x
}

// index reads an EXPR in [ and ], behind the [.
func (p *parser) index(deep int) *api.Expr {
	x := p.expr(deep + 1)
	p.need("]")
	return x
}

// args reads EXPRs in ( and ), behind the (.
func (p *parser) args(deep int) []*api.Expr {
	var l []*api.Expr
	for more := !p.accept(")"); more; more = p.more() {
		l = append(l, p.expr(deep+1))
	}
	return l
}

// expr reads an EXPR.
func (p *parser) expr(deep int) *api.Expr { return p.bin(loosest, deep) }

// bin reads what marks of two that hold so near, or nearer, hold together.
func (p *parser) bin(level, deep int) *api.Expr {
	if level > nearest {
		return p.one(deep)
	}
	// A Left in ( and ) begins at its (, of which it knows nothing itself.
	at := p.first().at
	x := p.bin(level+1, deep)
	for near(p.first().text) == level {
		op := p.next().text
		x = &api.Expr{Code: api.Bin, At: at, Op: op, Left: x, Right: p.bin(level+1, deep)}
	}
	return x
}

// one reads a ONE.
func (p *parser) one(deep int) *api.Expr {
	p.bound(deep)
	t := p.first()
	if p.accept("-") || p.accept("!") {
		return &api.Expr{Code: api.Un, At: t.at, Op: t.text, Left: p.one(deep + 1)}
	}
	x := p.leaf(deep)
	for p.accept("[") {
		x = &api.Expr{Code: api.Item, At: t.at, Left: x, Right: p.index(deep)}
	}
	return x
}

// leaf reads a FIRST.
func (p *parser) leaf(deep int) *api.Expr {
	t := p.first()
	x := &api.Expr{At: t.at}
	switch {
	case t.kind == number:
		x.Code, x.N = api.Num, p.number()
	case t.kind == name:
		x.Code, x.Name = api.Name, p.name()
		if p.accept("(") {
			x.Code, x.Args = api.Call, p.args(deep)
		}
	case p.accept("new"):
		x.Code, x.Left = api.New, p.held(deep)
	case p.accept("len"):
		x.Code, x.Left = api.Len, p.held(deep)
	case p.accept("input"):
		x.Code = api.Input
		p.need("(")
		p.need(")")
	default:
		return p.held(deep)
	}
	return x
}

// number reads a NUMBER.
func (p *parser) number() int64 {
	n, err := strconv.ParseInt(p.first().text, 10, 64)
	if err != nil {
		panic(p.fault(api.ErrLimit))
	}
	p.next()
	return n
}
