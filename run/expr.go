package run

import "bloomery/api"

// part is an expression that is ready to be reckoned in a call, with its names.
type part func(own names) value

// number is a value that is a number.
func number(n int64) value { return value{n: n} }

// truth is 1 or 0.
func truth(is bool) int64 {
	if is {
		return 1
	}
	return 0
}

// part makes an expression ready.
func (p *program) part(x *api.Expr) part {
	switch x.Code {
	case api.Name:
		return func(own names) value { return own[x.Name] }
	case api.Bin:
		return p.ofTwo(x)
	case api.Un:
		return p.ofOne(x)
	case api.Call:
		return p.called(x)
	case api.New:
		left := p.part(x.Left)
		return func(own names) value { return value{list: array(left(own).n)} }
	case api.Len:
		left := p.part(x.Left)
		return func(own names) value { return number(int64(len(left(own).list))) }
	case api.Item:
		left, right := p.part(x.Left), p.part(x.Right)
		return func(own names) value {
			list := left(own).list
			return number(*item(list, right(own).n))
		}
	case api.Input:
		return func(names) value { return number(p.take()) }
	}
	return func(names) value { return number(x.N) }
}

// called makes a call ready.
func (p *program) called(x *api.Expr) part {
	args := make([]part, len(x.Args))
	for i, a := range x.Args {
		args[i] = p.part(a)
	}
	return func(own names) value {
		// It is looked up as late as this, for it may stand behind the one that calls it.
		f := p.funcs[x.Name]
		theirs := make(names, len(args))
		for i, reckon := range args {
			theirs[f.params[i].Name] = reckon(own)
		}
		return number(p.call(f, theirs))
	}
}

// ofOne makes a mark of one ready.
func (p *program) ofOne(x *api.Expr) part {
	left := p.part(x.Left)
	if x.Op == "-" {
		return func(own names) value { return number(-left(own).n) }
	}
	return func(own names) value { return number(truth(left(own).n == 0)) }
}

// ofTwo makes a mark of two ready.
func (p *program) ofTwo(x *api.Expr) part {
	left, right := p.part(x.Left), p.part(x.Right)
	switch x.Op {
	case "&&":
		return func(own names) value { return number(truth(left(own).n != 0 && right(own).n != 0)) }
	case "||":
		return func(own names) value { return number(truth(left(own).n != 0 || right(own).n != 0)) }
	}
	return func(own names) value {
		a := left(own).n
		return number(both(x.Op, a, right(own).n))
	}
}

// both is what a mark makes of two numbers.
func both(op string, a, b int64) int64 {
	switch op {
	case "+":
		return a + b
	case "-":
		return a - b
	case "*":
		return a * b
	case "/":
		return a / divisor(b)
	case "%":
		return a % divisor(b)
	}
	return truth(holds(op, a, b))
}

// divisor is a number by which others may be divided. (The least one by -1 is no matter of ours: it wraps by itself.)
func divisor(n int64) int64 {
	if n == 0 {
		throw(api.Zero)
	}
	return n
}

// holds: is what a mark says of two numbers true?
func holds(op string, a, b int64) bool {
	switch op {
	case "==":
		return a == b
	case "!=":
		return a != b
	case "<":
		return a < b
	case "<=":
		return a <= b
	case ">":
		return a > b
	}
	return a >= b
}

// array is one of so many 0.
func array(n int64) []int64 {
	if n < 0 || n > api.MaxArray {
		throw(api.Size)
	}
	return make([]int64, n)
}

// item is where a number of an array lies.
func item(list []int64, i int64) *int64 {
	if i < 0 || i >= int64(len(list)) {
		throw(api.Bounds)
	}
	return &list[i]
}
