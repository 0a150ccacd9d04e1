package tree_test

import (
	"strings"
	"testing"

	"bloomery/api"
)

// wide is a program of so many tokens, at least 9.
func wide(tokens int) string {
	s := ""
	if tokens%2 == 0 {
		s = "-"
	}
	return inReturn(s + strings.Repeat("1+", (tokens-9)/2) + "1")
}

// TestTokens: 4.1: there are at most MaxTokens tokens; the text is cut ahead of all else.
func TestTokens(t *testing.T) {
	most := wide(api.MaxTokens)
	parse(t, wide(api.MaxTokens-1))
	parse(t, most)
	parse(t, "#"+strings.Repeat(" 1", 2000)+"\n"+most+" \n\t# & "+most)
	s := wide(api.MaxTokens + 1)
	faulty(t, s, api.ErrLimit, len(s)-1)
	faulty(t, most+" \n# 1\n fn", api.ErrLimit, len(most)+7)
	faulty(t, most+" 123 fn", api.ErrLimit, len(most)+1)
	faulty(t, most+" "+most, api.ErrLimit, len(most)+1)
	// What is no token there is ErrForm, and so is what is none ahead; behind there it is too late.
	faulty(t, most+" & 1", api.ErrForm, len(most)+1)
	faulty(t, "&"+most+most, api.ErrForm, 0)
	faulty(t, most[:len(most)-1]+"?"+most, api.ErrForm, len(most)-1)
	faulty(t, most+" 1 &", api.ErrLimit, len(most)+1)
	// Where the grammar is broken ahead makes no difference.
	ones := strings.Repeat("1 ", api.MaxTokens)
	faulty(t, ones, api.ErrForm, 0)
	faulty(t, ones+"1", api.ErrLimit, len(ones))
	faulty(t, ones+"?", api.ErrForm, len(ones))
	faulty(t, "fn f(abcdefghijklm) 99999999999999999999 "+ones, api.ErrLimit, len("fn f(abcdefghijklm) 99999999999999999999 ")+len(ones)-2*6)
}

// TestCutFirst: 4.1: what is no token is told ahead of all that the grammar does not take.
func TestCutFirst(t *testing.T) {
	faultyAt(t, "} } ^&", api.ErrForm)
	faultyAt(t, "^& } }", api.ErrForm)
	faultyAt(t, "fn f() { print 99999999999999999999; } ^.", api.ErrForm)
	faultyAt(t, "fn abcdefghijklm() {} ^A", api.ErrForm)
	faultyAt(t, inReturn(strings.Repeat("(", 20)+"^$"), api.ErrForm)
	faultyAt(t, strings.Repeat("fn f(){}", 20)+"^\r", api.ErrForm)
	faultyAt(t, "fn f(){} ^& |", api.ErrForm)
}

// TestFuncs: 4.1: there are at most MaxFuncs functions; whatever stands behind them is too much.
func TestFuncs(t *testing.T) {
	most := strings.Repeat("fn f(){} ", api.MaxFuncs)
	if l := parse(t, most); len(l) != api.MaxFuncs {
		t.Errorf("%d functions are told", len(l))
	}
	parse(t, most+" \n# fn f(){}")
	for _, s := range []string{"fn f(){}", "fn", "fn fn", "}", "x", "1", "99999999999999999999", "abcdefghijklm", "var", ";", "("} {
		faulty(t, most+s, api.ErrLimit, len(most))
		faulty(t, most+s+" fn g(){}", api.ErrLimit, len(most))
	}
	// What is wrong ahead is told first; so many are not too many.
	faultyAt(t, "fn f(){^]}"+most, api.ErrForm)
	faultyAt(t, strings.Repeat("fn f(){} ", api.MaxFuncs-1)+"^}", api.ErrForm)
	faulty(t, strings.Repeat("fn f(){} ", api.MaxFuncs-1)+"fn f(){", api.ErrForm, 9*api.MaxFuncs-2)
}

// nests are the heads of the blocks that lie in a block.
var nests = []string{"if(1)", "while(1)", "if(1){}else", "x=1;if(x){y=2;}else", "while(1){}if(1)"}

// TestBlocks: 4.1: a BLOCK lies in at most MaxDepth others, of whichever statement; whatever stands where another one would begin is too much.
func TestBlocks(t *testing.T) {
	for i, last := range nests {
		in := strings.Repeat("{"+nests[(i+1)%len(nests)], api.MaxDepth-1) + "{" + last
		most := "fn f()" + in
		parse(t, most+"{x=1;}"+strings.Repeat("}", api.MaxDepth))
		parse(t, most+"{g((1));}"+strings.Repeat("}", api.MaxDepth)+most+"{}"+strings.Repeat("}", api.MaxDepth))
		for _, head := range nests {
			deep := most + "{" + head
			if head == "if(1){}else" || head == "x=1;if(x){y=2;}else" || head == "while(1){}if(1)" {
				// Their first blocks are too deep already.
				at := len(most) + 1 + strings.Index(head, "{")
				faulty(t, deep+"{", api.ErrLimit, at)
				continue
			}
			for _, s := range []string{"{}", "{", "}", "x", "fn", "1", ";", "99999999999999999999", "else"} {
				faulty(t, deep+s+" &&", api.ErrLimit, len(deep))
			}
			// Behind the last token nothing begins: there one is missing.
			faulty(t, deep, api.ErrForm, len(deep))
			faulty(t, deep+" \n", api.ErrForm, len(deep)+2)
		}
		for _, s := range []string{"}", "x", "fn", "1", ";", "else"} {
			faulty(t, most+" "+s, api.ErrForm, len(most)+1)
		}
	}
	// Blocks beside one another do not lie in one another.
	parse(t, inBody(strings.Repeat("if(1){}else{}while(1){}", 50)))
}

// opens are what a ONE may lie in, and what closes it.
var opens = []struct{ open, close string }{
	{"-", ""}, {"!", ""}, {"(", ")"}, {"v[", "]"}, {"g(", ")"}, {"g(1,", ")"}, {"new(", ")"}, {"len(", ")"}, {"1+(", ")"}, {"(1)[", "]"},
}

// starts are the beginnings of statements, and what a ONE there lies in already.
var starts = []struct {
	open, close string
	deep        int
}{
	{"return ", ";", 0}, {"print ", ";", 0}, {"var x=", ";", 0}, {"x=", ";", 0}, {"v[1]=", ";", 0},
	{"v[", "]=1;", 1}, {"g(", ");", 1}, {"g(1,", ");", 1}, {"if(", "){}", 1}, {"while(", "){}", 1}, {"if(1){x=", ";}", 0}, {"if(1){g(", ");}", 1},
}

// TestOnes: 4.1: a ONE lies in at most MaxDepth of -, !, ( ) and [ ], from its statement on; whatever stands where one would begin that lies in more is too much.
func TestOnes(t *testing.T) {
	for _, b := range starts {
		for i, o := range opens {
			for _, p := range []int{i, (i + 3) % len(opens)} {
				n := api.MaxDepth - b.deep
				ahead := "fn f(){" + b.open + strings.Repeat(o.open, n-1) + opens[p].open
				behind := opens[p].close + strings.Repeat(o.close, n-1) + b.close + "}"
				parse(t, ahead+"1"+behind)
				parse(t, ahead+"x*2-v"+behind)
				parse(t, ahead+"g()+input()"+behind)
				for _, q := range []string{"-", "!", "(", "v[", "g(", "new(", "len("} {
					deep := ahead + q
					for _, s := range []string{"1", "x", "-", "(", "]", ";", "fn", "99999999999999999999", "abcdefghijklm", "{"} {
						faulty(t, deep+s+"}", api.ErrLimit, len(deep))
					}
					faulty(t, deep, api.ErrForm, len(deep))
				}
				if opens[p].close != "" {
					faulty(t, ahead+"2+-x", api.ErrLimit, len(ahead)+3)
				}
				faulty(t, ahead+";", api.ErrForm, len(ahead))
				faulty(t, ahead+"99999999999999999999", api.ErrLimit, len(ahead))
			}
		}
	}
	// ( and ) in which an EXPR must be; those of a call may have none.
	deepest := inBodyOpen(api.MaxDepth)
	faulty(t, deepest+"()", api.ErrLimit, len(deepest)+1)
	faulty(t, deepest+"new()", api.ErrLimit, len(deepest)+4)
	faulty(t, deepest+"g(1)", api.ErrLimit, len(deepest)+2)
	faulty(t, deepest+"g(,", api.ErrLimit, len(deepest)+2)
	faulty(t, deepest+"input(1", api.ErrForm, len(deepest)+6)
	faulty(t, deepest+"x]", api.ErrForm, len(deepest)+1)
	// What stands beside one another does not lie in one another.
	parse(t, inReturn(strings.Repeat("(-1)-!2*v[3]-", 50)+"1"))
	parse(t, inReturn("v"+strings.Repeat("[0]", 300)))
	parse(t, inReturn(strings.Repeat("(", 12)+"1"+strings.Repeat(")", 12)+"-"+strings.Repeat("-", 12)+"1"))
}

// inBodyOpen is the beginning of a program up to a ONE that lies in so many -.
func inBodyOpen(deep int) string { return "fn f(){return " + strings.Repeat("-", deep) }

// TestFirstFault: 4.1: of several faults the first from the left is told; at one token ErrForm, but where too much is told whatever it is.
func TestFirstFault(t *testing.T) {
	for _, s := range []string{"fn ^abcdefghijklm(1", "fn f(^abcdefghijklm]", "fn f(){print ^99999999999999999999 abcdefghijklm", "fn f(){var ^abcdefghijklm 1", "fn f(){print ^abcdefghijklm 99999999999999999999"} {
		faultyAt(t, s, api.ErrLimit)
	}
	for _, s := range []string{"fn f(^1, abcdefghijklm", "fn f(){print 1 ^2 99999999999999999999", "^} fn abcdefghijklm(){}", "fn f(){print ^; print 99999999999999999999;}", "fn f(){^99999999999999999999;}", "fn f(){var ^99999999999999999999=1;}"} {
		faultyAt(t, s, api.ErrForm)
	}
	for _, c := range []struct {
		text string
		err  api.Errno
	}{
		{"fn f(){print ^)" + strings.Repeat("-", 20), api.ErrForm},
		{"fn f(){print " + strings.Repeat("-", 13) + "^)", api.ErrLimit},
		{"fn f(){print " + strings.Repeat("-", 12) + "^)", api.ErrForm},
		{"fn f(){print " + strings.Repeat("-", 13) + "^99999999999999999999", api.ErrLimit},
		{"fn ^abcdefghijklm(){print " + strings.Repeat("-", 13), api.ErrLimit},
		{"fn f(){if(1) ^}" + strings.Repeat("fn f(){}", 13), api.ErrForm},
	} {
		faultyAt(t, c.text, c.err)
	}
}
