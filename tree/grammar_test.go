package tree_test

import (
	"math/rand"
	"strings"
	"testing"

	"bloomery/api"
	"bloomery/plain"
	"bloomery/tree"
)

// grammar is that of 4.1, a rule a line, lists by rules of their own; |- is nothing.
const grammar = `
PROGRAM = |- | PROGRAM FUNC
FUNC = fn NAME ( PARAMS ) BLOCK
PARAMS = |- | PARAMLIST
PARAMLIST = PARAM | PARAMLIST , PARAM
PARAM = NAME : TYPE
TYPE = int | arr
BLOCK = { STMTS }
STMTS = |- | STMTS STMT
STMT = var NAME = EXPR ; | NAME = EXPR ; | NAME [ EXPR ] = EXPR ; | return EXPR ; | print EXPR ; | NAME ( ARGS ) ; | if ( EXPR ) BLOCK | if ( EXPR ) BLOCK else BLOCK | while ( EXPR ) BLOCK
ARGS = |- | ARGLIST
ARGLIST = EXPR | ARGLIST , EXPR
EXPR = ALL | EXPR || ALL
ALL = SAME | ALL && SAME
SAME = CMP | SAME == CMP | SAME != CMP
CMP = SUM | CMP < SUM | CMP <= SUM | CMP > SUM | CMP >= SUM
SUM = PROD | SUM + PROD | SUM - PROD
PROD = ONE | PROD * ONE | PROD / ONE | PROD % ONE
ONE = - ONE | ! ONE | ITEMS
ITEMS = FIRST | ITEMS [ EXPR ]
FIRST = NUMBER | NAME | NAME ( ARGS ) | new ( EXPR ) | len ( EXPR ) | input ( ) | ( EXPR )
`

// readGrammar is what each part may be.
func readGrammar() map[string][][]string {
	rules := map[string][][]string{}
	for _, line := range strings.Split(strings.TrimSpace(grammar), "\n") {
		part, ways, _ := strings.Cut(line, " = ")
		for _, way := range strings.Split(ways, " | ") {
			if way == "|-" {
				way = ""
			}
			rules[part] = append(rules[part], strings.Fields(way))
		}
	}
	return rules
}

// state is a way, how far it is read, and where it began.
type state struct {
	part   string
	way    int
	read   int
	origin int
}

// judge is the first token that may not stand there, read by all ways at once; len(tokens): one is missing; -1: nothing is wrong.
func judge(rules map[string][][]string, tokens []string) int {
	sets := make([][]state, len(tokens)+1)
	known := make([]map[state]bool, len(tokens)+1)
	for i := range known {
		known[i] = map[state]bool{}
	}
	add := func(i int, s state) {
		if !known[i][s] {
			known[i][s] = true
			sets[i] = append(sets[i], s)
		}
	}
	for w := range rules["PROGRAM"] {
		add(0, state{"PROGRAM", w, 0, 0})
	}
	for i := 0; i <= len(tokens); i++ {
		if len(sets[i]) == 0 {
			return i - 1
		}
		for k := 0; k < len(sets[i]); k++ {
			s := sets[i][k]
			way := rules[s.part][s.way]
			if s.read == len(way) {
				for _, o := range sets[s.origin] {
					if w := rules[o.part][o.way]; o.read < len(w) && w[o.read] == s.part {
						add(i, state{o.part, o.way, o.read + 1, o.origin})
					}
				}
				continue
			}
			next := way[s.read]
			for w, l := range rules[next] {
				add(i, state{next, w, 0, i})
				if len(l) == 0 { // it is read already
					add(i, state{s.part, s.way, s.read + 1, s.origin})
				}
			}
			if i < len(tokens) && terminal(tokens[i]) == next {
				add(i+1, state{s.part, s.way, s.read + 1, s.origin})
			}
		}
	}
	for w := range rules["PROGRAM"] {
		if known[len(tokens)][state{"PROGRAM", w, len(rules["PROGRAM"][w]), 0}] {
			return -1
		}
	}
	return len(tokens)
}

// terminal is what the grammar calls a token.
func terminal(s string) string {
	if s[0] >= '0' && s[0] <= '9' {
		return "NUMBER"
	}
	if !isWord(s) {
		return s
	}
	for _, w := range fixedWords {
		if s == w {
			return s
		}
	}
	return "NAME"
}

// draw is a part, drawn by its rules; where there is no room left, by those that end soon.
func draw(r *rand.Rand, rules map[string][][]string, part string, room int) []string {
	switch part {
	case "NAME":
		return []string{[]string{"x", "y", "v", "f", "main", "a_1"}[r.Intn(6)]}
	case "NUMBER":
		return []string{[]string{"0", "1", "007", "42", "9223372036854775807"}[r.Intn(5)]}
	}
	ways := rules[part]
	if ways == nil {
		return []string{part}
	}
	way := ways[r.Intn(len(ways))]
	if room <= 0 {
		way = ways[0]
		if part == "ONE" {
			way = ways[2]
		}
	}
	var l []string
	for _, p := range way {
		l = append(l, draw(r, rules, p, room-1)...)
	}
	return l
}

// spoil changes a token or some.
func spoil(r *rand.Rand, l []string) []string {
	all := append(strings.Fields("&& || == != <= >= < > = + - * / % ! ( ) { } [ ] , ; : x 1 f 99"), fixedWords...)
	out := append([]string(nil), l...)
	for range 1 + r.Intn(2) {
		at := r.Intn(len(out) + 1)
		other := all[r.Intn(len(all))]
		switch k := r.Intn(5); {
		case k == 0 || at == len(out):
			out = append(out[:at], append([]string{other}, out[at:]...)...)
		case k == 1:
			out = append(out[:at], out[at+1:]...)
		case k == 2:
			out[at] = other
		case k == 3:
			to := r.Intn(len(out))
			out[at], out[to] = out[to], out[at]
		default:
			out = out[:at]
		}
	}
	return out
}

// sane: is nothing of it beyond the limits, of which the grammar knows nothing?
func sane(l []string) bool {
	funcs, deep := 0, 0
	for _, s := range l {
		switch s {
		case "fn":
			funcs++
		case "-", "!", "(", "[", "{":
			deep++
		case ";", "}":
			deep = 0
		}
		if deep > api.MaxDepth || funcs > api.MaxFuncs {
			return false
		}
	}
	return len(l) > 0 && len(l) <= api.MaxTokens
}

// TestGrammar: 4.1: what the grammar takes is read, and of all else the first token that may not stand there is told.
func TestGrammar(t *testing.T) {
	r := rand.New(rand.NewSource(4))
	rules := readGrammar()
	right, wrong, missing := 0, 0, 0
	for right+wrong+missing < 1500 {
		l := []string{}
		for range 1 + r.Intn(3) {
			l = append(l, draw(r, rules, "FUNC", 6+r.Intn(16))...)
		}
		if r.Intn(5) > 0 {
			l = spoil(r, l)
		}
		if !sane(l) || len(l) > 120 {
			continue
		}
		s := strings.Join(l, " ")
		_, err := tree.Parse(s)
		e, place := plain.Place(err)
		switch bad := judge(rules, l); {
		case bad < 0:
			right++
			if err != nil {
				t.Fatalf("%s: error %d at %d; nothing is wrong with it", s, e, place)
			}
		case bad == len(l):
			missing++
			if e != api.ErrForm || place != len(s) {
				t.Fatalf("%s: error %d at %d; ErrForm at its end, %d, is asked", s, e, place, len(s))
			}
		default:
			wrong++
			if want := len(strings.Join(l[:bad], " ")) + min(bad, 1); e != api.ErrForm || place != want {
				t.Fatalf("%s: error %d at %d; ErrForm at %d is asked", s, e, place, want)
			}
		}
	}
	if right < 200 || wrong < 200 || missing < 200 {
		t.Errorf("%d right, %d wrong, %d with something missing: too few of some", right, wrong, missing)
	}
}

// TestCutShort: 4.1: of a program that ends too soon the text's end is told, whatever stands between its last token and its end.
func TestCutShort(t *testing.T) {
	l := strings.Fields("fn f ( a : int , b : arr ) { var x = - 1 ; x = ! x ; b [ x ] = g ( a , 2 ) ; if ( a <= 1 ) { print new ( 3 ) ; } else { while ( a && b ) { f ( ) ; } } return len ( b ) || input ( ) [ 4 ] ; }")
	for i := 1; i < len(l); i++ {
		for _, between := range []string{"", " ", "\n\t", " # fn f(){}", "#\n "} {
			s := strings.Join(l[:i], " ") + between
			faulty(t, s, api.ErrForm, len(s))
		}
	}
}

// TestAnything: P1: whatever it is given, Parse ends, and what is wrong is told at a place of the text.
func TestAnything(t *testing.T) {
	r := rand.New(rand.NewSource(1))
	for range 20000 {
		b := make([]byte, r.Intn(60))
		for i := range b {
			b[i] = "fn x(){}[];,=+-*!&|v1 #:\n<>ifelsw\x00\xff9A"[r.Intn(37)]
		}
		l, err := tree.Parse(string(b))
		e, place := plain.Place(err)
		if err != nil && (l != nil || e != api.ErrForm && e != api.ErrLimit || place < 0 || place > len(b)) {
			t.Fatalf("%q: %v, error %d at %d", b, l, e, place)
		}
	}
}
