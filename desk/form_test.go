package desk_test

import (
	"testing"
)

// programs with which a line may be asked: of one nothing is found, and of others something is.
var programs = []string{"fn main() { return 1; }", "", "fn main() { return x; }", "fn main() { print 9223372036854775808; }", "fn main() { } fn main() { }"}

// 11.1: ErrForm, if the first word is none of the table.
func TestFirstWord(t *testing.T) {
	for _, s := range []string{"x", "hel", "helps", "Help", "HELP", "help.", "help;", "-help", "helphelp", "ok", "error", "error 3", "ne", "newfn main() { }", "neww", "News", "ru", "run1", "run-1", "runs 1", "goto", "g", "g o", "words 19", "word19", "reg", "reg s", "as", "asmecall", "asm|ecall", "codes", "cod", "samen", "sam", "prints", "pri nt", "checks", "chec k", "1", "-1", "0 run", "|", "||", "#", "# help", "fn main() { }", "new|", "|new", "quit", "\"help\"", "help\\"} {
		says(t, s, "error 3")
		says(t, "new fn main() { }\n"+s+"\nhelp", "new", "error 3", helps)
	}
}

// 11.1: ErrForm, if too few words stand behind it, or too many, whatever the program is.
func TestHowManyWords(t *testing.T) {
	for _, p := range programs {
		for _, first := range []string{"check", "print", "code", "help"} {
			for _, more := range []string{" x", " 1", " 1 2", "  " + first, " |", " #"} {
				tells(t, p, said{first + more, "error 3"})
			}
		}
		tells(t, p, said{"word", "error 3"}, said{"word ", "error 3"}, said{"word 19 19", "error 3"}, said{"word 19 x", "error 3"}, said{"word -1 19", "error 3"}, said{"word 19 51 115", "error 3"})
	}
}

// notNumbers are words that are no numbers.
var notNumbers = []string{
	"x", "-", "--", "--1", "-x", "+", "+1", "+0", "-+1", "00", "01", "-01", "-00", "-0", "007", "0x1", "0b1", "0o7", "1_0", "1.0", "1.", ".1", "1e3", "1,2", "1;", "1|2", "|1", "1x", "x1", "1-", "1-2", "١", "１", "½", "\"1\"", "1\t", "\t1", "1\x00", "\xff", "true", "input()",
	"9223372036854775808", "-9223372036854775809", "18446744073709551615", "18446744073709551616", "18446744073709551635", "-18446744073709551616", "99999999999999999999", "-99999999999999999999", "1000000000000000000000000000000000000000", "00000000000000000000000000000000000000001",
}

// 11.1: ErrForm, if a word that is to be a number is none, ahead of every other error.
func TestNotNumbers(t *testing.T) {
	for _, n := range notNumbers {
		for _, p := range programs {
			for _, first := range []string{"run ", "go ", "same "} {
				for _, line := range []string{first + n, first + n + " 1", first + "1 " + n, first + "0 " + n + " 2", first + n + " " + n} {
					says(t, "new "+p+"\n"+line, "new", "error 3")
				}
			}
		}
		says(t, "word "+n, "error 3")
	}
}

// 11.1: N is a number of 64 bits, perhaps with -.
func TestNumbers(t *testing.T) {
	const three = "fn main() { print input(); print input(); print input(); }"
	for _, s := range []string{"0 0 0", "1 2 3", "-1 -10 10", "100 -100 1000000007", "9223372036854775807 -9223372036854775808 9223372036854775806", "-9223372036854775807 -9223372036854775808 0", "4294967296 -4294967296 2147483648"} {
		tells(t, three, said{"run " + s, "run 1 0 " + s}, said{"go " + s, "go 1 0 " + s}, said{"same " + s, "same true true"})
	}
	for _, s := range []string{"-1", "-9223372036854775808", "4294967296", "9223372036854775807"} {
		says(t, "word "+s, "error 2")
	}
	// Any many, also more than are asked for.
	tells(t, three, said{"run", "run 1 0 0 0 0"}, said{"run 5", "run 1 0 5 0 0"}, said{"run 5 6 7 8 9 10", "run 1 0 5 6 7"}, said{"go 5 6", "go 1 0 5 6 0"}, said{"go 5 6 7 8 9 10", "go 1 0 5 6 7"}, said{"same 5 6 7 8 9 10", "same true true"})
}
