package tests

import (
	"slices"
	"strings"
	"testing"
)

// somePreparations are scripts that leave a desk with or without an engine and a
// table, with other polynomials and layouts, and with entries that are too great
// or too long.
func somePreparations() []string {
	return []string{
		"",
		"poly 0 1 2\nlayout 2 2 3",
		"engine 0008 0019 0018 0006",
		"table 0 1 8 28 64 125 216",
		"poly 5 -3\nengine 9996 0035\ntable 10 11 12 13 14 15 16 17 18 19 20 21\nlayout 2 3 4",
		"powers 0 0 0 1\nsetup 2 4\nskew\nvalues -2 9\nlayout 3 2 2",
		"engine 499999999999 500000000000 000000000001\ntable 1000000000 -1000000000 0 1000000000\nlayout 1 1 12",
		"poly 1 2 3 4 5 6 7\nsetup -3 9\nrun 20\nlayout 20 6 5",
		"poly 320 100000 10256 100000\nsetup 0 12\nlayout 1 6 1\ntable 1500 -1500 7",
		"job 0 1 2;1 3 4;0 0;2 2 3",
		"engine 0\ntable 5",
		"poly 100000\nsetup 0 7\ntable 1 1 1 1 1 1 1 1 9",
		"table 0 400000000 800000000 5",
	}
}

// deskWords are the words of the document's table, and others.
var deskWords = []string{
	"poly", "powers", "fit", "engine", "setup", "turn", "back", "skew", "unskew", "halves", "turns", "table", "values", "run", "slip", "correct", "apply", "round", "layout",
	"read", "degree", "nines", "find", "errata", "plan", "cheap", "sums", "print", "job",
	"", "foo", "Poly", "TURN", "turn1", "turn,", "turn\t", "\tturn", "turn\r", "tur", "ok", "no", "what", "full", "long", "\x00", "\xff", "\u0663", "0", "poly\x00",
}

// numberFields are what may stand where a number is asked for: numbers, also too
// great ones, and what is none.
var numberFields = []string{
	"0", "1", "2", "3", "4", "6", "7", "12", "60", "61", "200", "201", "300", "301", "1000", "1001", "100000", "100001", "-1", "-2", "-200", "-300", "-301", "99999999999999999", "-99999999999999999", "10000000000000000",
	"100000000000000000", "-100000000000000000", "999999999999999999", "9223372036854775807", "-9223372036854775808", "9223372036854775808", "18446744073709551617", "-18446744073709551615",
	"", "-", "-0", "+1", "+0", "00", "01", "-01", "--1", "1-", "1x", "x", "0x1", "1.0", "1e1", "1_0", " 1", "1 ", "1\t", "\t1", "1\r", "1\x00", "\u0661", "\xff", "000000000000000001", "1,2", "'1'",
}

// textRests are what may stand where a text is asked for: texts of polynomials,
// engines, tables, errata and jobs, and ones that are nearly such texts.
func textRests() []string {
	sixty := strings.TrimSuffix(strings.Repeat("7 ", 60), " ")
	rests := []string{
		"0", "0 1 2", "-5 3", "100000", "100001", "-100000 100000", "1 2 3 4 5 6 7", "1 2 3 4 5 6 7 8", "0 0 0 0 0 0 1", "100000 100000 100000 100000 100000 100000 100000",
		"0008 0019 0018 0006", "12", "9996 0035", "123456789012", "1234567890123", "12 123", "00 00 00 00 00 00 00", "00 00 00 00 00 00 00 00", "0000", "x", "-1", "12 -3", "12  34",
		"1000000000", "1000000001", "-1000000000", "-1000000001", "1000000000 -1000000000 0 1000000000", "0 1 8 27 64 125 216", "1 1 1 1 1 1 1 1 1", "99999999999999999", "0 1 99999999999999999 2", "9223372036854775808", sixty, sixty + " 7", sixty + " x", strings.Repeat("7 ", 60), strings.Repeat("0 ", 5000) + "0",
		"-", "3:28>27", "3:27>28", "0:0>1;1:1>0", "0:0>1;0:1>2", "0:5>5", "2:8>1000000000", "6:216>-1000000000", "6:216>1000000001", "7:0>1", "60:0>1", "0:10>11;11:21>20", "1:1>0;0:0>1", "3:28>27;", "3:28>027", "3:28", "0:1>-1",
		"0 1 2;1 3 4;0 0;2 2 3", "0 1 2;1 3 4;0 0;2 2 3;", "0 1 2;1 3 1;0 0;2 2 3", "98 1;0 3 4;0 0;5 2 2", "320 100000 10256 100000;0 41 12;6 0;20 1 4", "320 100000 10256 100000;0 42 12;6 0;20 1 4", "-321 -100000 -10256 -100000;0 41 12;0 0;1 6 11", "25 10;0 3 4;1 2;1 1 1", "0 1 2;1 3 4;0 3;2 2 3", "0 1 2;1 03 4;0 0;2 2 3",
		"poly", "poly 1", "0 1 2\r", "\x00", "\xff", "  ", "é",
	}
	return rests
}

// lineRests are rests of any word: none, an empty one, and as many numbers as a
// word takes, fewer and more.
var lineRests = []string{
	"", " ", "  ", " 0", " 1", " 2", " 3", " -1", " x", " -", " 01", " 1 ", "  1", " 0 0", " 0 1", " 1 1", " 2 4", " 1  1", " 1 1 ", " 3 2", " 0 60", " -30 60", " 150 51", " 150 52", " 0 0 0", " 1 1 1", " 2 3 4", " 5 5 1", " 20 6 12",
	" 1 0 0 0", " 2 3 4 5", " 6 3 1 5", " 5 1 0 -3", " 60 59 6 100000", " 60 60 0 0", " 3 0 1 -100001", " 1 1 1 1 1", " 1 2 3 4 5 6 7", "\t1", " 1\t1",
}

// linesOf returns lines with a word: with rests of any word, and if it has a text,
// with texts.
func linesOf(word string) []string {
	lines := []string{}
	for _, rest := range lineRests {
		lines = append(lines, word+rest)
	}
	for _, row := range clerkRows() {
		for _, text := range textRests() {
			if row.form == word+" *" {
				lines = append(lines, word+" "+text)
			}
		}
	}
	return lines
}

// fieldLines returns lines of the table with what is a number, or is none, in the
// place of each of their numbers.
func fieldLines() []string {
	lines := []string{}
	for _, row := range clerkRows() {
		asked := strings.Split(row.form, " ")
		for place := 1; place < len(asked); place++ {
			for _, field := range numberFields {
				fields := []string{asked[0], "1", "1", "0", "2"}[:len(asked)]
				fields[place] = field
				lines = append(lines, strings.Join(fields, " "))
			}
		}
	}
	return lines
}

// Each line, whether it is in the document's table or not: its output and all that
// it leaves on the desk. The preparations take turns with the lines of which one
// number is changed, and those with an engine and a table come before all of them.
func TestLines(t *testing.T) {
	preparations := somePreparations()
	for i, preparation := range preparations {
		t.Run(preparation, func(t *testing.T) {
			t.Parallel()
			for _, word := range deskWords {
				for _, line := range linesOf(word) {
					expectAsClerk(t, preparation+"\n"+line+deskProbes)
				}
			}
			for at, line := range fieldLines() {
				if i == 4 || i == 5 || at%len(preparations) == i {
					expectAsClerk(t, preparation+"\n"+line+deskProbes)
				}
			}
		})
	}
}

// A known line has its output after a preparation.
type knownLine struct {
	preparation, line, want string
}

func expectKnown(t *testing.T, lines []knownLine) {
	t.Helper()
	for _, c := range lines {
		before := clerkOutput(c.preparation)
		script := c.preparation + "\n" + c.line
		expectOutput(t, script, before+c.want)
		if clerkOutput(script) != before+c.want {
			t.Errorf("the clerk's output of %q is %q", script, clerkOutput(script))
		}
	}
}

func TestKnownChangesOfDesk(t *testing.T) {
	const engine, table = "engine 0008 0019 0018 0006", "table 0 1 8 28 64 125 216"
	expectKnown(t, []knownLine{
		{"", "poly 0 1 2\npoly", "ok\n0 1 2\n"}, {"", "poly 1 0 0\npoly", "ok\n1 0 0\n"}, {"poly 5", "poly x\npoly", "no\n5\n"}, {"poly 5", "poly \npoly", "no\n5\n"}, {"poly 5", "poly 100001\npoly", "no\n5\n"}, {"", "poly 1 2 3 4 5 6 7 8\npoly", "no\n0\n"}, {"", "poly 01", "no\n"}, {"", "poly 1 ", "no\n"}, {"", "poly  1", "no\n"},
		{"", "powers 0 0 0 1\npoly", "0 1 6 6\n0 1 6 6\n"}, {"", "powers 7", "7\n"}, {"", "powers 0 100000 0", "0 100000 0\n"}, {"poly 5", "powers 0 0 0 0 0 0 200\npoly", "no\n5\n"}, {"poly 5", "powers 100001\npoly", "no\n5\n"}, {"", "powers", "what\n"}, {"", "powers ", "no\n"}, {"", "powers 1 2 3 4 5 6 7 8", "no\n"}, {"", "powers x", "no\n"},
		{"table 0 1 4 9", "fit\npoly", "0 1 2\n0 1 2\n"}, {"table 7 7 7", "fit", "7\n"}, {"table 0 0", "fit", "0\n"}, {"", "fit\npoly", "no\n0\n"}, {"poly 3\ntable 100001", "fit\npoly", "no\n3\n"}, {"table 1 0 0 0 0 0 0 0", "fit", "no\n"}, {"table 0 1 4 9", "fit ", "what\n"}, {"table 0 1 4 9", "fit 1", "what\n"},
		{"", "engine 9996 0035\nread", "9996 0035\n-4 35\n"}, {"", "engine 0", "0\n"}, {engine, "engine 12 123\nturns 0", "no\n0008 0019 0018 0006\n"}, {"", "engine", "what\n"}, {"", "engine ", "no\n"}, {"", "engine 12 ", "no\n"}, {"", "engine -1", "no\n"}, {"", "engine 0 0 0 0 0 0 0 0", "no\n"},
		{"poly 0 1 2", "setup 3 2", "09 07 02\n"}, {"", "setup 0 1", "0\n"}, {"", "setup 200 12", "000000000000\n"}, {"poly 0 1 2", "setup -2 2", "04 97 02\n"}, {"poly 0 1 2", "setup 8 2\nread", "no\nno\n"}, {engine, "setup 201 4\nturns 0", "no\n0008 0019 0018 0006\n"}, {"", "setup 0 13", "no\n"}, {"", "setup 0 0", "no\n"}, {"", "setup 0", "what\n"}, {"", "setup 0 4 4", "what\n"}, {"", "setup 00 4", "what\n"}, {"", "setup 0 +4", "what\n"}, {"", "setup", "what\n"}, {"", "setup ", "what\n"}, {"", "setup -0 4", "what\n"}, {"", "setup 0  4", "what\n"}, {"", "setup 0 4 ", "what\n"},
		{engine, "turn", "0027 0037 0024 0006\n"}, {engine, "turn\nturn", "0027 0037 0024 0006\n0064 0061 0030 0006\n"}, {engine, "back", "0001 0007 0012 0006\n"}, {engine, "skew", "0008 0019 0012 0006\n"}, {engine, "skew\nunskew", "0008 0019 0012 0006\n0008 0019 0018 0006\n"}, {engine, "halves", "0027 0043 0024 0006\n"}, {"engine 0008 0019 0012 0006", "halves", "0027 0037 0018 0006\n"},
		{"", "turn", "no\n"}, {"", "back", "no\n"}, {"", "skew", "no\n"}, {"", "unskew", "no\n"}, {"", "halves", "no\n"}, {engine, "turn ", "what\n"}, {engine, "turn 1", "what\n"}, {engine, "back ", "what\n"}, {engine, "skew 1", "what\n"}, {engine, "unskew ", "what\n"}, {engine, "halves 2", "what\n"},
		{engine, "turns 2", "0064 0061 0030 0006\n"}, {engine, "turns -1", "0001 0007 0012 0006\n"}, {engine, "turns 0", "0008 0019 0018 0006\n"}, {"engine 0000 0001", "turns 300", "0300 0001\n"}, {"engine 0000 0001", "turns -300", "9700 0001\n"}, {"engine 0000 0001", "turns 301\nturns 0", "no\n0000 0001\n"}, {"engine 0000 0001", "turns -301", "no\n"}, {"", "turns 1", "no\n"}, {engine, "turns", "what\n"}, {engine, "turns ", "what\n"}, {engine, "turns 1 1", "what\n"}, {engine, "turns x", "what\n"}, {"", "turns x", "what\n"}, {engine, "turns 01", "what\n"}, {engine, "turns -0", "what\n"}, {engine, "turns +1", "what\n"},
		{engine, "turns 99999999999999999", "no\n"}, {engine, "turns 100000000000000000", "what\n"}, {engine, "turns -99999999999999999", "no\n"}, {engine, "turns -100000000000000000", "what\n"}, {"", "turns 99999999999999999", "no\n"}, {"", "turns 100000000000000000", "what\n"}, {engine, "turns 18446744073709551617", "what\n"},
		{"", "layout 1 2 3\ntable 1 2 3\nprint", "ok\n1 2 3\n  1   2\n\n  3\n"}, {"", "layout 20 6 12", "ok\n"}, {"", "layout 21 6 12\ntable 5\nprint", "no\n5\n       5\n"}, {"", "layout 20 7 12", "no\n"}, {"", "layout 20 6 13", "no\n"}, {"", "layout 0 1 1", "no\n"}, {"", "layout 1 0 1", "no\n"}, {"", "layout 1 1 0", "no\n"}, {"", "layout", "what\n"}, {"", "layout ", "what\n"}, {"", "layout 1 1", "what\n"}, {"", "layout 1 1 1 1", "what\n"}, {"", "layout 1 1 01", "what\n"}, {"", "layout -1 1 1", "no\n"},
	})
	expectKnown(t, []knownLine{
		{"", "table 1 -2 3\nround 0 0", "1 -2 3\n1 -2 3\n"}, {"", "table 1000000000 -1000000000", "1000000000 -1000000000\n"}, {table, "table 1000000001\nround 0 0", "no\n0 1 8 28 64 125 216\n"}, {"", "table 99999999999999999", "no\n"}, {"", "table", "what\n"}, {"", "table ", "no\n"}, {table, "table 1 x\ndegree", "no\n6\n"}, {"", "table 01", "no\n"}, {"", "table -0", "no\n"}, {"", "table +1", "no\n"}, {"", "table 1  2", "no\n"}, {"", "table 1 2 ", "no\n"}, {"", "table  1 2", "no\n"}, {"", "table 1\t2", "no\n"}, {"", "table 100000000000000000", "no\n"},
		{"", "table " + strings.Repeat("5 ", 59) + "5", strings.Repeat("5 ", 59) + "5\n"}, {"", "table " + strings.Repeat("5 ", 60) + "5", "no\n"},
		{"poly 0 1 2", "values -1 4", "1 0 1 4\n"}, {"", "values 0 1", "0\n"}, {"", "values 200 1", "0\n"}, {table, "values 200 2\nround 0 0", "no\n0 1 8 28 64 125 216\n"}, {"", "values 0 61", "no\n"}, {"", "values 0 0", "no\n"}, {"", "values 0 -1", "no\n"}, {"", "values -201 1", "no\n"}, {"poly 320 100000 10256 100000", "values 40 1", "1000000000\n"}, {"poly 321 100000 10256 100000", "values 40 1", "no\n"}, {"", "values 0", "what\n"}, {"", "values", "what\n"}, {"", "values ", "what\n"}, {"", "values 0 1 2", "what\n"}, {"", "values a b", "what\n"},
		{engine, "run 4\nturns 0", "8 27 64 125\n0008 0019 0018 0006\n"}, {"engine 9 9", "run 3", "-1 -2 -3\n"}, {engine, "run 0\ndegree", "no\nno\n"}, {engine, "run -1", "no\n"}, {"engine 5", "run 60", strings.Repeat("-5 ", 59) + "-5\n"}, {engine, "run 61", "no\n"}, {"", "run 1", "no\n"}, {engine, "run", "what\n"}, {engine, "run 1 2", "what\n"}, {"", "run 01", "what\n"}, {"engine 01000000000", "run 1", "1000000000\n"}, {"engine 01000000001", "run 1", "no\n"}, {"engine 98999999999", "run 1", "no\n"},
		{"poly 0 1 2\nsetup 0 4", "slip 6 3 1 2\nturns 0", "0 1 4 9 18 29\n0000 0001 0002\n"}, {"engine 00 01", "slip 3 0 0 7", "7 8 9\n"}, {"engine 00 01", "slip 3 59 1 100000", "0 1 2\n"}, {"engine 00 01", "slip 3 60 1 1", "no\n"}, {"engine 00 01", "slip 3 0 2 1", "no\n"}, {"engine 00 01", "slip 0 0 0 1", "no\n"}, {"engine 00 01", "slip 61 0 0 1", "no\n"}, {"engine 00 01", "slip 1 0 0 100001", "no\n"}, {"", "slip 1 0 0 1", "no\n"}, {engine, "slip", "what\n"}, {engine, "slip 1 1 1", "what\n"}, {engine, "slip 1 1 1 1 1", "what\n"}, {engine, "slip 1 1 1 1x", "what\n"},
		{table, "correct 3\ndegree", "0 1 8 27 64 125 216\n3\n"}, {"table 0 1 4 9 16", "correct 2", "0 1 4 9 16\n"}, {table, "correct 2\ndegree", "no\n6\n"}, {table, "correct 7", "no\n"}, {table, "correct 5", "no\n"}, {"", "correct 3", "no\n"}, {table, "correct", "what\n"}, {table, "correct ", "what\n"}, {table, "correct 3 3", "what\n"}, {"table 0 400000000 800000000 5", "correct 1\nround 0 0\nfind 1", "no\n0 400000000 800000000 5\nerror 3 -1199999995\n"}, {"table -9 -500000000 0 500000000", "correct 1", "-1000000000 -500000000 0 500000000\n"},
		{table, "apply 3:28>27\nfind 3", "0 1 8 27 64 125 216\nclean\n"}, {table, "apply -", "0 1 8 28 64 125 216\n"}, {table, "apply 3:27>28", "no\n"}, {table, "apply 7:0>1", "no\n"}, {"", "apply -", "no\n"}, {"", "apply 0:0>1", "no\n"}, {table, "apply", "what\n"}, {table, "apply ", "no\n"}, {table, "apply x", "no\n"}, {table, "apply 6:216>1000000001", "no\n"}, {table, "apply 3:28>27;", "no\n"}, {table, "apply -;3:28>27", "no\n"},
		{"table 14 15 -25", "round 1 0", "1 1 -3\n"}, {"table 14 15 -25", "round 1 1", "1 2 -3\n"}, {"table 14 15 -25", "round 1 2\ndegree", "1 2 -2\n2\n"}, {table, "round 0 3\ndegree", "no\n6\n"}, {table, "round 7 0", "no\n"}, {table, "round -1 0", "no\n"}, {"table 1000000000", "round 6 0", "1000\n"}, {"", "round 0 0", "no\n"}, {table, "round 1", "what\n"}, {table, "round 1 1 1", "what\n"}, {table, "round", "what\n"}, {table, "round ", "what\n"}, {table, "round 1 1.", "what\n"},
	})
}

func TestKnownAnswersOfDesk(t *testing.T) {
	const engine, table = "engine 9996 0035", "table 0 1 8 28 64 125 216"
	expectKnown(t, []knownLine{
		{"", "poly", "0\n"}, {"", "poly \npoly", "no\n0\n"}, {"poly -1 0", "poly", "-1 0\n"},
		{engine, "read", "-4 35\n"}, {"engine 0100001", "read", "no\n"}, {"engine 0100000 9900000", "read", "100000 -100000\n"}, {"engine 9899999", "read", "no\n"}, {"", "read", "no\n"}, {engine, "read ", "what\n"}, {engine, "read 1", "what\n"},
		{table, "degree", "6\n"}, {"table 0 0", "degree", "-1\n"}, {"table 1 0 0 0 0 0 0 0 0", "degree", "7\n"}, {"table 5", "degree", "0\n"}, {"", "degree", "no\n"}, {table, "degree ", "what\n"}, {table, "degree 1", "what\n"},
		{table, "nines", "0 1 8 1 1 8 0\n"}, {"table -1 9 10", "nines", "8 0 1\n"}, {"table 9", "nines", "0\n"}, {"", "nines", "no\n"}, {table, "nines ", "what\n"},
		{table, "find 3\nround 0 0", "error 3 1\n0 1 8 28 64 125 216\n"}, {"table 0 1 4 9 16", "find 2", "clean\n"}, {"table 0 1 4 9 7", "find 2", "error 4 -9\n"}, {table, "find 0", "many\n"}, {"table 0 0 -7", "find 0", "error 2 -7\n"}, {table, "find 4", "error 3 1\n"}, {table, "find 5", "no\n"}, {table, "find -1", "no\n"}, {table, "find 7", "no\n"}, {"", "find 0", "no\n"}, {table, "find", "what\n"}, {table, "find ", "what\n"}, {table, "find 3 3", "what\n"}, {table, "find three", "what\n"},
		{table, "errata 0 1 8 27 64 125 216\nround 0 0", "3:28>27\n0 1 8 28 64 125 216\n"}, {table, "errata 0 1 8 28 64 125 216", "-\n"}, {table, "errata 0 1 8 28 64 125", "no\n"}, {table, "errata 0 1 8 28 64 125 1000000001", "no\n"}, {"table 5 -6", "errata -1000000000 1000000000", "0:5>-1000000000;1:-6>1000000000\n"}, {"", "errata 0", "no\n"}, {table, "errata", "what\n"}, {table, "errata ", "no\n"}, {table, "errata x", "no\n"}, {"table 5", "errata 05", "no\n"}, {"table 0", "errata -0", "no\n"}, {"table 5", "errata 5 ", "no\n"},
		{"table 0 1 4 9 10 11", "plan 2\nround 0 0", "4:0 1 2/2:10 1\n0 1 4 9 10 11\n"}, {table, "plan 7", "no\n"}, {table, "plan -1", "no\n"}, {"table 1501", "plan 0", "no\n"}, {"table 1500 -1500", "plan 0", "1:1500/1:-1500\n"}, {"", "plan 1", "no\n"}, {table, "plan", "what\n"}, {table, "plan ", "what\n"}, {table, "plan 1 1", "what\n"},
		{"table 5 5 5 5 0 0 0 0", "cheap 6 5 1", "4:5/4:0\n"}, {"table 5 5 5 5 0 0 0 0", "plan 6", "7:5 0 0 0 -5 20 -50/1:0\n"}, {"table 0 1", "cheap 1 0 0", "2:0 1\n"}, {"table 0 1", "cheap 1 1000 0", "2:0 1\n"}, {"table 0 1", "cheap 1 0 1001", "no\n"}, {"table 0 1", "cheap 1 1001 0", "no\n"}, {"table 0 1", "cheap 1 -1 0", "no\n"}, {"table 0 1", "cheap 1 0 -1", "no\n"}, {"table 0 1", "cheap 7 1 1", "no\n"}, {"table 1501", "cheap 1 1 1", "no\n"}, {"", "cheap 1 1 1", "no\n"}, {table, "cheap", "what\n"}, {table, "cheap 1 1", "what\n"}, {table, "cheap 1 1 1 1", "what\n"}, {table, "cheap C 1 1", "what\n"},
		{"table 1 20 -3 4 5\nlayout 2 2 3", "sums 0", "21 1\n"}, {"table 1 20 -3 4 5\nlayout 2 2 3", "sums 1", "5 0\n"}, {"table 1 20 -3 4 5\nlayout 2 2 3", "sums 2", "no\n"}, {"table 1", "sums -1", "no\n"}, {"table 10000\nlayout 1 1 1", "sums 0", "10000\n"}, {"", "sums 0", "no\n"}, {table, "sums", "what\n"}, {table, "sums ", "what\n"}, {table, "sums 0 0", "what\n"}, {table, "sums 0x", "what\n"},
		{"table 5", "print", "       5\n"}, {"table 1 20 -3 4 5\nlayout 2 2 3", "print", "  1  -3\n 20   4\n\n  5\n"}, {"table 1000\nlayout 2 2 3", "print\nround 0 0", "no\n1000\n"}, {"table 100000000", "print", "no\n"}, {"table 10000000", "print", "10000000\n"}, {"", "print", "no\n"}, {"table 5", "print ", "what\n"}, {"table 5", "print 1", "what\n"}, {"table 1 2 3 4 5 6 7 8 9 0 1", "print", "       1        6\n       2        7\n       3        8\n       4        9\n       5        0\n\n       1\n"},
	})
}

// Jobs change the polynomial, the layout and the table, and not the engine, also
// if their entries are too long for their pages.
func TestKnownJobLines(t *testing.T) {
	const before = "poly 7 7\nengine 12 03\ntable 4 5 6\nlayout 1 1 4"
	expectKnown(t, []knownLine{
		{before, "job 0 1 2;1 3 4;0 0;2 2 3", "  1   9\n  4\n"},
		{before, "job 0 1 2;1 3 4;0 0;2 2 3\npoly\nturns 0\nround 0 0\nprint", "  1   9\n  4\n0 1 2\n12 03\n1 4 9\n  1   9\n  4\n"},
		{before, "job 98 1;0 3 4;0 0;5 2 2", "no\n"},
		{before, "job 98 1;0 3 4;0 0;5 2 2\npoly\nturns 0\nround 0 0\nprint\ntable 1 2 3 4 5 6\nprint", "no\n98 1\n12 03\n98 99 100\nno\n1 2 3 4 5 6\n 1  6\n 2\n 3\n 4\n 5\n"},
		{before, "job 25 10;0 3 4;1 2;1 1 1\npoly\nround 0 0", "2\n\n4\n\n4\n25 10\n2 4 4\n"},
		{before, "job 320 100000 10256 100000;0 42 12;6 0;20 1 4\npoly\nturns 0\nround 0 0\nprint", "no\n7 7\n12 03\n4 5 6\n   4\n\n   5\n\n   6\n"},
		{before, "job 0 1 2;1 3 1;0 0;2 2 3\npoly\nturns 0\nround 0 0\nprint", "no\n7 7\n12 03\n4 5 6\n   4\n\n   5\n\n   6\n"},
		{before, "job\npoly", "what\n7 7\n"}, {before, "job \npoly", "no\n7 7\n"}, {before, "job x\nround 0 0", "no\n4 5 6\n"}, {before, "job 0 1 2;1 3 4;0 0;2 2 3 ", "no\n"}, {before, "job  0 1 2;1 3 4;0 0;2 2 3", "no\n"},
		{"", "job 0 1 2;1 3 4;0 0;2 2 3\nturn\nsetup 1 4\nrun 4", "  1   9\n  4\nno\n0001 0003 0002\n1 4 9 16\n"},
	})
}

// Lines that are in no row of the table, and what these leave as it was.
func TestOtherLines(t *testing.T) {
	const before = "poly 7 7\nengine 12 03\ntable 4 5 6\nlayout 1 1 4"
	for _, line := range slices.Concat(deskWords[29:], []string{" ", "  ", " poly", " poly 1", "poly\t1", "foo 1", "foo ", "polly 1", "POLY 1", "pol", "polyy", "turns1", "turn turn", "print print", "-", "1", "1 2 3", "turn;turn", "table1 2", "\t", "\r", "\v", "ok ", "é", strings.Repeat("x", 10000), strings.Repeat(" ", 10000)}) {
		if line == "" {
			continue
		}
		expectKnown(t, []knownLine{{before, line + "\npoly\nturns 0\nround 0 0\nprint", "what\n7 7\n12 03\n4 5 6\n   4\n\n   5\n\n   6\n"}, {"", line, "what\n"}})
	}
}
