package tests

import (
	"fmt"
	"strconv"
	"strings"
	"testing"

	"loop.example/differenceengine/impl"
)

// The script of the document's example, and what it produces.
const (
	exampleScript = "powers 0 0 0 1\nsetup 2 4\nturn\nskew\nhalves\nunskew\nread\nvalues 0 6\nfind 3\ntable 0 1 8 28 64 125 216\nfind 3\nerrata 0 1 8 27 64 125 216\ncorrect 3\nfit\ndegree\nnines\nplan 1\nround 1 1\nlayout 3 2 4\nprint\nsums 0\njob 0 1 2;1 3 4;0 0;2 2 3\nfoo\n"
	exampleOutput = "0 1 6 6\n0008 0019 0018 0006\n0027 0037 0024 0006\n0027 0037 0018 0006\n0064 0061 0024 0006\n0064 0061 0030 0006\n64 61 30 6\n0 1 8 27 64 125\nclean\n0 1 8 28 64 125 216\nerror 3 1\n3:28>27\n0 1 8 27 64 125 216\n0 1 6 6\n3\n0 1 8 0 1 8 0\n2:0 1/2:8 19/2:64 61/1:216\n0 0 1 3 6 13 22\nok\n   0    3\n   0    6\n   1   13\n\n  22\n1 22\n  1   9\n  4\nwhat\n"
)

func TestExampleScript(t *testing.T) {
	expectOutput(t, exampleScript, exampleOutput)
	expectOutput(t, strings.TrimSuffix(exampleScript, "\n"), exampleOutput)
	expectOutput(t, strings.ReplaceAll(exampleScript, "\n", "\n\n\n"), exampleOutput)
	expectOutput(t, "\n\n"+exampleScript+"\n\n", exampleOutput)
	expectAsClerk(t, exampleScript)
}

func TestShortScripts(t *testing.T) {
	for script, want := range map[string]string{
		"": "", "\n": "", "\n\n\n": "", "poly": "0\n", "poly\n": "0\n", "\npoly": "0\n", "poly\n\npoly": "0\n0\n", "poly\r\npoly": "what\n0\n", " ": "what\n", "\n \n": "what\n", "poly\x00": "what\n", "poly\n\x00\npoly": "0\nwhat\n0\n", "no": "what\n",
		"setup 0 4": "0000\n", "values 0 3": "0 0 0\n", "table 5\nprint": "5\n       5\n", "table 1 2 3 4 5 6\nprint": "1 2 3 4 5 6\n       1        6\n       2\n       3\n       4\n       5\n", "layout 5 2 8\ntable 1 2 3 4 5 6\nsums 0": "ok\n1 2 3 4 5 6\n15 6\n", "table 12345678\nprint": "12345678\n12345678\n", "table 123456789\nprint": "123456789\nno\n",
		"read\nturn\nrun 1\nslip 1 0 0 1\nturns 1\nback\nskew\nunskew\nhalves": strings.Repeat("no\n", 9), "fit\ncorrect 0\napply -\nround 0 0\ndegree\nnines\nfind 0\nerrata 0\nplan 0\ncheap 0 0 0\nsums 0\nprint": strings.Repeat("no\n", 12),
	} {
		expectOutput(t, script, want)
	}
}

// A script is too long by its bytes, whatever they are.
func TestLongScripts(t *testing.T) {
	for _, c := range []struct{ script, want string }{
		{strings.Repeat("\n", 20000), ""}, {strings.Repeat("\n", 20001), "long\n"}, {strings.Repeat("x", 20000), "what\n"}, {strings.Repeat("x", 20001), "long\n"}, {strings.Repeat("é", 10000), "what\n"}, {strings.Repeat("é", 10000) + "\n", "long\n"},
		{"poly" + strings.Repeat("\n", 19996), "0\n"}, {"poly" + strings.Repeat("\n", 19997), "long\n"}, {"poly\nprint" + strings.Repeat(" ", 19990), "0\nwhat\n"}, {"poly\nprint" + strings.Repeat(" ", 19991), "long\n"}, {"poly " + strings.Repeat("0", 19995) + "", "no\n"}, {"table 1" + strings.Repeat("\x00", 19993), "no\n"}, {"run 1" + strings.Repeat("0", 19995), "what\n"},
		{strings.Repeat("x", 40000), "long\n"}, {strings.Repeat("x", 1000000), "long\n"}, {strings.Repeat("poly\n", 4000), strings.Repeat("0\n", 100) + "full\n"}, {strings.Repeat("poly\n", 4001), "long\n"},
	} {
		expectOutput(t, c.script, c.want)
	}
}

// A line that is preceded by a hundred lines of any kind is not executed, and
// neither is one after it.
func TestManyLines(t *testing.T) {
	for _, line := range []struct{ text, output string }{{"poly", "0\n"}, {"foo", "what\n"}, {"turn", "no\n"}, {"", ""}, {"poly 5", "ok\n"}, {" ", "what\n"}, {"table 1", "1\n"}} {
		for _, count := range []int{0, 1, 98, 99, 100, 101, 102, 200} {
			script := strings.Repeat(line.text+"\n", count)
			want := strings.Repeat(line.output, min(count, 100))
			full := want
			if count > 100 && line.text != "" {
				full += "full\n"
			}
			expectOutput(t, script, full)
			expectOutput(t, script+"\n\n\n", full)
			for _, more := range []string{"degree", "foo", " ", "degree\ndegree", "\n\ndegree", "layout 1 1 1\nlayout 2 2 2"} {
				switch before := count + strings.Count(more, "\n\n")*2; {
				case before >= 100:
					expectOutput(t, script+more, want+"full\n")
				default:
					expectAsClerk(t, script+more)
				}
			}
		}
	}
	expectOutput(t, strings.Repeat("\n", 99)+"poly", "0\n")
	expectOutput(t, strings.Repeat("\n", 99)+"poly\npoly", "0\nfull\n")
	expectOutput(t, strings.Repeat("\n", 100)+"poly", "full\n")
	expectOutput(t, strings.Repeat("\n", 99)+"poly\n\n\n\n", "0\n")
	expectOutput(t, "poly\n"+strings.Repeat("\n", 98)+"poly\n\npoly\npoly", "0\n0\nfull\n")
}

// outputOf returns a script whose output has a number of bytes, and this output:
// as long pages as there can be, again and again, and at last a table whose text
// fills up what is missing.
func outputOf(count int) (string, string) {
	table := strings.TrimSuffix(strings.Repeat("0 ", 60), " ")
	script, output := "table "+table+"\nlayout 1 1 12\n", table+"\nok\n"
	page := strings.TrimSuffix(strings.Repeat("           0\n\n", 60), "\n")
	for len(output)+len(page)+2 <= count {
		script, output = script+"print\n", output+page
	}
	// A number of ten digits and a space are eleven bytes.
	missing := count - len(output) - 1
	entries := strings.Repeat("1000000000 ", missing/11) + strings.Repeat("9", missing%11)
	if missing%11 == 0 {
		entries = strings.Repeat("1000000000 ", missing/11-1) + "-1000000000"
	}
	if missing%11 == 10 {
		entries = strings.Repeat("1000000000 ", missing/11) + "1000000000"
	}
	return script + "table " + entries + "\n", output + entries + "\n"
}

// A line is not executed if the output before it is longer than the limit, but
// the last line before that may go past it.
func TestLongOutput(t *testing.T) {
	for count := 39950; count <= 40050; count++ {
		script, output := outputOf(count)
		if len(output) != count || strings.Count(script, "\n") > 60 {
			t.Fatalf("the output has %d bytes, and not %d", len(output), count)
		}
		expectOutput(t, script, output)
		expectOutput(t, script+"\n\n", output)
		if count > 40000 {
			expectOutput(t, script+"poly", output+"full\n")
			expectOutput(t, script+"\n\npoly\npoly\n", output+"full\n")
			expectOutput(t, script+" ", output+"full\n")
			continue
		}
		expectOutput(t, script+"poly", output+"0\n")
		expectOutput(t, script+"\n\nfoo", output+"what\n")
		want := output + "0\n0\n"
		if count == 39999 || count == 40000 {
			want = output + "0\nfull\n"
		}
		expectOutput(t, script+"poly\npoly", want)
	}
	script, output := outputOf(40000)
	long := strings.TrimSuffix(strings.Repeat("-1000000000 ", 60), " ")
	expectOutput(t, script+"table "+long+"\npoly", output+long+"\nfull\n")
}

// A picker throws dice for lines.
type picker func(least, most int) int

func (throw picker) of(list []string) string { return list[throw(0, len(list)-1)] }

// number returns a number between two others, with a space before it.
func (throw picker) number(least, most int) string { return " " + strconv.Itoa(throw(least, most)) }

// numbers returns numbers from 0 to limits, each with a space before it.
func (throw picker) numbers(limits ...int) string {
	text := ""
	for _, limit := range limits {
		text += throw.number(0, limit)
	}
	return text
}

func (throw picker) poly() string {
	return throw.of([]string{"0 1 2", "5 -3", "1 2 3 4", "100000 7", "0 0 0 1", "7"})
}

func (throw picker) table() string {
	return throw.of([]string{"0 1 8 28 64 125 216", "0 1 4 9 10 11", "5 5 5 5 0 0 0 0", "14 15 -25 1000", "1", "1000000000 -1000000000 0 7"})
}

func (throw picker) job() string {
	return throw.poly() + ";" + throw.numbers(9, 20)[1:] + " 9;" + throw.numbers(2, 2)[1:] + ";" + throw.numbers(5, 4, 12)[1:]
}

// textLine returns a line with a text that it may have, or without a rest.
func (throw picker) textLine() string {
	switch throw(0, 10) {
	case 0:
		return "poly " + throw.poly()
	case 1:
		return "powers " + throw.poly()
	case 2:
		return "table " + throw.table()
	case 3:
		return "errata " + throw.table()
	case 4:
		return "engine " + throw.of([]string{"0008 0019 0018 0006", "9996 0035", "0", "50 49 99"})
	case 5:
		return "apply " + throw.of([]string{"-", "3:28>27", "0:0>5", "1:1>2;2:8>9", "0:1>0"})
	case 6:
		return "job " + throw.job()
	}
	return throw.of([]string{"turn", "back", "skew", "unskew", "halves", "fit", "poly", "read", "degree", "nines", "print", "print", ""})
}

// numberLine returns a line with numbers that it may have.
func (throw picker) numberLine() string {
	switch throw(0, 9) {
	case 0:
		return "setup" + throw.number(-9, 9) + throw.number(2, 12)
	case 1:
		return "turns" + throw.number(-310, 310)
	case 2:
		return "values" + throw.number(-20, 20) + throw.number(0, 20)
	case 3:
		return "run" + throw.number(0, 20)
	case 4:
		return "slip" + throw.numbers(12, 8, 3, 50)
	case 5:
		return throw.of([]string{"correct", "find", "plan"}) + throw.number(0, 4)
	case 6:
		return "cheap" + throw.numbers(3, 20, 20)
	case 7:
		return "round" + throw.numbers(2, 2)
	case 8:
		return "layout" + throw.numbers(6, 4, 12)
	}
	return "sums" + throw.number(0, 2)
}

// anyLine returns a line that need not be in the table.
func (throw picker) anyLine() string {
	switch throw(0, 3) {
	case 0:
		return throw.of(deskWords[:29]) + throw.of(lineRests)
	case 1:
		return throw.of(deskWords[:29]) + " " + throw.of(numberFields)
	case 2:
		return throw.of(deskWords[:29]) + " " + throw.of(textRests())
	}
	return throw.of(deskWords)
}

// someLines returns as many lines of all kinds, most of which can be executed.
func someLines(count int, throw picker) []string {
	lines := []string{}
	for range count {
		makers := []func() string{throw.textLine, throw.numberLine, throw.textLine, throw.numberLine, throw.anyLine}
		lines = append(lines, makers[throw(0, len(makers)-1)]())
	}
	return lines
}

// Scripts of many lines, of which each one works with what all before it have
// left.
func TestManyScripts(t *testing.T) {
	for seed := range 400 {
		throw := dice(uint64(8000 + seed))
		lines := someLines(throw(1, 110), throw)
		expectAsClerk(t, strings.Join(lines, "\n"))
		expectAsClerk(t, strings.Join(lines, "\n")+deskProbes)
	}
}

// Scripts of bytes that need not be lines of the table.
func TestScriptsOfAnyBytes(t *testing.T) {
	const others = "\n \n 0123456789-;:>\x00\xffpx"
	for seed := range 1500 {
		throw := dice(uint64(9000 + seed))
		script := []byte(exampleScript)
		if seed%5 == 0 {
			script = script[:throw(0, len(script))]
		}
		for range throw(1, 12) {
			if len(script) > 0 {
				script[throw(0, len(script)-1)] = others[throw(0, len(others)-1)]
			}
		}
		expectAsClerk(t, string(script))
	}
}

// expectPrefixes fails unless the output of a script begins with that of each of
// its prefixes that end at a line break.
func expectPrefixes(t *testing.T, script string) {
	t.Helper()
	whole := impl.RunScript(script)
	for at := range len(script) {
		if script[at] != '\n' {
			continue
		}
		for _, prefix := range []string{script[:at], script[:at+1]} {
			if output := impl.RunScript(prefix); !strings.HasPrefix(whole, output) {
				t.Fatalf("the output of the first %d bytes of %q is not at the beginning of that of the whole: %q", len(prefix), script, output)
			}
		}
	}
}

// Promise 8: the output of a script begins with the output of every prefix that
// ends at a line break, also if it has too many lines or too much output.
func TestPrefixes(t *testing.T) {
	expectPrefixes(t, exampleScript)
	expectPrefixes(t, strings.Repeat("\n", 98)+"poly\n\npoly\npoly\n\n")
	expectPrefixes(t, strings.Repeat("poly\n", 130))
	for _, count := range []int{39990, 40000, 40001, 40700} {
		script, _ := outputOf(count)
		expectPrefixes(t, script+"poly\n\nprint\nprint\npoly 1\n\n")
	}
	for seed := range 40 {
		throw := dice(uint64(700 + seed))
		expectPrefixes(t, strings.Join(someLines(throw(1, 125), throw), "\n")+"\n")
	}
}

// The prefixes of a script that is too long are not.
func TestPrefixesOfLongScripts(t *testing.T) {
	script := "poly\n" + strings.Repeat("x", 19995)
	expectOutput(t, script, "0\nwhat\n")
	expectOutput(t, script+"\n", "long\n")
	expectOutput(t, script[:5], "0\n")
}

// Each job that is valid is a line, and prints the pages of the job.
func TestJobsAtTheDesk(t *testing.T) {
	for _, j := range someJobs() {
		sheet, printed := impl.JobSheet(j)
		values, ok := impl.JobTable(j)
		want := sheet
		if !printed {
			want = "no\n"
		}
		poly, table := "0\n", "no\n"
		if ok {
			poly, table = impl.FormatPoly(j.Poly)+"\n", listText(values)+"\n"
		}
		expectOutput(t, fmt.Sprintf("job %s\npoly\nround 0 0\nturn", impl.FormatJob(j)), want+poly+table+"no\n")
		expectAsClerk(t, "job "+jobText(j)+deskProbes)
	}
}
