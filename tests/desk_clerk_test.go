package tests

import (
	"regexp"
	"slices"
	"strconv"
	"strings"
	"testing"

	"loop.example/differenceengine/impl"
)

// A clerk executes a script as the document's table tells, with the functions of
// the chapters before. It recognizes each line as a whole, and knows whether it
// has an engine and a table.
type clerk struct {
	poly      []int
	layout    impl.Layout
	engine    impl.Engine
	hasEngine bool
	table     []int
	hasTable  bool
}

func newClerk() *clerk {
	return &clerk{poly: []int{0}, layout: impl.Layout{Rows: 5, Across: 2, Wide: 8}}
}

// A row of the clerk's table is a line as the document shows it, with # for each
// number and * for a text, what it needs, and what it does. An action returns the
// text that is printed, and whether it can be done.
type clerkRow struct {
	form   string
	needs  string
	action func(c *clerk, n []int, text string) (string, bool)
}

func (c *clerk) putPoly(p []int, ok bool) (string, bool) {
	if ok {
		c.poly = p
	}
	return listText(p), ok
}

func (c *clerk) putEngine(e impl.Engine, ok bool) (string, bool) {
	if ok {
		c.engine, c.hasEngine = e, true
	}
	return engineText(e), ok
}

func (c *clerk) putTable(values []int, ok bool) (string, bool) {
	if !ok || !isTable(values) {
		return "", false
	}
	c.table, c.hasTable = values, true
	return listText(values), true
}

// numbersPattern is a text of 1 to 60 numbers.
var numbersPattern = regexp.MustCompile(`^(?:` + decimal + `)(?: (?:` + decimal + `)){0,59}$`)

func numbersOf(text string) ([]int, bool) {
	if !numbersPattern.MatchString(text) {
		return nil, false
	}
	numbers := []int{}
	for _, field := range strings.Split(text, " ") {
		n, _ := strconv.Atoi(field)
		numbers = append(numbers, n)
	}
	return numbers, true
}

// decimal is a number of at most 17 digits.
const decimal = `0|-?[1-9][0-9]{0,16}`

func clerkRows() []clerkRow {
	return slices.Concat(clerkEngineRows(), clerkTableRows(), clerkTellingRows())
}

func clerkEngineRows() []clerkRow {
	turns := map[string]func(e impl.Engine) (impl.Engine, bool){"turn": impl.TurnWhole, "back": impl.TurnBack, "skew": impl.SkewEngine, "unskew": impl.UnskewEngine, "halves": impl.TurnHalves}
	rows := []clerkRow{
		{"poly *", "", func(c *clerk, _ []int, text string) (string, bool) {
			_, ok := c.putPoly(impl.ParsePoly(text))
			return "ok", ok
		}},
		{"powers *", "", func(c *clerk, _ []int, text string) (string, bool) {
			powers, ok := impl.ParsePoly(text)
			if !ok {
				return "", false
			}
			return c.putPoly(impl.FromPowers(powers))
		}},
		{"fit", "table", func(c *clerk, _ []int, _ string) (string, bool) { return c.putPoly(impl.Interpolate(c.table)) }},
		{"engine *", "", func(c *clerk, _ []int, text string) (string, bool) { return c.putEngine(impl.ParseEngine(text)) }},
		{"setup # #", "", func(c *clerk, n []int, _ string) (string, bool) { return c.putEngine(impl.SetUp(c.poly, n[0], n[1])) }},
		{"turns #", "engine", func(c *clerk, n []int, _ string) (string, bool) { return c.putEngine(impl.TurnMany(c.engine, n[0])) }},
	}
	for word, turn := range turns {
		rows = append(rows, clerkRow{word, "engine", func(c *clerk, _ []int, _ string) (string, bool) { return c.putEngine(turn(c.engine)) }})
	}
	return rows
}

func clerkTableRows() []clerkRow {
	return []clerkRow{
		{"table *", "", func(c *clerk, _ []int, text string) (string, bool) { return c.putTable(numbersOf(text)) }},
		{"values # #", "", func(c *clerk, n []int, _ string) (string, bool) { return c.putTable(impl.ValuesOf(c.poly, n[0], n[1])) }},
		{"run #", "engine", func(c *clerk, n []int, _ string) (string, bool) { return c.putTable(impl.RunEngine(c.engine, n[0])) }},
		{"slip # # # #", "engine", func(c *clerk, n []int, _ string) (string, bool) {
			return c.putTable(impl.RunWithSlip(c.engine, n[0], n[1], n[2], n[3]))
		}},
		{"correct #", "table", func(c *clerk, n []int, _ string) (string, bool) { return c.putTable(impl.CorrectTable(c.table, n[0])) }},
		{"apply *", "table", func(c *clerk, _ []int, text string) (string, bool) {
			list, ok := impl.ParseErrata(text)
			if !ok {
				return "", false
			}
			return c.putTable(impl.ApplyErrata(c.table, list))
		}},
		{"round # #", "table", func(c *clerk, n []int, _ string) (string, bool) {
			return c.putTable(impl.RoundTable(c.table, n[0], n[1]))
		}},
		{"layout # # #", "", func(c *clerk, n []int, _ string) (string, bool) {
			l := impl.Layout{Rows: n[0], Across: n[1], Wide: n[2]}
			if isLayout(l) {
				c.layout = l
			}
			return "ok", isLayout(l)
		}},
		{"job *", "", func(c *clerk, _ []int, text string) (string, bool) {
			j, parsed := impl.ParseJob(text)
			values, ok := impl.JobTable(j)
			if !parsed || !ok {
				return "", false
			}
			c.poly, c.layout = j.Poly, j.Layout
			c.putTable(values, true)
			return printedTable(c.layout, c.table)
		}},
	}
}

func clerkTellingRows() []clerkRow {
	return []clerkRow{
		{"poly", "", func(c *clerk, _ []int, _ string) (string, bool) { return listText(c.poly), true }},
		{"read", "engine", func(c *clerk, _ []int, _ string) (string, bool) {
			p, ok := impl.ReadEngine(c.engine)
			return listText(p), ok
		}},
		{"degree", "table", func(c *clerk, _ []int, _ string) (string, bool) { return strconv.Itoa(impl.LeastDegree(c.table)), true }},
		{"nines", "table", func(c *clerk, _ []int, _ string) (string, bool) { return listText(impl.NinesOf(c.table)), true }},
		{"find #", "table", func(c *clerk, n []int, _ string) (string, bool) {
			at, amount, kind := impl.FindError(c.table, n[0])
			return []string{"clean", "error " + strconv.Itoa(at) + " " + strconv.Itoa(amount), "many", ""}[kind], kind < 3
		}},
		{"errata *", "table", func(c *clerk, _ []int, text string) (string, bool) {
			right, ok := numbersOf(text)
			if !ok {
				return "", false
			}
			list, ok := impl.ErrataOf(right, c.table)
			return errataText(list), ok
		}},
		{"plan #", "table", func(c *clerk, n []int, _ string) (string, bool) {
			plan, ok := impl.GreedyPlan(c.table, n[0])
			return planText(plan), ok
		}},
		{"cheap # # #", "table", func(c *clerk, n []int, _ string) (string, bool) {
			plan, ok := impl.CheapestPlan(c.table, n[0], n[1], n[2])
			return planText(plan), ok
		}},
		{"sums #", "table", func(c *clerk, n []int, _ string) (string, bool) {
			sums := impl.PageSums(c.layout, c.table, n[0])
			return listText(sums), len(sums) > 0
		}},
		{"print", "table", func(c *clerk, _ []int, _ string) (string, bool) { return printedTable(c.layout, c.table) }},
	}
}

// A knownForm is a row of the table with the word and the pattern of its lines.
type knownForm struct {
	clerkRow
	word    string
	pattern *regexp.Regexp
}

func knownForms() []knownForm {
	forms := []knownForm{}
	for _, row := range clerkRows() {
		word, _, _ := strings.Cut(row.form, " ")
		pattern := strings.NewReplacer("#", "("+decimal+")", "*", "(.*)").Replace(row.form)
		forms = append(forms, knownForm{row, word, regexp.MustCompile(`^(?s:` + pattern + `)$`)})
	}
	return forms
}

var forms = knownForms()

// execute returns the output of a line.
func (c *clerk) execute(line string) string {
	for _, form := range forms {
		if !strings.HasPrefix(line, form.word) || !form.pattern.MatchString(line) {
			continue
		}
		parts := form.pattern.FindStringSubmatch(line)
		if form.needs == "engine" && !c.hasEngine || form.needs == "table" && !c.hasTable {
			return "no\n"
		}
		numbers, text := []int{}, ""
		for _, part := range parts[1:] {
			n, _ := strconv.Atoi(part)
			numbers, text = append(numbers, n), part
		}
		output, ok := form.action(c, numbers, text)
		if !ok {
			return "no\n"
		}
		return strings.TrimSuffix(output, "\n") + "\n"
	}
	return "what\n"
}

// clerkOutput returns what a script is to produce.
func clerkOutput(script string) string {
	if len(script) > 20000 {
		return "long\n"
	}
	c, output, before := newClerk(), "", 0
	for script != "" {
		line, rest, _ := strings.Cut(script, "\n")
		if line != "" {
			if before >= 100 || len(output) > 40000 {
				return output + "full\n"
			}
			output += c.execute(line)
		}
		script, before = rest, before+1
	}
	return output
}

func expectOutput(t *testing.T, script, want string) {
	t.Helper()
	if got := impl.RunScript(script); got != want {
		t.Errorf("RunScript(%q) = %q; want %q", script, got, want)
	}
}

// expectAsClerk fails unless a script produces what the clerk produces.
func expectAsClerk(t *testing.T, script string) {
	t.Helper()
	expectOutput(t, script, clerkOutput(script))
}

// deskProbes are lines that show all that a script has left: the polynomial, the
// engine, the table and, with a table of short entries, the layout.
const deskProbes = "\npoly\nturns 0\nround 0 0\nsums 0\ntable 1 2 3 4 5 6 7 8 9 0 1 2 3 4 5 6 7 8 9 0 1 2 3 4 5 6 7 8 9 0\nprint"
