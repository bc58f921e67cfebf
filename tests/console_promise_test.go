package tests

import (
	"fmt"
	"regexp"
	"slices"
	"strconv"
	"strings"
	"testing"

	"loop.example/g01369/impl"
)

// A namedCall is a line of the document's table, and the call that it names, with what it replies. What a line tells stands in told.
type namedCall struct {
	line string
	run  func(d *impl.Desk, told toldInLine) (string, bool)
}

// A toldInLine has the numbers of a line in order, and what its other word tells.
type toldInLine struct {
	numbers []int
	ages    []int
	births  []impl.Date
	talk    string
	ratios  []impl.Ratio
}

func namedCalls() []namedCall {
	return slices.Concat(changingCalls(), callsOfAges(), callsOfBirths(), callsOfTalks(), callsOfRatios())
}

func changingCalls() []namedCall {
	// What a call returns becomes the ages only if it succeeds.
	become := func(d *impl.Desk, list []int, ok bool) (string, bool) {
		text, _ := impl.AgesText(list)
		if ok {
			d.Ages = list
		}
		return text, ok
	}
	return []namedCall{
		{"ages A", func(d *impl.Desk, told toldInLine) (string, bool) { return become(d, told.ages, true) }},
		{"later N", func(d *impl.Desk, told toldInLine) (string, bool) {
			list, ok := impl.AgesIn(d.Ages, told.numbers[0])
			return become(d, list, ok)
		}},
		{"ago N", func(d *impl.Desk, told toldInLine) (string, bool) {
			list, ok := impl.AgesIn(d.Ages, -told.numbers[0])
			return become(d, list, ok)
		}},
		{"add N", func(d *impl.Desk, told toldInLine) (string, bool) {
			list, ok := impl.AddAge(d.Ages, told.numbers[0])
			return become(d, list, ok)
		}},
		{"drop N", func(d *impl.Desk, told toldInLine) (string, bool) {
			list, ok := impl.DropAge(d.Ages, told.numbers[0])
			return become(d, list, ok)
		}},
		{"births B", func(d *impl.Desk, told toldInLine) (string, bool) {
			d.Births = told.births
			return impl.BirthsText(told.births)
		}},
		{"limit N", func(d *impl.Desk, told toldInLine) (string, bool) {
			if told.numbers[0] < leastLimit || told.numbers[0] > impl.MaxTalked {
				return "", false
			}
			d.Limit, d.Talk = told.numbers[0], ""
			return "none", true
		}},
		{"talk T", func(d *impl.Desk, told toldInLine) (string, bool) {
			d.Talk = told.talk
			return orNone(d.Talk), true
		}},
		{"say U", func(d *impl.Desk, told toldInLine) (string, bool) {
			if !impl.IsTalk(d.Talk + told.talk) {
				return "", false
			}
			d.Talk += told.talk
			return d.Talk, true
		}},
		{"ratios R", func(d *impl.Desk, told toldInLine) (string, bool) {
			d.Ratios = told.ratios
			return impl.RatiosText(told.ratios)
		}},
	}
}

func callsOfAges() []namedCall {
	return []namedCall{
		{"sum", func(d *impl.Desk, told toldInLine) (string, bool) {
			n, ok := impl.SumIn(d.Ages, 0)
			return fmt.Sprint(n), ok
		}},
		{"mean", func(d *impl.Desk, told toldInLine) (string, bool) {
			num, den, ok := impl.MeanAge(d.Ages)
			return fmt.Sprintf("%d/%d", num, den), ok
		}},
		{"order", func(d *impl.Desk, told toldInLine) (string, bool) {
			list, ok := impl.OrderOfAges(d.Ages)
			return toldList(list), ok
		}},
		{"gaps", func(d *impl.Desk, told toldInLine) (string, bool) {
			list, ok := impl.GapsOfAges(d.Ages)
			return toldList(list), ok
		}},
		{"reach N", func(d *impl.Desk, told toldInLine) (string, bool) {
			n, ok := impl.YearsToSum(d.Ages, told.numbers[0])
			return fmt.Sprint(n), ok
		}},
		{"times N K", func(d *impl.Desk, told toldInLine) (string, bool) {
			num, den, ok := impl.TimesOlder(d.Ages, told.numbers[0], told.numbers[1])
			return fmt.Sprintf("%d/%d", num, den), ok
		}},
		{"all N K", func(d *impl.Desk, told toldInLine) (string, bool) {
			rows, ok := impl.AllMultiples(d.Ages, told.numbers[0], told.numbers[1])
			return toldLists(rows), ok
		}},
		{"product N", func(d *impl.Desk, told toldInLine) (string, bool) {
			n, ok := impl.YearsToProduct(d.Ages, told.numbers[0])
			return fmt.Sprint(n), ok
		}},
	}
}

func callsOfBirths() []namedCall {
	areThere := func(d *impl.Desk, people ...int) bool { return slices.Max(people) < len(d.Births) }
	return []namedCall{
		{"on D", func(d *impl.Desk, told toldInLine) (string, bool) {
			list, ok := impl.AgesOn(d.Births, told.births[0])
			return toldList(list), ok
		}},
		{"old N D", func(d *impl.Desk, told toldInLine) (string, bool) {
			if !areThere(d, told.numbers[0]) {
				return "", false
			}
			n, ok := impl.DaysOld(d.Births[told.numbers[0]], told.births[0])
			return fmt.Sprint(n), ok
		}},
		{"next D", func(d *impl.Desk, told toldInLine) (string, bool) {
			on, who, ok := impl.NextBirthday(d.Births, told.births[0])
			return fmt.Sprintf("%d.%d %s", on.Year, on.Day, toldList(who)), ok
		}},
		{"last D", func(d *impl.Desk, told toldInLine) (string, bool) {
			on, who, ok := impl.LastBirthday(d.Births, told.births[0])
			return fmt.Sprintf("%d.%d %s", on.Year, on.Day, toldList(who)), ok
		}},
		{"alike N K M", func(d *impl.Desk, told toldInLine) (string, bool) {
			if !areThere(d, told.numbers[:2]...) {
				return "", false
			}
			n, ok := impl.DaysAlike(d.Births[told.numbers[0]], d.Births[told.numbers[1]], told.numbers[2])
			return fmt.Sprint(n), ok
		}},
		{"twice N K", func(d *impl.Desk, told toldInLine) (string, bool) {
			if !areThere(d, told.numbers...) {
				return "", false
			}
			on, ok := impl.TwiceAsOld(d.Births[told.numbers[0]], d.Births[told.numbers[1]])
			return fmt.Sprintf("%d.%d", on.Year, on.Day), ok
		}},
		{"first N", func(d *impl.Desk, told toldInLine) (string, bool) {
			on, ok := impl.FirstSumOn(d.Births, told.numbers[0])
			return fmt.Sprintf("%d.%d", on.Year, on.Day), ok
		}},
	}
}

func callsOfTalks() []namedCall {
	return []namedCall{
		{"left", func(d *impl.Desk, told toldInLine) (string, bool) {
			rows, ok := impl.PairsLeft(d.Limit, d.Talk)
			return toldLists(rows), ok
		}},
		{"count", func(d *impl.Desk, told toldInLine) (string, bool) {
			n, ok := impl.CountLeft(d.Limit, d.Talk)
			return fmt.Sprint(n), ok
		}},
		{"sums", func(d *impl.Desk, told toldInLine) (string, bool) {
			list, ok := impl.SumsAlone(d.Limit, d.Talk)
			return toldList(list), ok
		}},
		{"products", func(d *impl.Desk, told toldInLine) (string, bool) {
			list, ok := impl.ProductsAlone(d.Limit, d.Talk)
			return toldList(list), ok
		}},
		{"true N K", func(d *impl.Desk, told toldInLine) (string, bool) {
			return impl.TrueTalk(d.Limit, told.numbers[0], told.numbers[1], "s")
		}},
		{"known N K", func(d *impl.Desk, told toldInLine) (string, bool) {
			n, ok := impl.KnownAfter(d.Limit, told.numbers[0], told.numbers[1], "s")
			return fmt.Sprint(n), ok
		}},
	}
}

func callsOfRatios() []namedCall {
	return []namedCall{
		{"until N K", func(d *impl.Desk, told toldInLine) (string, bool) {
			num, den, ok := impl.YearsUntilRatio(told.numbers[0], told.numbers[1], d.Ratios[0])
			return fmt.Sprintf("%d/%d", num, den), ok
		}},
		{"from N", func(d *impl.Desk, told toldInLine) (string, bool) {
			a, b, by, ok := impl.AgesFromSum(told.numbers[0], d.Ratios[0])
			return fmt.Sprint(a, b, by), ok
		}},
		{"gap N", func(d *impl.Desk, told toldInLine) (string, bool) {
			a, b, by, ok := impl.AgesFromGap(told.numbers[0], d.Ratios[0])
			return fmt.Sprint(a, b, by), ok
		}},
		{"chain N", func(d *impl.Desk, told toldInLine) (string, bool) {
			list, ok := impl.AgesOfChain(d.Ratios, told.numbers[0])
			return toldList(list), ok
		}},
		{"least", func(d *impl.Desk, told toldInLine) (string, bool) {
			list, ok := impl.LeastChain(d.Ratios)
			return toldList(list), ok
		}},
		{"life N", func(d *impl.Desk, told toldInLine) (string, bool) {
			num, den, ok := impl.LifeOf(d.Ratios, told.numbers[0])
			return fmt.Sprintf("%d/%d", num, den), ok
		}},
		{"lives", func(d *impl.Desk, told toldInLine) (string, bool) {
			list, ok := impl.WholeLives(d.Ratios)
			return toldList(list), ok
		}},
	}
}

func orNone(talk string) string {
	if talk == "" {
		return "none"
	}
	return talk
}

func toldList(list []int) string {
	if len(list) == 0 {
		return "-"
	}
	return strings.Trim(strings.ReplaceAll(fmt.Sprint(list), " ", ","), "[]")
}

func toldLists(rows [][]int) string {
	text := ""
	for _, row := range rows {
		text += " " + toldList(row)
	}
	return orDash(strings.TrimPrefix(text, " "))
}

func orDash(text string) string {
	if text == "" {
		return "-"
	}
	return text
}

// patternOf takes the letters of a line of the table for the words that may stand there.
func patternOf(line string) *regexp.Regexp {
	number := regexp.MustCompile(` [NKM]`).ReplaceAllString(line, " (0|[1-9][0-9]{0,5})")
	return regexp.MustCompile(`\A` + regexp.MustCompile(` [ABDTUR]\z`).ReplaceAllString(number, " ([^ ]*)") + `\z`)
}

// toldWord reads the last word of a line, if it is no number.
func toldWord(letter byte, word string, told *toldInLine) bool {
	ok := true
	switch letter {
	case 'A':
		told.ages, ok = impl.ParseAges(word)
	case 'B':
		told.births, ok = impl.ParseBirths(word)
	case 'D':
		told.births, ok = impl.ParseBirths(word)
		ok = ok && len(told.births) == 1
	case 'T':
		told.talk, ok = word, impl.IsTalk(word)
	case 'U':
		told.talk, ok = word, slices.Contains(allStatements(), word)
	case 'R':
		told.ratios, ok = impl.ParseRatios(word)
	}
	return ok
}

// A consoleModel tells by the definition alone what a line does.
type consoleModel struct {
	calls    []namedCall
	patterns []*regexp.Regexp
}

func newConsoleModel() consoleModel {
	m := consoleModel{calls: namedCalls()}
	for _, call := range m.calls {
		m.patterns = append(m.patterns, patternOf(call.line))
	}
	return m
}

func (m consoleModel) line(d impl.Desk, line string) (impl.Desk, string) {
	for i, call := range m.calls {
		words := m.patterns[i].FindStringSubmatch(line)
		if words == nil {
			continue
		}
		var told toldInLine
		for k, letter := range strings.Fields(call.line)[1:] {
			if strings.Contains("NKM", letter) {
				n, _ := strconv.Atoi(words[k+1])
				told.numbers = append(told.numbers, n)
			} else if !toldWord(letter[0], words[k+1], &told) {
				return d, "what"
			}
		}
		after := d
		reply, ok := call.run(&after, told)
		if !ok {
			return d, "no"
		}
		return after, reply
	}
	return d, "what"
}

// numbersInLines are those at the limits of what the lines call, beside them, and some between.
func numbersInLines() []string {
	return strings.Fields("0 1 2 3 4 7 8 9 12 40 41 60 61 119 120 121 200 201 1000 1001 1993 2000 3000 3001 10000 10001 999999 1000000")
}

// wordsInLines are words of a kind, of which most are texts of it.
func wordsInLines(letter byte) []string {
	switch letter {
	case 'A':
		return strings.Fields("0 5 120 40-12-9 0-120 7-7-3-7 1-2-3-4-5-6-7-8 1-2-3-4-5-6-7-8-9 121 05 x")
	case 'B':
		return strings.Fields("0.1 3000.365 1990.100,1992.50 2000.10,2000.10,1999.1 1990.0 1990 x")
	case 'D':
		return strings.Fields("0.1 1990.100 1992.99 1992.100 2000.60 2999.365 3000.1 3000.365 3001.1 2000.60,2000.60 x")
	case 'T':
		return append(allStatements(), "", "p-s+", "s-p-s+", strings.Repeat("s-p-", greatestTalk/2), strings.Repeat("s-", greatestTalk+1), "s", "s?")
	case 'U':
		return append(allStatements(), "", "p-s+", "s", "s?")
	case 'R':
		return strings.Fields("1:1 2:1 1:2 4:2,1:3 1:6,1:12,1:7,1:2 100:1,1:100 1:0 101:1 1:1,1:1,1:1,1:1,1:1,1:1,1:1 x")
	}
	return numbersInLines()
}

// consoleLines are each line of the table with all words that are tried, and lines that are none.
func consoleLines() []string {
	lines := []string{"", " ", "fly", "Sum", "sum ", " sum", "sum 1", "later", "later ", "later  1", "talk", "talk  ", "ages 5 6", "alike 0 1", "alike 0 1 2000 0", "old 0", "say", "known 1", "sum\t", "\xff", "sum\xff", "\x00"}
	for _, call := range namedCalls() {
		words := strings.Fields(call.line)
		columns := [][]string{words[:1]}
		for _, letter := range words[1:] {
			columns = append(columns, wordsInLines(letter[0]))
		}
		for _, row := range rowsOf(columns...) {
			// Of three numbers a part is enough.
			if len(row) < 4 || len(row[1]) == 1 && len(row[2]) == 1 {
				lines = append(lines, strings.Join(row, " "))
			}
		}
	}
	return lines
}

func TestPromise10LinesDoWhatTheirCallsDo(t *testing.T) {
	model := newConsoleModel()
	lines := consoleLines()
	for _, d := range goodDesks() {
		for _, line := range lines {
			wantDeskAfter, want := model.line(d, line)
			after, reply, ok := impl.DeskLine(d, line)
			if !ok || reply != want || !sameDesks(after, wantDeskAfter) {
				t.Fatalf("%q on %v is %v, %q, %v, not %v, %q", line, d, after, reply, ok, wantDeskAfter, want)
			}
		}
	}
}

// All small numbers are tried, in each line that has one number or two.
func TestPromise10NumbersInLines(t *testing.T) {
	model := newConsoleModel()
	for _, d := range []impl.Desk{exampleDesk(), lifeDesk(), deskOf("60-20-20-20", "1992.100,1990.100", 9, "p-", "5:2")} {
		hold := func(line string) {
			wantDeskAfter, want := model.line(d, line)
			after, reply, ok := impl.DeskLine(d, line)
			if !ok || reply != want || !sameDesks(after, wantDeskAfter) {
				t.Fatalf("%q on %v is %v, %q, %v, not %v, %q", line, d, after, reply, ok, wantDeskAfter, want)
			}
		}
		for _, call := range namedCalls() {
			name := nameOf(call.line)
			switch lettersOf(call.line) {
			case "N":
				for n := range 1010 {
					hold(fmt.Sprintf("%s %d", name, n))
				}
			case "NK":
				for _, row := range allLists(2, 0, 42) {
					hold(fmt.Sprintf("%s %d %d", name, row[0], row[1]))
				}
			}
		}
	}
}

// The table that the other tests go by has the same lines as this one.
func TestPromise10TablesAgree(t *testing.T) {
	var names, called []string
	for _, line := range goodLines() {
		names = append(names, nameOf(line))
	}
	for _, call := range namedCalls() {
		called = append(called, nameOf(call.line))
		if letters := strings.Join(strings.Fields(call.line)[1:], ""); letters != lettersOf(call.line) {
			t.Errorf("%q has the letters %q", call.line, lettersOf(call.line))
		}
	}
	slices.Sort(names)
	slices.Sort(called)
	wantTexts(t, "the names", names, true, called...)
}

// mixedScripts are so many scripts whose lines follow a rule without a pattern, most of them lines that change something or ask for it.
func mixedScripts(count int) [][]string {
	all := consoleLines()
	byName := map[string][]string{}
	for _, line := range all {
		byName[nameOf(line)] = append(byName[nameOf(line)], line)
	}
	calls := namedCalls()
	z := 1
	next := func(below int) int {
		z = (z*1103515245 + 12345) % (1 << 31)
		return z >> 16 % below
	}
	var scripts [][]string
	for range count {
		var lines []string
		for range next(mostLines + 1) {
			name := nameOf(calls[next(len(calls))].line)
			if next(9) == 0 {
				lines = append(lines, all[next(len(all))])
				continue
			}
			lines = append(lines, byName[name][next(len(byName[name]))])
		}
		scripts = append(scripts, lines)
	}
	return scripts
}

func TestPromise10ScriptsDoWhatTheirLinesDo(t *testing.T) {
	model := newConsoleModel()
	for _, lines := range mixedScripts(3000) {
		script := scriptOf(lines...)
		if len(script) > longestScript {
			wantNoScript(t, script)
			continue
		}
		d := exampleDesk()
		var want []string
		var failed []int
		for i, line := range lines {
			after, reply := model.line(d, line)
			want, d = append(want, reply), after
			if isRefusal(reply) {
				failed = append(failed, i+1)
			}
		}
		replies, ok := impl.RunScript(script)
		wantTexts(t, "RunScript", replies, ok, want...)
		numbers, ok := impl.FailedLines(script)
		wantInts(t, "FailedLines", numbers, ok, failed...)
		after, ok := impl.DeskAfter(script)
		wantDesk(t, "DeskAfter", after, ok, d)
		if t.Failed() {
			t.Fatalf("%q", script)
		}
	}
}

// A script is the same as the first part of it, and then its other lines one by one.
func TestPromise10ScriptsGoOnFromTheirDesk(t *testing.T) {
	for _, lines := range mixedScripts(300) {
		if len(scriptOf(lines...)) > longestScript {
			continue
		}
		all, _ := impl.RunScript(scriptOf(lines...))
		for part := range lines {
			d, ok := impl.DeskAfter(scriptOf(lines[:part]...))
			after, reply, also := impl.DeskLine(d, lines[part])
			wantDeskAfter, _ := impl.DeskAfter(scriptOf(lines[:part+1]...))
			if !ok || !also || reply != all[part] || !sameDesks(after, wantDeskAfter) {
				t.Fatalf("line %d of %q is %v, %q, not %v, %q", part+1, lines, after, reply, wantDeskAfter, all[part])
			}
		}
	}
}

// The texts of the parts of a desk make it again out of any other one.
func TestPromise10DesksAreMadeByLines(t *testing.T) {
	for _, from := range goodDesks() {
		for _, want := range goodDesks() {
			texts := textsOf(want)
			d := from
			for i, line := range []string{"ages " + texts[agesPart], "births " + texts[birthsPart], "limit " + texts[limitPart], "talk " + texts[talkPart], "ratios " + texts[ratiosPart]} {
				after, reply, ok := impl.DeskLine(d, line)
				if wantReply := []string{texts[agesPart], texts[birthsPart], "none", orNone(texts[talkPart]), texts[ratiosPart]}[i]; !ok || reply != wantReply {
					t.Fatalf("%q is %q, %v, not %q", line, reply, ok, wantReply)
				}
				d = after
			}
			wantDesk(t, "the desk", d, true, want)
		}
	}
}
