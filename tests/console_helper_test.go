package tests

import (
	"fmt"
	"math"
	"slices"
	"strconv"
	"strings"
	"testing"

	"loop.example/g01369/impl"
)

// The limits stand here, and below, as numbers of their own, so that a changed one is noticed.
const (
	longestScript  = 3000
	mostLines      = 50
	greatestNumber = 999999
)

const (
	exampleAges   = "40-12-9"
	exampleBirths = "1990.100,1992.50,1992.100"
	exampleChain  = "3:2,2:1"
)

// The parts of a desk, in order.
const (
	agesPart = iota
	birthsPart
	limitPart
	talkPart
	ratiosPart
)

// agesOf reads a text that is known to be right, as the next ones do.
func agesOf(text string) []int {
	list := ages()
	for _, word := range strings.Split(text, "-") {
		n, _ := strconv.Atoi(word)
		list = append(list, n)
	}
	return list
}

func birthsOf(text string) []impl.Date {
	var list []impl.Date
	for _, word := range strings.Split(text, ",") {
		list = append(list, dateOf(word))
	}
	return list
}

func dateOf(text string) impl.Date {
	first, second, _ := strings.Cut(text, ".")
	year, _ := strconv.Atoi(first)
	day, _ := strconv.Atoi(second)
	return date(year, day)
}

func deskOf(agesText string, birthsText string, limit int, talk string, ratiosText string) impl.Desk {
	return impl.Desk{Ages: agesOf(agesText), Births: birthsOf(birthsText), Limit: limit, Talk: talk, Ratios: ratiosOf(ratiosText)}
}

func exampleDesk() impl.Desk { return deskOf(exampleAges, exampleBirths, 4, "", exampleChain) }

// lifeDesk has ratios that are parts of a life, which those of the first desk are not.
func lifeDesk() impl.Desk { return deskOf(exampleAges, exampleBirths, 4, "", exampleParts) }

// textsOf tells by the definition alone the text of each part of a desk.
func textsOf(d impl.Desk) [5]string {
	list := make([]string, len(d.Ages))
	for i, age := range d.Ages {
		list[i] = strconv.Itoa(age)
	}
	births := make([]string, len(d.Births))
	for i, birth := range d.Births {
		births[i] = fmt.Sprintf("%d.%d", birth.Year, birth.Day)
	}
	return [5]string{strings.Join(list, "-"), strings.Join(births, ","), strconv.Itoa(d.Limit), d.Talk, textOfRatios(d.Ratios)}
}

func sameDesks(a impl.Desk, b impl.Desk) bool {
	return slices.Equal(a.Ages, b.Ages) && slices.Equal(a.Births, b.Births) && a.Limit == b.Limit && a.Talk == b.Talk && slices.Equal(a.Ratios, b.Ratios)
}

func isZeroDesk(d impl.Desk) bool { return sameDesks(d, impl.Desk{}) }

// spareDesk is a copy of a desk with room behind each list, full of marks, that nobody may touch.
func spareDesk(d impl.Desk) impl.Desk {
	return impl.Desk{Ages: withSpare(d.Ages, spareMark), Births: withSpare(d.Births, date(spareMark, spareMark)), Limit: d.Limit, Talk: d.Talk, Ratios: withSpare(d.Ratios, spareRatio())}
}

// wholeDesk is a copy of a desk with all that lies behind its lists.
func wholeDesk(d impl.Desk) impl.Desk {
	return impl.Desk{Ages: slices.Clone(whole(d.Ages)), Births: slices.Clone(whole(d.Births)), Limit: d.Limit, Talk: d.Talk, Ratios: slices.Clone(whole(d.Ratios))}
}

// writeOver puts marks all over the lists of a desk, and over the room behind them.
func writeOver(d impl.Desk) {
	for i := range whole(d.Ages) {
		whole(d.Ages)[i] = -spareMark
	}
	for i := range whole(d.Births) {
		whole(d.Births)[i] = date(-spareMark, -spareMark)
	}
	for i := range whole(d.Ratios) {
		whole(d.Ratios)[i] = ratio(-spareMark, -spareMark)
	}
}

// goodDesks have the least and the greatest parts, and some between, one at a time and all together.
func goodDesks() []impl.Desk {
	manyNumbers := strings.Repeat("120-", impl.MaxPeople-1) + "120"
	manyDates := strings.Repeat("3000.365,", impl.MaxPeople-1) + "3000.365"
	fullTalk := strings.Repeat("s-p-", greatestTalk/2)
	manyChain := strings.Repeat("100:100,", longestChain-1) + "100:100"
	list := []impl.Desk{
		exampleDesk(), lifeDesk(),
		deskOf("0", "0.1", leastLimit, "", "1:1"),
		deskOf(manyNumbers, manyDates, greatestLimit, fullTalk, manyChain),
		deskOf("7-7-3-7", "1980.200,1985.200,1990.200,1975.200", 9, "p-s-", "1:2,1:3,1:7"),
		deskOf("0-120", "0.1,3000.1", 12, "s!p+", "5:2"),
		deskOf("20", "2000.1", 5, "s+s-", "2:4,4:2"),
	}
	for _, text := range []string{"0", "120", "0-0", "120-0-60", "1-2-4-8", "60-20-20-20", manyNumbers} {
		list = append(list, deskOf(text, exampleBirths, 4, "p-", exampleChain))
	}
	for _, text := range []string{"0.1", "3000.365", "1990.100,1990.100", "1992.100,1990.100", "2990.20,2997.19,2996.300", manyDates} {
		list = append(list, deskOf(exampleAges, text, 4, "p-", exampleChain))
	}
	for _, talk := range []string{"", "s-", "s!", "p+", "p-s+", "s+s-", fullTalk} {
		for _, limit := range ages(leastLimit, leastLimit+1, greatestLimit) {
			list = append(list, deskOf(exampleAges, exampleBirths, limit, talk, exampleChain))
		}
	}
	for _, text := range []string{"1:1", "1:2", "2:1", "1:100", "100:1", "100:99", "4:2,1:3", "1:97,1:89", "1:2,1:2", manyChain} {
		list = append(list, deskOf(exampleAges, exampleBirths, 4, "p-", text))
	}
	return list
}

// badDesks have one part that is none, each of them once, or more.
func badDesks() []impl.Desk {
	list := []impl.Desk{{}, {Ages: ages(-1), Births: dates(date(0, 0)), Limit: math.MinInt, Talk: "x", Ratios: ratioList(ratio(0, 0))}}
	with := func(change func(d *impl.Desk)) {
		d := exampleDesk()
		change(&d)
		list = append(list, d)
	}
	for _, bad := range badAges() {
		with(func(d *impl.Desk) { d.Ages = bad })
	}
	for _, bad := range badBirths() {
		with(func(d *impl.Desk) { d.Births = bad })
	}
	for _, bad := range badLimits() {
		with(func(d *impl.Desk) { d.Limit = bad })
	}
	for _, bad := range badTalks() {
		with(func(d *impl.Desk) { d.Talk = bad })
	}
	for _, bad := range badChains() {
		with(func(d *impl.Desk) { d.Ratios = bad })
	}
	return list
}

// goodLines have each line of the document's table once, so that none of them is refused on its goodDesk.
func goodLines() []string {
	return []string{
		"ages 5-7", "births 1980.1", "talk p-", "ratios 1:2", "later 2", "ago 2", "add 33", "drop 1", "limit 5", "say s-",
		"sum", "mean", "order", "gaps", "reach 70", "times 0 1", "all 0 1", "product 1000",
		"on 2000.60", "old 0 2000.60", "next 2000.60", "last 2000.60", "alike 0 1 2000", "twice 0 1", "first 25",
		"left", "count", "sums", "products", "true 1 4", "known 1 4",
		"until 40 12", "from 60", "gap 10", "chain 60", "least", "life 9", "lives",
	}
}

func goodDesk(line string) impl.Desk {
	if nameOf(line) == "life" || nameOf(line) == "lives" {
		return lifeDesk()
	}
	return exampleDesk()
}

func nameOf(line string) string { return strings.Split(line, " ")[0] }

func isRefusal(reply string) bool { return reply == "no" || reply == "what" }

// changedParts are those parts of a desk that a line may change.
func changedParts(line string) []int {
	switch nameOf(line) {
	case "ages", "later", "ago", "add", "drop":
		return ages(agesPart)
	case "births":
		return ages(birthsPart)
	case "limit":
		return ages(limitPart, talkPart)
	case "talk", "say":
		return ages(talkPart)
	case "ratios":
		return ages(ratiosPart)
	}
	return nil
}

// badNumbersInLines are words that are no numbers, or too great ones.
func badNumbersInLines() []string {
	list := []string{
		"", "-", "+", "-0", "+0", "-1", "+1", "--1", "00", "01", "001", "000000", "0000001", "1000000", "1000001", "9999999", "0999999", "10000000",
		"9223372036854775807", "9223372036854775808", "-9223372036854775808", "18446744073709551615", "18446744073709551616", "18446744073709551617", "4294967296", "4294967297", strings.Repeat("9", 1000), strings.Repeat("0", 1000), strings.Repeat("0", 1000) + "1",
		"x", "1x", "x1", "1.0", "1.", ".1", "1,0", "1,", "1-", "1:1", "1/1", "1e0", "0x1", "0b1", "0o1", "1_0", "1\t", "\t1", "1\r", "\r1", "1\x00", "\x001", "\xff", "1\xff", "\xff1", "１", "1１", "٣", "²", "½", "no", "what", "none", "N",
	}
	for sign := range 256 {
		if sign != '\n' && sign != ' ' && (sign < '0' || sign > '9') {
			list = append(list, string([]byte{byte(sign)}), string([]byte{'1', byte(sign)}), string([]byte{byte(sign), '1'}))
		}
	}
	return list
}

// badWords are words that are no text of a kind: A, B, D, T, U or R, as in the document's table.
func badWords(kind byte) []string {
	// None of these has a blank or a newline, which part words and lines.
	oneWord := func(texts []string) []string {
		return slices.DeleteFunc(texts, func(text string) bool { return strings.ContainsAny(text, " \n") || len(text) > 1000 })
	}
	switch kind {
	case 'A':
		return append(oneWord(badNumbersInLines()), "121", "40-", "-40", "40--12", "40-121", "40-012", "40-+12", "40,12", "40.12", "40:12", "40-x", "x-40", "1-2-3-4-5-6-7-8-9", strings.Repeat("0-", 8)+"0", strings.Repeat("-", 900))
	case 'B', 'D':
		list := append(oneWord(badNumbersInLines()), "0", "1", "1990", "1990.", ".100", "1990.0", "1990.366", "3001.1", "-1.1", "1990.-1", "01990.100", "1990.0100", "+1990.100", "1990.+100", "1990.100.1", "1990,100", "1990:100", "1990.100,", ",1990.100", "1990.100,,1992.50", "1990.100,1992", "1990.100,1992.366", "1990.100;1992.50", "1990.x", "x.100", strings.Repeat("0.1,", 8)+"0.1", strings.Repeat(",", 900))
		if kind == 'D' {
			list = append(list, exampleBirths, "2000.60,2000.60", "2000.60,2001.60", "1990.100,1992.50", strings.Repeat("2000.60,", 7)+"2000.60")
		}
		return list
	case 'T':
		return oneWord(badTalks())
	case 'U':
		return append(oneWord(badTalks()), "", "s-s-", "s-p-", "p+s!", "s-p-s+", strings.Repeat("s-", greatestTalk))
	}
	return oneWord(badTextsOfRatios())
}

// lettersOf are the letters of the words behind each name, as in the document's table.
func lettersOf(line string) string {
	switch nameOf(line) {
	case "ages":
		return "A"
	case "births":
		return "B"
	case "talk":
		return "T"
	case "say":
		return "U"
	case "ratios":
		return "R"
	case "later", "ago", "add", "drop", "limit", "reach", "product", "first", "from", "gap", "chain", "life":
		return "N"
	case "times", "all", "twice", "true", "known", "until":
		return "NK"
	case "on", "next", "last":
		return "D"
	case "old":
		return "ND"
	case "alike":
		return "NKM"
	}
	return ""
}

// scriptOf ends each line by a newline.
func scriptOf(lines ...string) string {
	var script strings.Builder
	for _, line := range lines {
		script.WriteString(line + "\n")
	}
	return script.String()
}

// scriptOfBytes is a script of so many lines, all of an x or more but one, and of so many bytes.
func scriptOfBytes(lines int, bytes int) string {
	short := strings.Repeat("x\n", lines-1)
	return short + strings.Repeat("x", bytes-len(short)-1) + "\n"
}

func badScripts() []string {
	return []string{
		"sum", "x", " ", "sum\nsum", "sum\n\nsum", "\nsum", "\n ", "sum\r", "sum\n\r", "sum\x00", "\xff", "sum\n\xff",
		strings.Repeat("\n", mostLines+1), strings.Repeat("\n", mostLines+2), strings.Repeat("sum\n", mostLines+1), strings.Repeat("sum\n", mostLines) + "sum", strings.Repeat("sum\n", mostLines) + " ", strings.Repeat("\n", longestScript), strings.Repeat("\n", longestScript+1),
		scriptOfBytes(1, longestScript+1), scriptOfBytes(1, longestScript+2), scriptOfBytes(2, longestScript+1), scriptOfBytes(mostLines, longestScript+1), scriptOfBytes(mostLines+1, longestScript), scriptOfBytes(mostLines+1, 200),
		strings.Repeat("x", longestScript-1), strings.Repeat("x", longestScript), strings.Repeat("x", longestScript+1), "sum\n" + strings.Repeat(" ", longestScript-4), strings.Repeat("sum\n", 1000), strings.Repeat("x", 1000000), strings.Repeat("\n", 1000000), strings.Repeat("x", 1000000) + "\n",
	}
}

// holdLine runs a line on a desk, and holds what the document says of all lines against it: no part of the desk changes but the one that the line names, which then is the reply.
func holdLine(t *testing.T, d impl.Desk, line string) (impl.Desk, string) {
	t.Helper()
	after, reply, ok := impl.DeskLine(d, line)
	if !ok || !impl.IsDesk(after) {
		t.Fatalf("%q on %v is %v, %q, %v", line, d, after, reply, ok)
	}
	changed := changedParts(line)
	if isRefusal(reply) {
		changed = nil
	}
	was, is := textsOf(d), textsOf(after)
	for part := range is {
		if !slices.Contains(changed, part) && is[part] != was[part] {
			t.Errorf("%q on %v changes it to %v, with %q", line, d, after, reply)
		}
		if slices.Contains(changed, part) && part != limitPart && is[part] != strings.TrimSuffix(reply, "none") {
			t.Errorf("%q on %v makes it %v, but says %q", line, d, after, reply)
		}
	}
	return after, reply
}

// converse runs rows of a line, an arrow and its reply, from the first desk on: line by line, and all as one script.
func converse(t *testing.T, rows ...string) {
	t.Helper()
	d := exampleDesk()
	var lines, replies []string
	var refused []int
	for i, row := range rows {
		line, want, _ := strings.Cut(row, " -> ")
		after, reply := holdLine(t, d, line)
		if reply != want {
			t.Errorf("%q on %v is %q, not %q", line, d, reply, want)
		}
		if isRefusal(want) {
			refused = append(refused, i+1)
		}
		lines, replies, d = append(lines, line), append(replies, want), after
	}
	script := scriptOf(lines...)
	got, ok := impl.RunScript(script)
	wantTexts(t, "RunScript", got, ok, replies...)
	numbers, ok := impl.FailedLines(script)
	wantInts(t, "FailedLines", numbers, ok, refused...)
	after, ok := impl.DeskAfter(script)
	wantDesk(t, "DeskAfter", after, ok, d)
}

// wantRefused wants a reply that is no or what, on a desk that stays as it is.
func wantRefused(t *testing.T, d impl.Desk, line string, want string) {
	t.Helper()
	after, reply, ok := impl.DeskLine(d, line)
	if !ok || reply != want || !sameDesks(after, d) {
		t.Errorf("%q on %v is %v, %q, %v, not %q", line, d, after, reply, ok, want)
	}
}

func wantNoLine(t *testing.T, d impl.Desk, line string) {
	t.Helper()
	after, reply, ok := impl.DeskLine(d, line)
	if ok || reply != "" || !isZeroDesk(after) {
		t.Errorf("%.60q on %v is %v, %q, %v, not a failure", line, d, after, reply, ok)
	}
}

func wantDesk(t *testing.T, call string, got impl.Desk, ok bool, want impl.Desk) {
	t.Helper()
	if !ok || !sameDesks(got, want) {
		t.Errorf("%s is %v, %v, not %v", call, got, ok, want)
	}
}

func wantNoScript(t *testing.T, script string) {
	t.Helper()
	replies, ok := impl.RunScript(script)
	wantNone(t, "RunScript", replies, ok)
	numbers, ok := impl.FailedLines(script)
	wantNone(t, "FailedLines", numbers, ok)
	d, ok := impl.DeskAfter(script)
	if ok || !isZeroDesk(d) {
		t.Errorf("DeskAfter %.60q is %v, %v, not a failure", script, d, ok)
	}
}
