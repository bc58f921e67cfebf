package tests

import (
	"math"
	"slices"
	"strings"
	"testing"
)

// The limits stand here, and below, as numbers of their own, so that a changed one is noticed.
const (
	greatestLimit     = 40
	greatestTalk      = 12
	greatestKnown     = 14
	leastLimit        = 2
	firstLimitOfNever = 9
)

// allStatements are in the order of the document.
func allStatements() []string { return []string{"s-", "s+", "s!", "p-", "p+", "p!"} }

func goodWho() []string { return []string{"s", "p"} }

// allPairs are all pairs of a limit, in order.
func allPairs(most int) [][]int {
	return rowsWhen(allLists(2, 1, most), func(row []int) bool { return row[0] <= row[1] })
}

func toldTo(who byte, row []int) int {
	if who == 's' {
		return sumOf(row)
	}
	return productOf(row)
}

// knowers tells by the definition alone of which of the pairs that are left somebody knows the ages: no other one has the same told number.
func knowers(left [][]int, who byte) []bool {
	told := make([]int, len(left))
	for i, row := range left {
		told[i] = toldTo(who, row)
	}
	knows := make([]bool, len(left))
	for i, number := range told {
		other := slices.Index(told[i+1:], number)
		knows[i] = other < 0 && !slices.Contains(told[:i], number)
	}
	return knows
}

// pairsOfWhich tells by the definition alone of which of the pairs that are left a statement is true.
func pairsOfWhich(left [][]int, statement string) [][]int {
	who, other := statement[0], byte('s'+'p')-statement[0]
	knows, otherKnows := knowers(left, who), knowers(left, other)
	var found [][]int
	for i, row := range left {
		isTrue := knows[i]
		switch statement[1] {
		case '-':
			isTrue = !knows[i]
		case '!':
			isTrue = true
			for k, possible := range left {
				if toldTo(who, possible) == toldTo(who, row) && otherKnows[k] {
					isTrue = false
				}
			}
		}
		if isTrue {
			found = append(found, row)
		}
	}
	return found
}

func statementsIn(talk string) []string {
	var list []string
	for i := 0; i < len(talk); i += 2 {
		list = append(list, talk[i:i+2])
	}
	return list
}

func leftByTalk(most int, talk string) [][]int {
	left := allPairs(most)
	for _, statement := range statementsIn(talk) {
		left = pairsOfWhich(left, statement)
	}
	return left
}

// possibleStatements are those of which some pair would be left.
func possibleStatements(left [][]int) []string {
	var list []string
	for _, statement := range allStatements() {
		if len(pairsOfWhich(left, statement)) > 0 {
			list = append(list, statement)
		}
	}
	return list
}

// numbersAlone are those that just one of the pairs that are left has, increasing.
func numbersAlone(left [][]int, who byte) []int {
	var found []int
	for i, knows := range knowers(left, who) {
		if knows {
			found = append(found, toldTo(who, left[i]))
		}
	}
	slices.Sort(found)
	return found
}

// turnOf is the one who speaks in turn, counted from 0, if who begins.
func turnOf(who string, turn int) byte {
	if turn%2 == 0 {
		return who[0]
	}
	return byte('s'+'p') - who[0]
}

type twoAges [2]int

// knownByTurns goes on from turn to turn for longer than there are pairs, so that nobody can know later, and tells when somebody knows.
func knownByTurns(most int, who string) map[twoAges]int {
	known := map[twoAges]int{}
	left := allPairs(most)
	for turn := 0; turn < 2*len(allPairs(most)) && len(left) > 0; turn++ {
		speaker := turnOf(who, turn)
		var still [][]int
		for i, knows := range knowers(left, speaker) {
			if knows {
				known[twoAges(left[i])] = turn + 1
			} else {
				still = append(still, left[i])
			}
		}
		// The numbers of turns are right without this: it only saves time where nothing changes any more.
		if turn > 0 && len(still) == len(left) && len(numbersAlone(left, turnOf(who, turn+1))) == 0 {
			break
		}
		left = still
	}
	return known
}

// talkByTurns is a TrueTalk as a text, of so many statements until somebody knows, or of 0 if nobody ever does.
func talkByTurns(who string, known int) string {
	var talk strings.Builder
	for turn := range greatestTalk {
		talk.WriteByte(turnOf(who, turn))
		if turn+1 == known {
			talk.WriteByte('+')
			break
		}
		talk.WriteByte('-')
	}
	return talk.String()
}

// goodTalks are of 0 to 12 statements, with all signs, behind which many pairs, one, or none are left.
func goodTalks() []string {
	return []string{
		"", "s-", "s+", "s!", "p-", "p+", "p!", "p-s+", "s-p-", "s!p+", "p-s!", "s-s-", "s+s-", "s-p-s+", "s!p+s+", "p!p+s+", "s-p-s-p-", "s!p-s!p-s+", "s-p-s-p-s-p-s-p-s-p+",
		strings.Repeat("s-p-", 6), strings.Repeat("p-s-", 6), strings.Repeat("s+", 12), strings.Repeat("p!", 12), strings.Repeat("s!", 12), strings.Repeat("s!p-", 6), strings.Repeat("s-p-", 5) + "s-p+",
	}
}

// badTalks have other signs, an odd number of signs, signs in the wrong order, or too many statements.
func badTalks() []string {
	texts := []string{
		"s", "p", "-", "+", "!", "s-p", "s-+", "s-p-s", "-s", "+p", "!s", "ss", "--", "sp", "s-pp", "-s-p", "-sp-", "ps--",
		"S-", "P+", "s-P-", "S!", "x-", "a+", "q!", "o-", "t-", "r+", "s?", "s=", "s*", "s,", "s.", "p_", "p~", "p\"", "s ", " -", "s- ", " s-", " s- ", "s -", "s- p-", "s-,p-", "s-\n", "\ns-", "s\n", "s-\r\n", "s-\x00", "s-\x00\x00", "\x00\x00", "\xff\xfe", "s\xff", "\xff-",
		"s−", "s–", "ѕ-", "р-", "s!p？", "none", "  ", "00", "s0", "1-", "sum-", "s--", "s++", "s+-",
		strings.Repeat("s-", 13), strings.Repeat("p+", 13), strings.Repeat("s-p-", 7), strings.Repeat("s!", 100), strings.Repeat("s-p-", 100000), strings.Repeat("s-", 12) + "s", strings.Repeat("s-", 12) + "-",
		strings.Repeat("s-", 11) + "s", strings.Repeat("s-", 11) + "s?", strings.Repeat("s-", 11) + "x-", "s?" + strings.Repeat("s-", 11), "x-" + strings.Repeat("s-", 11), strings.Repeat("s-", 6) + "-s" + strings.Repeat("s-", 5),
	}
	// Each other byte, in each of both places.
	for sign := range 256 {
		if !strings.Contains("sp", string([]byte{byte(sign)})) {
			texts = append(texts, string([]byte{byte(sign), '-'}), "p!"+string([]byte{byte(sign), '+'}))
		}
		if !strings.Contains("-+!", string([]byte{byte(sign)})) {
			texts = append(texts, string([]byte{'s', byte(sign)}), "p!"+string([]byte{'p', byte(sign)}))
		}
	}
	return texts
}

func badWho() []string {
	return []string{"", "x", "a", "S", "P", "sp", "ps", "ss", "pp", "s-", "p+", "-", "+", "!", " ", " s", "s ", "p\n", "\x00", "s\x00", "\xff", "ѕ", "р", "0", "1", "sum", "product", strings.Repeat("s", 100000)}
}

func badLimits() []int {
	return ages(math.MinInt, math.MinInt+1, math.MinInt+2, -1000000, -40, -2, -1, 0, 1, 41, 42, 80, 1000000, math.MaxInt-1, math.MaxInt)
}

func badSumsOrProducts() []int {
	return ages(math.MinInt, math.MinInt+1, -1000000, -4, -2, -1)
}

// badPairs are none of a limit: an age is below 1 or above the limit, or they are in the wrong order.
func badPairs(most int) [][]int {
	rows := [][]int{{2, 1}, {most, 1}, {most, most - 1}, {1, most + 1}, {most, most + 1}, {most + 1, most + 1}, {most + 1, 1}, {most + 1, most}, {0, 0}, {0, 1}, {1, 0}, {0, most}, {most, 0}, {-1, 1}, {-1, -1}, {-1, most}, {1, -1}, {-most, most}, {1, 41}, {41, 41}, {1, 1000000}}
	for _, number := range ages(math.MinInt, math.MinInt+1, math.MaxInt-1, math.MaxInt) {
		rows = append(rows, ages(number, 1), ages(1, number), ages(number, number), ages(number, most), ages(most, number), ages(0, number))
	}
	return append(rows, ages(math.MinInt, math.MaxInt), ages(math.MaxInt, math.MinInt))
}

func wantTexts(t *testing.T, call string, got []string, ok bool, want ...string) {
	t.Helper()
	if !ok || !slices.Equal(got, want) {
		t.Errorf("%s is %q, %v, not %q", call, got, ok, want)
	}
}

func wantThree(t *testing.T, call string, a int, b int, n int, ok bool, wantA int, wantB int, wantN int) {
	t.Helper()
	if !ok || a != wantA || b != wantB || n != wantN {
		t.Errorf("%s is %d, %d, %d, %v, not %d, %d, %d", call, a, b, n, ok, wantA, wantB, wantN)
	}
}

func wantNoThree(t *testing.T, call string, a int, b int, n int, ok bool) {
	t.Helper()
	if ok || a != 0 || b != 0 || n != 0 {
		t.Errorf("%s is %d, %d, %d, %v, not a failure", call, a, b, n, ok)
	}
}
