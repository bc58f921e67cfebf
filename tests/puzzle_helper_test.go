package tests

import (
	"math"
	"slices"
	"strconv"
	"strings"
	"testing"

	"loop.example/g01369/impl"
)

// The limits stand here, and below, as numbers of their own, so that a changed one is noticed.
const (
	greatestHidden = 12
	mostClues      = 6
	greatestTold   = 2000
	greatestSeed   = 9999
)

const examplePuzzle = "2a0.0.9,2.0.20,3.0.1"

// fullPuzzle has one solution, 11, 1 and 1, and each of its clues alone is needless.
const fullPuzzle = "3a2.0.11,1.0.11,0.0.13,4.0.1,5.0.1,3.0.1"

func clue(kind int, a int, b int) impl.Clue { return impl.Clue{Kind: kind, A: a, B: b} }

func clueList(list ...impl.Clue) []impl.Clue { return list }

func manyClues(count int, c impl.Clue) []impl.Clue { return slices.Repeat(clueList(c), count) }

func puzzle(people int, clues ...impl.Clue) impl.Puzzle {
	return impl.Puzzle{People: people, Clues: clues}
}

// puzzleOf reads a text that is known to be right.
func puzzleOf(text string) impl.Puzzle {
	people, _ := strconv.Atoi(text[:1])
	var clues []impl.Clue
	for _, word := range strings.FieldsFunc(text[2:], func(sign rune) bool { return sign == ',' }) {
		clues = append(clues, clueOf(word))
	}
	return puzzle(people, clues...)
}

func clueOf(text string) impl.Clue {
	numbers := ages()
	for _, part := range strings.Split(text, ".") {
		n, _ := strconv.Atoi(part)
		numbers = append(numbers, n)
	}
	return clue(numbers[0], numbers[1], numbers[2])
}

// textOfPuzzle tells by the definition alone the text of a puzzle.
func textOfPuzzle(p impl.Puzzle) string {
	var text strings.Builder
	text.WriteString(strconv.Itoa(p.People) + "a")
	for i, c := range p.Clues {
		if i > 0 {
			text.WriteString(",")
		}
		text.WriteString(textOfClue(c))
	}
	return text.String()
}

func textOfClue(c impl.Clue) string {
	return strconv.Itoa(c.Kind) + "." + strconv.Itoa(c.A) + "." + strconv.Itoa(c.B)
}

func samePuzzles(a impl.Puzzle, b impl.Puzzle) bool {
	return a.People == b.People && slices.Equal(a.Clues, b.Clues)
}

// withoutOne is a puzzle without one of its clues, in new memory.
func withoutOne(p impl.Puzzle, k int) impl.Puzzle {
	return puzzle(p.People, slices.Delete(slices.Clone(p.Clues), k, k+1)...)
}

// Nobody writes into these lists, which many tests go through.
var hiddenOfTwo, hiddenOfThree = allLists(2, 1, greatestHidden), allLists(3, 1, greatestHidden)

func allHidden(people int) [][]int {
	if people == 2 {
		return hiddenOfTwo
	}
	return hiddenOfThree
}

// nextAround is the one behind somebody: behind the last one comes the first one.
func nextAround(list []int, who int) int { return append(slices.Clone(list), list[0])[who+1] }

// isFitting tells by the definition alone whether hidden ages fit a clue.
func isFitting(c impl.Clue, list []int) bool {
	switch c.Kind {
	case 0:
		return sumOf(list) == c.B
	case 1:
		return list[c.A] == c.B
	case 2:
		return productOf(list) == c.B
	case 3:
		return (list[c.A] > nextAround(list, c.A)) == (c.B == 1)
	case 4:
		return countOf(list, "p") == c.B
	case 5:
		return isSomeMultiple(list[c.A], nextAround(list, c.A)) == (c.B == 1)
	}
	sum := 0
	for _, age := range list {
		sum += age + c.A
	}
	return isSomeMultiple(sum, c.B)
}

// solutionsIn tells by trying all of them the hidden ages that fit all clues.
func solutionsIn(p impl.Puzzle) [][]int {
	left := allHidden(p.People)
	for _, c := range p.Clues {
		left = rowsWhen(left, func(list []int) bool { return isFitting(c, list) })
	}
	return left
}

// greatestA is by the definition alone the greatest A of a kind, of so many people.
func greatestA(kind int, people int) int {
	switch kind {
	case 1, 3, 5:
		return people - 1
	case 6:
		return 9
	}
	return 0
}

func leastB(kind int) int {
	if kind == 6 {
		return 2
	}
	return 0
}

func greatestB(kind int) int {
	switch kind {
	case 3, 5:
		return 1
	case 6:
		return 9
	}
	return greatestTold
}

// goodClues have the least and the greatest A and B of each kind, and some between.
func goodClues(people int) []impl.Clue {
	var list []impl.Clue
	for kind := range 7 {
		for a := range greatestA(kind, people) + 1 {
			for _, b := range ages(leastB(kind), leastB(kind)+1, 5, 9, 12, 20, greatestB(kind)-1, greatestB(kind)) {
				if leastB(kind) <= b && b <= greatestB(kind) {
					list = append(list, clue(kind, a, b))
				}
			}
		}
	}
	return list
}

// badClues have one number that is none of a clue, or more.
func badClues(people int) []impl.Clue {
	ends := ages(math.MinInt, math.MinInt+1, -1000000, -2, -1, 1000000, math.MaxInt-1, math.MaxInt)
	list := clueList(clue(-1, -1, -1), clue(7, 10, 2001), clue(math.MinInt, math.MinInt, math.MinInt), clue(math.MaxInt, math.MaxInt, math.MaxInt))
	for _, kind := range append(ends, 7, 8) {
		list = append(list, clue(kind, 0, 0), clue(kind, 0, 1), clue(kind, 0, 2), clue(kind, 1, 5))
	}
	for kind := range 7 {
		for _, a := range append(ends, greatestA(kind, people)+1, greatestA(kind, people)+2) {
			list = append(list, clue(kind, a, leastB(kind)), clue(kind, a, greatestB(kind)))
		}
		for _, b := range append(ends, leastB(kind)-1, greatestB(kind)+1, greatestB(kind)+2) {
			list = append(list, clue(kind, 0, b), clue(kind, greatestA(kind, people), b))
		}
	}
	return list
}

func badHiddenPeople() []int {
	return ages(math.MinInt, math.MinInt+1, -1000000, -3, -2, -1, 0, 1, 4, 5, 12, 1000000, math.MaxInt-1, math.MaxInt)
}

// goodTextsOfPuzzles are of puzzles without a clue up to such with MaxClues, without a solution, with one, with several and with all hidden ages.
func goodTextsOfPuzzles() []string {
	texts := []string{
		"2a", "3a", examplePuzzle, "2a6.3.9,1.0.5", fullPuzzle, "2a0.0.2", "2a0.0.24", "3a0.0.3", "3a0.0.36", "2a2.0.144", "3a2.0.1728", "2a0.0.9,0.0.9", "2a0.0.9,0.0.10", "2a0.0.9,2.0.20", "3a0.0.13,2.0.36", "3a0.0.13,2.0.36,3.0.1", "3a4.0.3", "3a4.0.4", "2a1.0.5,1.1.7", "2a1.0.5,0.0.12,1.1.7",
		"3a0.0.36,2.0.1728,1.0.12,1.1.12,1.2.12,6.0.9", "2a1.0.0", "2a1.0.12,1.1.1,5.0.1,3.0.1,4.0.0,6.0.2", "3a2.0.1727", "2a3.0.1,3.1.1", "2a3.0.0,3.1.0", "2a5.0.1,5.1.1", "3a5.0.1,5.1.1,5.2.1", "3a3.0.1,3.1.1,3.2.1", "2a6.0.2", "2a6.9.9", "3a6.9.9", "2a0.0.0", "2a0.0.2000", "3a1.2.2000", "3a4.0.2000", "2a3.1.0,3.1.0,3.1.0,3.1.0,3.1.0,3.1.0",
	}
	for people := 2; people <= 3; people++ {
		for _, c := range goodClues(people) {
			texts = append(texts, textOfPuzzle(puzzle(people, c)))
		}
	}
	return texts
}

func goodPuzzles() []impl.Puzzle {
	var list []impl.Puzzle
	for _, text := range goodTextsOfPuzzles() {
		list = append(list, puzzleOf(text))
	}
	return list
}

// badPuzzles have wrong numbers of people or too many clues, or in each place once what is no clue.
func badPuzzles() []impl.Puzzle {
	list := []impl.Puzzle{puzzle(2, manyClues(mostClues+1, clue(0, 0, 9))...), puzzle(3, manyClues(mostClues+1, clue(6, 9, 9))...), puzzle(2, manyClues(mostClues+2, clue(4, 0, 1))...), puzzle(3, manyClues(1000, clue(0, 0, 13))...), puzzle(4, manyClues(mostClues+1, clue(0, 0, 9))...)}
	for _, people := range badHiddenPeople() {
		list = append(list, puzzle(people), puzzle(people, clue(0, 0, 9)), puzzle(people, clue(1, 0, 5)), puzzle(people, clue(6, 3, 9), clue(2, 0, 20)))
	}
	for people := 2; people <= 3; people++ {
		for _, bad := range badClues(people) {
			list = append(list, puzzle(people, bad), puzzle(people, clue(0, 0, 9), bad), puzzle(people, bad, clue(0, 0, 9)))
		}
		for place := range mostClues {
			for _, bad := range clueList(clue(-1, 0, 2), clue(7, 0, 2), clue(1, people, 5), clue(0, 1, 9), clue(2, 0, -1), clue(3, 0, 2), clue(6, 0, 1)) {
				clues := manyClues(mostClues, clue(0, 0, 9))
				clues[place] = bad
				list = append(list, puzzle(people, clues...))
			}
		}
	}
	return list
}

// goodHidden are hidden ages that are alike, divide each other or do not, and of which none, some or all are primes.
func goodHidden() [][]int {
	return [][]int{
		{1, 1}, {12, 12}, {1, 12}, {12, 1}, {5, 4}, {4, 5}, {5, 7}, {6, 3}, {3, 6}, {7, 7}, {2, 3}, {8, 12}, {9, 1}, {11, 2},
		{1, 1, 1}, {12, 12, 12}, {1, 1, 12}, {12, 1, 1}, {2, 3, 5}, {5, 3, 2}, {4, 6, 9}, {12, 6, 3}, {3, 6, 12}, {9, 2, 2}, {1, 6, 6}, {11, 7, 12}, {8, 8, 3}, {10, 1, 11},
	}
}

// badHiddenLists are too short or too long, or have in each place once what is no hidden age.
func badHiddenLists() [][]int {
	lists := [][]int{nil, {}, {5}, {1}, {12}, {0}, {5, 4, 3, 2}, {1, 1, 1, 1}, {5, 4, 3, 2, 1}, manyAges(12, 5), manyAges(1000, 5), {0, 0}, {13, 13, 13}}
	for _, bad := range ages(math.MinInt, math.MinInt+1, -1000000, -5, -1, 0, 13, 14, 24, 120, 1000000, math.MaxInt-1, math.MaxInt) {
		lists = append(lists, ages(bad), ages(bad, 5), ages(5, bad), ages(bad, bad), ages(bad, 5, 4), ages(5, bad, 4), ages(5, 4, bad))
	}
	return lists
}

func badTextsOfPuzzles() []string {
	texts := []string{
		"", "a", "aa", "2", "3", "0", "0a", "1a", "4a", "5a", "12a", "22a", "23a", "20a", "30a", "2aa", "2a,", "2a.", "2a..", "2a,,", "2a..,..", "2a0", "2a0.0", "2a0.", "2a0.0.", "2a.0.9", "2a0..9", "2a.0.", "2a..9", "2a0.0.9.", "2a0.0.9.1", "2a0.0.9.0", "2a.0.0.9", "2a0..0.9", "2a0.0..9",
		"0.0.9", "2,0.0.9", "2 0.0.9", "2.0.0.9", "20.0.9", "2A0.0.9", "2b0.0.9", "2á0.0.9", "a0.0.9", "a2a0.0.9", "2a2a0.0.9", "2aa0.0.9", "2a0.0.9a", "2a0.0.9a2.0.20", "2a0a0a9",
		"2a,0.0.9", "2a0.0.9,", "2a,0.0.9,", "2a0.0.9,,2.0.20", "2a0.0.9,2.0.20,", ",2a0.0.9", "2a0.0.9,,", "2a,,0.0.9", "2a0.0.9,2", "2a0.0.9,2.0", "2a0.0.9,.0.20", "2a0.0.9,2.0.", "2a0.0.9,2..20", "2a0.0.9.2.0.20", "2a0.0.9 2.0.20", "2a0.0.9;2.0.20", "2a0.0.9:2.0.20", "2a0.0.9-2.0.20", "2a0,0,9", "2a0-0-9", "2a0:0:9", "2a0 0 9",
		"02a0.0.9", "2a00.0.9", "2a0.00.9", "2a0.0.09", "2a0.0.009", "2a01.0.5", "2a1.00.5", "2a1.01.5", "2a1.0.05", "2a0.0.00", "2a6.03.9", "2a6.3.09", "2a06.3.9", "002a", "02a", "2a0.0.9,02.0.20", "2a0.0.9,2.00.20", "2a0.0.9,2.0.020",
		"+2a0.0.9", "-2a0.0.9", "2a+0.0.9", "2a-0.0.9", "2a0.+0.9", "2a0.-0.9", "2a0.0.+9", "2a0.0.-9", "2a0.0.-0", "2a1.+1.5", "2a-1.0.9", "2a0.-1.9", "2a0.0.-1", "+2a", "-2a", "2a+", "2a-", "--2a", "2a0.0.9,+2.0.20", "2a0.0.9,2.0.+20",
		" 2a", "2a ", "2 a", " ", "2 a0.0.9", "2a 0.0.9", "2a0 .0.9", "2a0. 0.9", "2a0.0 .9", "2a0.0. 9", "2a0.0.9 ", "2a0.0.9, 2.0.20", "2a0.0.9 ,2.0.20", "2a0.0.9\n", "2a0.0.9\r\n", "\t2a0.0.9", "\n2a", "2a\n", "2a\x00", "\x002a", "2\n", "2a0.0.9,\n2.0.20",
		"2a7.0.0", "2a7.0.2", "2a8.0.0", "2a9.0.0", "2a10.0.0", "2a0.1.9", "2a2.1.20", "2a4.1.1", "3a0.2.9", "2a1.2.5", "2a1.3.5", "3a1.3.5", "2a3.2.1", "3a3.3.1", "2a5.2.0", "3a5.3.0", "2a6.10.9", "3a6.10.2", "2a6.0.0", "2a6.0.1", "2a6.0.10", "3a6.9.10", "2a3.0.2", "2a3.1.9", "3a5.0.2", "2a0.0.2001", "2a1.0.2001", "2a2.0.2001", "3a4.0.2001", "2a0.0.2010", "2a0.0.3000", "2a0.0.10000", "2a0.0.20000", "2a0.0.9,0.1.9", "2a0.1.9,0.0.9", "2a0.0.9,7.0.0", "2a0.0.9,1.2.5",
		"0a0.0.9", "1a0.0.9", "4a0.0.9", "1a1.0.5", "4a1.3.5", "1a6.3.9", "4a6.3.9",
		"2a0.0.9,0.0.9,0.0.9,0.0.9,0.0.9,0.0.9,0.0.9", "3a6.9.9,6.9.9,6.9.9,6.9.9,6.9.9,6.9.9,6.9.9", fullPuzzle + ",4.0.1", fullPuzzle + ",", fullPuzzle + ",x", fullPuzzle + ",,", "2a" + strings.Repeat("0.0.9,", 6), "2a" + strings.Repeat(",", 5), "2a" + strings.Repeat(",", 6), "2a" + strings.Repeat(",", 7),
		"2a0.0.9223372036854775807", "2a0.0.9223372036854775808", "2a0.0.-9223372036854775808", "2a0.0.18446744073709551616", "2a0.0.18446744073709551625", "2a18446744073709551616.0.9", "2a0.18446744073709551616.9", "18446744073709551618a0.0.9", "18446744073709551618a", "2a0.0.4294967305", "4294967298a0.0.9", "2a256.0.9", "2a0.256.9", "258a", "2a0.0.340282366920938463463374607431768211465",
		"x", "xa", "2ax", "2x", "2a0.0.x", "2a0.x.9", "2ax.0.9", "2a0.0.9x", "x2a0.0.9", "2a0x.0.9", "2a0.0x.9", "2xa0.0.9", "2a0.0.1e1", "2a0.0.0x9", "2a0.0.0b1", "2a0.0.0o7", "2a0.0.1_0", "2.0a0.0.9", "2a0.0.9.0", "none", "puzzle", "２a0.0.9", "2a０.0.9", "2a0.0.９", "2a0．0．9", "2a0.0.9，2.0.20", "2а0.0.9", "٢a", "²a", "2a0.0.²", "\xff", "2\xff", "2a\xff", "\xff2a", "2a0.0.9\xff", "2a0.0.9\xef\xbf\xbd",
	}
	for sign := range 256 {
		s := string([]byte{byte(sign)})
		if sign < '0' || sign > '9' {
			texts = append(texts, s, s+"2a0.0.9", "2"+s+"a0.0.9", "2a"+s+"0.0.9", "2a0"+s+".0.9", "2a0."+s+"0.9", "2a0.0"+s+".9", "2a0.0."+s+"9", "2a0.0.9"+s)
		}
		if s != "a" {
			texts = append(texts, "2"+s, "2"+s+"0.0.9")
		}
		if s != "." {
			texts = append(texts, "2a0"+s+"0.9", "2a0.0"+s+"9")
		}
	}
	return texts
}

// mixedPuzzles are so many puzzles that follow a rule without a pattern: of some all clues fit the same hidden ages, of the others hardly ever.
func mixedPuzzles(count int) []impl.Puzzle {
	var list []impl.Puzzle
	z := 1
	next := func(below int) int {
		z = (z*299 + 811) % 10007
		return z / 7 % below
	}
	for i := range count {
		people := 2 + next(2)
		hidden := ages(1+next(greatestHidden), 1+next(greatestHidden), 1+next(greatestHidden))[:people]
		var clues []impl.Clue
		for range next(mostClues + 1) {
			kind := next(7)
			c := clue(kind, next(greatestA(kind, people)+1), leastB(kind)+next(min(greatestB(kind)-leastB(kind)+1, 40)))
			// The B is the one that these ages have, if they have one.
			for b := leastB(kind); i%4 > 0 && b <= greatestB(kind); b++ {
				if isFitting(clue(kind, c.A, b), hidden) {
					c.B = b
					break
				}
			}
			clues = append(clues, c)
		}
		list = append(list, puzzle(people, clues...))
	}
	return list
}

func wantPuzzle(t *testing.T, call string, got impl.Puzzle, ok bool, want impl.Puzzle) {
	t.Helper()
	if !ok || !samePuzzles(got, want) {
		t.Errorf("%s is %v, %v, not %v", call, got, ok, want)
	}
}

func wantNoPuzzle(t *testing.T, call string, got impl.Puzzle, ok bool) {
	t.Helper()
	if ok || got.People != 0 || len(got.Clues) != 0 {
		t.Errorf("%s is %v, %v, not a failure", call, got, ok)
	}
}
