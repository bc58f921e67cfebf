package tests

import (
	"slices"
	"testing"

	"loop.example/g01369/impl"
)

// The tests of this file hold each function against the document's definitions, by going from statement to statement.

// holdBehindTalk holds all functions that tell of a talk against the pairs that are left behind it.
func holdBehindTalk(t *testing.T, most int, talk string, left [][]int) {
	t.Helper()
	rows, ok := impl.PairsLeft(most, talk)
	wantRows(t, "PairsLeft", rows, ok, left...)
	n, ok := impl.CountLeft(most, talk)
	wantInt(t, "CountLeft", n, ok, len(left))
	a, b, ok := impl.FirstLeft(most, talk)
	if len(left) == 0 {
		wantNoTwo(t, "FirstLeft of none", a, b, ok)
	} else {
		wantTwo(t, "FirstLeft", a, b, ok, left[0][0], left[0][1])
	}
	list, ok := impl.SumsAlone(most, talk)
	wantInts(t, "SumsAlone", list, ok, numbersAlone(left, 's')...)
	list, ok = impl.ProductsAlone(most, talk)
	wantInts(t, "ProductsAlone", list, ok, numbersAlone(left, 'p')...)
	texts, ok := impl.NextStatements(most, talk)
	wantTexts(t, "NextStatements", texts, ok, possibleStatements(left)...)
	is, ok := impl.IsToldByTalk(most, talk)
	wantBool(t, "IsToldByTalk", is, ok, len(left) == 1)
	if t.Failed() {
		t.Fatalf("of the limit %d and the talk %q", most, talk)
	}
}

func holdTruthOfTalk(t *testing.T, most int, talk string, left [][]int) {
	t.Helper()
	isLeft := map[twoAges]bool{}
	for _, row := range left {
		isLeft[twoAges(row)] = true
	}
	for _, row := range allPairs(most) {
		is, ok := impl.IsTrueTalk(most, row[0], row[1], talk)
		wantBool(t, "IsTrueTalk", is, ok, isLeft[twoAges(row)])
	}
	if t.Failed() {
		t.Fatalf("of the limit %d and the talk %q", most, talk)
	}
}

// holdTalksFrom goes through all talks that go on from one for so many statements.
func holdTalksFrom(t *testing.T, most int, talk string, left [][]int, statements int) {
	t.Helper()
	holdBehindTalk(t, most, talk, left)
	holdTruthOfTalk(t, most, talk, left)
	if statements == 0 {
		return
	}
	for _, statement := range allStatements() {
		holdTalksFrom(t, most, talk+statement, pairsOfWhich(left, statement), statements-1)
	}
}

func TestPromise5PairsLeftBehindAllShortTalks(t *testing.T) {
	for most := leastLimit; most <= 6; most++ {
		holdTalksFrom(t, most, "", allPairs(most), 4)
	}
	for most := 7; most <= 13; most++ {
		holdTalksFrom(t, most, "", allPairs(most), 2)
	}
	for _, most := range ages(25, 36, 40) {
		holdTalksFrom(t, most, "", allPairs(most), 1)
	}
}

// Each talk here goes on, as long as it may, with one of the statements that leave some pair, others for each way.
func TestPromise5PairsLeftBehindLongTalks(t *testing.T) {
	for _, most := range ages(2, 3, 4, 7, 9, 10, 13, 25, 36, 40) {
		for way := range 5 {
			talk, left := "", allPairs(most)
			for step := range greatestTalk {
				possible := possibleStatements(left)
				statement := possible[(step*step+way*(step+1))%len(possible)]
				next := pairsOfWhich(left, statement)
				if len(next) > len(left) || len(next) == 0 {
					t.Fatalf("the test is wrong about %q", talk+statement)
				}
				talk, left = talk+statement, next
				holdBehindTalk(t, most, talk, left)
			}
			holdTruthOfTalk(t, most, talk, left)
		}
	}
}

func TestPromise5PairsAreFewerWithEachStatement(t *testing.T) {
	for _, most := range ages(2, 4, 9, 10, 36, 40) {
		for _, talk := range goodTalks() {
			before := allPairs(most)
			for end := 0; end <= len(talk); end += 2 {
				rows, ok := impl.PairsLeft(most, talk[:end])
				among := rowsWhen(before, func(row []int) bool {
					return slices.ContainsFunc(rows, func(other []int) bool { return slices.Equal(row, other) })
				})
				wantRows(t, "PairsLeft, in order, of those left before", rows, ok, among...)
				before = rows
			}
		}
	}
}

func TestPromise5TrueTalksEndWhenSomebodyKnows(t *testing.T) {
	for most := leastLimit; most <= greatestLimit; most++ {
		for _, who := range goodWho() {
			known := knownByTurns(most, who)
			for i, row := range allPairs(most) {
				// Of a great limit one pair in 17 is enough, but for one of those with the longest talks.
				if most > 13 && most != 36 && i%17 != most%17 {
					continue
				}
				count := known[twoAges(row)]
				text, ok := impl.TrueTalk(most, row[0], row[1], who)
				wantText(t, "TrueTalk", text, ok, talkByTurns(who, count))
				n, ok := impl.KnownAfter(most, row[0], row[1], who)
				if count == 0 {
					wantNoInt(t, "KnownAfter of a pair that is never known", n, ok)
				} else {
					wantInt(t, "KnownAfter", n, ok, count)
				}
				if t.Failed() {
					t.Fatalf("of the limit %d and %v from %s", most, row, who)
				}
			}
		}
	}
}

func TestPromise5TrueTalksAreTrue(t *testing.T) {
	for _, most := range ages(2, 3, 4, 9, 10, 20) {
		for _, who := range goodWho() {
			for _, row := range allPairs(most) {
				text, _ := impl.TrueTalk(most, row[0], row[1], who)
				is, ok := impl.IsTrueTalk(most, row[0], row[1], text)
				wantBool(t, "IsTrueTalk of "+text, is, ok, true)
			}
		}
	}
}

func TestPromise5LongestTalksAndPairsThatAreNeverKnown(t *testing.T) {
	greatestOfAll := 0
	for most := leastLimit; most <= greatestLimit; most++ {
		for _, who := range goodWho() {
			known := knownByTurns(most, who)
			longest, never := []int{0, 0}, 0
			for _, row := range allPairs(most) {
				if known[twoAges(row)] > known[twoAges(longest)] {
					longest = row
				}
				if known[twoAges(row)] == 0 {
					never++
				}
			}
			greatest := known[twoAges(longest)]
			greatestOfAll = max(greatestOfAll, greatest)
			a, b, n, ok := impl.LongestTalk(most, who)
			wantThree(t, "LongestTalk", a, b, n, ok, longest[0], longest[1], greatest)
			n, ok = impl.CountNeverKnown(most, who)
			wantInt(t, "CountNeverKnown", n, ok, never)
		}
	}
	if greatestOfAll != greatestKnown {
		t.Errorf("the greatest KnownAfter of all limits is %d", greatestOfAll)
	}
}

func TestPromise5PairsOfSumsAndProducts(t *testing.T) {
	for most := leastLimit; most <= greatestLimit; most++ {
		bySum, byProduct := setsByNumber(allPairs(most), sumOf), setsByNumber(allPairs(most), productOf)
		for number := 0; number <= most*most+2; number++ {
			rows, ok := impl.PairsOfSum(most, number)
			wantRows(t, "PairsOfSum", rows, ok, bySum[number]...)
			rows, ok = impl.PairsOfProduct(most, number)
			wantRows(t, "PairsOfProduct", rows, ok, byProduct[number]...)
		}
	}
}

func TestPromise5Limits(t *testing.T) {
	for _, talk := range append(goodTalks(), "p+s-", "s-p+s-p!", "s-p-s-p-s-p-s+", "p-s-p-s!") {
		isTrue := map[twoAges][]int{}
		for most := leastLimit; most <= greatestLimit; most++ {
			for _, row := range leftByTalk(most, talk) {
				isTrue[twoAges(row)] = append(isTrue[twoAges(row)], most)
			}
		}
		for _, b := range ages(1, 2, 3, 12, 28, 40) {
			for a := 1; a <= b; a += max(1, b/2) {
				want := isTrue[twoAges{a, b}]
				list, ok := impl.LimitsOf(a, b, talk)
				wantInts(t, "LimitsOf", list, ok, want...)
				n, ok := impl.LeastLimit(a, b, talk)
				if len(want) == 0 {
					wantNoInt(t, "LeastLimit of none", n, ok)
				} else {
					wantInt(t, "LeastLimit", n, ok, want[0])
				}
				if t.Failed() {
					t.Fatalf("of %d, %d and the talk %q", a, b, talk)
				}
			}
		}
	}
}
