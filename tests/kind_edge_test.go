package tests

import (
	"math"
	"testing"

	"loop.example/g01369/impl"
)

func TestAgesOfKindLists(t *testing.T) {
	lists := map[string][]int{
		"p": ages(2, 3, 5, 7, 11, 13, 17, 19, 23, 29, 31, 37, 41, 43, 47, 53, 59, 61, 67, 71, 73, 79, 83, 89, 97, 101, 103, 107, 109, 113),
		"s": ages(0, 1, 4, 9, 16, 25, 36, 49, 64, 81, 100),
		"c": ages(0, 1, 8, 27, 64),
		"t": ages(0, 1, 3, 6, 10, 15, 21, 28, 36, 45, 55, 66, 78, 91, 105, 120),
		"d": ages(11, 22, 33, 44, 55, 66, 77, 88, 99, 111),
		"r": ages(10, 20, 30, 40, 50, 60, 70, 80, 90, 100, 110, 120),
	}
	for _, kind := range goodKinds() {
		list, ok := impl.AgesOfKind(kind)
		wantInts(t, "AgesOfKind "+kind, list, ok, lists[kind]...)
	}
}

func TestKindsOfEdges(t *testing.T) {
	for age, want := range map[int]string{0: "sct", 1: "sct", 2: "p", 9: "s", 10: "tr", 12: "", 64: "sc", 66: "td", 100: "sr", 101: "p", 111: "d", 119: "", 120: "tr"} {
		text, ok := impl.KindsOf(age)
		wantText(t, "KindsOf", text, ok, want)
	}
	for _, kind := range goodKinds() {
		is, ok := impl.IsKind(0, kind)
		wantBool(t, "IsKind 0 "+kind, is, ok, kind == "s" || kind == "c" || kind == "t")
		is, ok = impl.IsKind(impl.MaxAge, kind)
		wantBool(t, "IsKind MaxAge "+kind, is, ok, kind == "t" || kind == "r")
	}
}

func TestNextOfKindEdges(t *testing.T) {
	first := map[string]int{"p": 2, "s": 1, "c": 1, "t": 1, "d": 11, "r": 10}
	last := map[string]int{"p": 113, "s": 100, "c": 64, "t": 120, "d": 111, "r": 120}
	for _, kind := range goodKinds() {
		n, ok := impl.NextOfKind(0, kind)
		wantInt(t, "NextOfKind 0 "+kind, n, ok, first[kind])
		n, ok = impl.NextOfKind(last[kind]-1, kind)
		wantInt(t, "NextOfKind of the last but one "+kind, n, ok, last[kind])
		for age := last[kind]; age <= impl.MaxAge; age++ {
			n, ok := impl.NextOfKind(age, kind)
			wantNoInt(t, "NextOfKind where there is none "+kind, n, ok)
		}
	}
}

func TestYearsOfKindEdges(t *testing.T) {
	for _, kind := range goodKinds() {
		list, ok := impl.YearsAllKind(ages(52, 2, 48), kind)
		wantInts(t, "YearsAllKind of which no year is "+kind, list, ok)
	}
	list, ok := impl.YearsAllKind(ages(120, 0), "t")
	wantInts(t, "YearsAllKind t of which all years are", list, ok, 0)
	list, ok = impl.YearsAllKind(ages(0, 100), "r")
	wantInts(t, "YearsAllKind r", list, ok, 10, 20)
	list, ok = impl.YearsAllKind(ages(5), "c")
	wantInts(t, "YearsAllKind c of one person", list, ok, -5, -4, 3, 22, 59)
	list, ok = impl.YearsAllKind(manyAges(impl.MaxPeople, 120), "d")
	wantInts(t, "YearsAllKind d of MaxPeople", list, ok, -109, -98, -87, -76, -65, -54, -43, -32, -21, -9)
	list, ok = impl.YearsAllKind(ages(40, 12, 9), "d")
	wantInts(t, "YearsAllKind d of which no year is", list, ok)
	list, ok = impl.YearsSumKind(ages(0, 120), "s")
	wantInts(t, "YearsSumKind s of which no year is", list, ok)
	list, ok = impl.YearsSumKind(ages(0, 120), "t")
	wantInts(t, "YearsSumKind t of which all years are", list, ok, 0)
	list, ok = impl.YearsSumKind(manyAges(impl.MaxPeople, 120), "d")
	wantInts(t, "YearsSumKind d, 88 and 888", list, ok, -109, -9)
	list, ok = impl.YearsSumKind(manyAges(impl.MaxPeople, 119), "r")
	wantInts(t, "YearsSumKind r up to the greatest sum", list, ok, -114, -109, -104, -99, -94, -89, -84, -79, -74, -69, -64, -59, -54, -49, -44, -39, -34, -29, -24, -19, -14, -9, -4, 1)
	list, ok = impl.WhoOfKind(ages(40, 12, 9), "d")
	wantInts(t, "WhoOfKind d of nobody", list, ok)
	list, ok = impl.WhoOfKind(ages(7, 12, 7, 113), "p")
	wantInts(t, "WhoOfKind p", list, ok, 0, 2, 3)
	list, ok = impl.WhoOfKind(ages(0, 120, 1), "t")
	wantInts(t, "WhoOfKind t of all", list, ok, 0, 1, 2)
}

func TestYearsThatAreNotFitAreNotFound(t *testing.T) {
	list, ok := impl.YearsAllKind(ages(100, 4), "s")
	wantInts(t, "YearsAllKind s, not at 121 and 25", list, ok, 0)
	list, ok = impl.YearsAllKind(ages(112, 2), "p")
	wantInts(t, "YearsAllKind p, not at 127 and 17", list, ok, 1)
	list, ok = impl.YearsSumKind(ages(120, 2), "s")
	wantInts(t, "YearsSumKind s, not at 131 and 13", list, ok)
	years, count, ok := impl.YearsMostKind(ages(100, 0), "t")
	wantTwo(t, "YearsMostKind t, not at 136 and 36", years, count, ok, 0, 1)
	list, ok = impl.YearsTurned(ages(41, 14, 90), 0, 1)
	wantInts(t, "YearsTurned until somebody else is too old", list, ok, 0, 11, 22)
	list, ok = impl.YearsTurned(ages(74, 47, 20), 1, 0)
	wantInts(t, "YearsTurned from when somebody else was born", list, ok, -11, 0, 11, 22)
	list, ok = impl.YearsAlikeSums(ages(118, 100))
	wantInts(t, "YearsAlikeSums, not at 121 and 103", list[len(list)-3:], ok, -10, -9, 2)
}

func TestYearsMostKindEdges(t *testing.T) {
	years, count, ok := impl.YearsMostKind(ages(0, 120), "d")
	wantTwo(t, "YearsMostKind d of none", years, count, ok, 0, 0)
	years, count, ok = impl.YearsMostKind(ages(1, 120), "p")
	wantTwo(t, "YearsMostKind p of none", years, count, ok, -1, 0)
	years, count, ok = impl.YearsMostKind(ages(119, 0), "r")
	wantTwo(t, "YearsMostKind r in the greatest years", years, count, ok, 1, 1)
	years, count, ok = impl.YearsMostKind(ages(20), "s")
	wantTwo(t, "YearsMostKind s in the least of several", years, count, ok, -20, 1)
	years, count, ok = impl.YearsMostKind(manyAges(impl.MaxPeople, 20), "d")
	wantTwo(t, "YearsMostKind d of all", years, count, ok, -9, impl.MaxPeople)
}

func TestCountOfKindEdges(t *testing.T) {
	n, ok := impl.CountOfKind(ages(40, 12, 9), -9, "p")
	wantInt(t, "CountOfKind in the least years", n, ok, 2)
	n, ok = impl.CountOfKind(ages(40, 12, 9), 80, "p")
	wantInt(t, "CountOfKind in the greatest years", n, ok, 1)
	n, ok = impl.CountOfKind(ages(40, 12, 9), 0, "d")
	wantInt(t, "CountOfKind of none", n, ok, 0)
	for _, years := range ages(-10, 81, -120, 120, math.MinInt, math.MinInt+1, math.MinInt+40, math.MaxInt-40, math.MaxInt-1, math.MaxInt) {
		n, ok := impl.CountOfKind(ages(40, 12, 9), years, "p")
		wantNoInt(t, "CountOfKind in years that are not fit", n, ok)
	}
}

func TestLongestWithoutEdges(t *testing.T) {
	behind := map[string][]int{"p": {89, 7}, "s": {81, 18}, "c": {27, 36}, "t": {105, 14}, "d": {99, 11}, "r": {10, 9}}
	for _, kind := range goodKinds() {
		age, count, ok := impl.LongestWithout(kind)
		wantTwo(t, "LongestWithout "+kind, age, count, ok, behind[kind][0], behind[kind][1])
	}
}

func TestTurnedEdges(t *testing.T) {
	for age, want := range map[int]int{10: 1, 11: 11, 12: 21, 19: 91, 20: 2, 40: 4, 89: 98, 90: 9, 98: 89, 99: 99} {
		n, ok := impl.TurnedAge(age)
		wantInt(t, "TurnedAge", n, ok, want)
	}
	for _, age := range append(badNumbers(), 0, 1, 9, 100, 101, 110, 120) {
		n, ok := impl.TurnedAge(age)
		wantNoInt(t, "TurnedAge of no two digits", n, ok)
	}
	list, ok := impl.YearsTurned(ages(4, 40), 0, 1)
	wantInts(t, "YearsTurned of one below 10", list, ok, 0, 11, 22, 33, 44, 55)
	list, ok = impl.YearsTurned(ages(4, 40), 1, 0)
	wantInts(t, "YearsTurned, not of one below 10", list, ok, 11, 22, 33, 44, 55)
	list, ok = impl.YearsTurned(ages(101, 2), 0, 1)
	wantInts(t, "YearsTurned of three digits", list, ok)
	list, ok = impl.YearsTurned(ages(7, 7), 0, 1)
	wantInts(t, "YearsTurned of people alike", list, ok, 4, 15, 26, 37, 48, 59, 70, 81, 92)
	for _, pair := range [][]int{{0, 0}, {1, 1}, {-1, 0}, {0, -1}, {0, 2}, {2, 0}, {math.MinInt, 0}, {0, math.MaxInt}, {math.MaxInt, math.MinInt}} {
		list, ok := impl.YearsTurned(ages(41, 14), pair[0], pair[1])
		wantNone(t, "YearsTurned of the same one, or of nobody", list, ok)
	}
}

func TestTurnedBetweenEdges(t *testing.T) {
	list, ok := impl.TurnedBetween(9)
	wantInts(t, "TurnedBetween 9", list, ok, 12, 23, 34, 45, 56, 67, 78, 89)
	list, ok = impl.TurnedBetween(72)
	wantInts(t, "TurnedBetween 72", list, ok, 19)
	for _, gap := range ages(1, 8, 10, 80, 81, 90, 99, 119, impl.MaxAge) {
		list, ok := impl.TurnedBetween(gap)
		wantInts(t, "TurnedBetween a gap without ages", list, ok)
	}
	for _, gap := range append(badNumbers(), 0, -9, -27, impl.MaxAge+1) {
		list, ok := impl.TurnedBetween(gap)
		wantNone(t, "TurnedBetween no gap", list, ok)
	}
}

func TestDigitSumEdges(t *testing.T) {
	for age, want := range map[int]int{0: 0, 9: 9, 10: 1, 99: 18, 100: 1, 119: 11, 120: 3} {
		n, ok := impl.DigitSumOf(age)
		wantInt(t, "DigitSumOf", n, ok, want)
	}
	list, ok := impl.YearsAlikeSums(ages(0, 120))
	wantInts(t, "YearsAlikeSums of no years", list, ok)
	list, ok = impl.YearsAlikeSums(ages(118))
	wantInts(t, "YearsAlikeSums of one person", list[len(list)-3:], ok, 0, 1, 2)
	list, ok = impl.YearsAlikeSums(ages(101, 92))
	wantInts(t, "YearsAlikeSums of three digits", list[len(list)-3:], ok, 16, 17, 19)
}

func TestSquareEdges(t *testing.T) {
	for birth, want := range map[int]int{2: 2, 6: 3, 12: 4, 1892: 44, 1980: 45, 2862: 54} {
		n, ok := impl.SquareYearOf(birth)
		wantInt(t, "SquareYearOf", n, ok, want)
	}
	for _, birth := range append(badNumbers(), 0, 1, 3, 1891, 1893, impl.MaxBirth, impl.MaxBirth+1, 2970) {
		n, ok := impl.SquareYearOf(birth)
		wantNoInt(t, "SquareYearOf no birth, or none", n, ok)
	}
	list, ok := impl.SquareBirths(1800, 2000)
	wantInts(t, "SquareBirths", list, ok, 1806, 1892, 1980)
	list, ok = impl.SquareBirths(2, 12)
	wantInts(t, "SquareBirths with both ends", list, ok, 2, 6, 12)
	list, ok = impl.SquareBirths(0, 1)
	wantInts(t, "SquareBirths without any", list, ok)
	list, ok = impl.SquareBirths(0, impl.MaxBirth)
	wantInts(t, "SquareBirths of all births", list[len(list)-1:], ok && len(list) == 53, 2862)
	for _, span := range [][]int{{12, 2}, {1, 0}, {-1, 12}, {2, 2901}, {2901, 2901}, {-2, -1}, {math.MinInt, math.MaxInt}, {math.MaxInt, math.MinInt}, {0, math.MaxInt}, {math.MinInt, 0}} {
		list, ok := impl.SquareBirths(span[0], span[1])
		wantNone(t, "SquareBirths of no births", list, ok)
	}
}

func TestDigitYearsEdges(t *testing.T) {
	list, ok := impl.DigitYears(0)
	wantInts(t, "DigitYears 0", list, ok, 0, 1, 2, 3, 4, 5, 6, 7, 8, 9)
	list, ok = impl.DigitYears(9)
	wantInts(t, "DigitYears 9", list, ok, 10, 11, 12, 13, 14, 15, 16, 17, 18, 19)
	for _, birth := range ages(1, 10, 1974, 2899, impl.MaxBirth) {
		list, ok := impl.DigitYears(birth)
		wantInts(t, "DigitYears without any", list, ok)
	}
	for birth, want := range map[int]int{0: 0, 5: 10, 10: 20, 99: 198, 100: 100, 1905: 1910, 2899: 2998, impl.MaxBirth: 2900} {
		n, ok := impl.LastDigitsYear(birth)
		wantInt(t, "LastDigitsYear", n, ok, want)
	}
	for _, birth := range append(badNumbers(), impl.MaxBirth+1) {
		list, ok := impl.DigitYears(birth)
		wantNone(t, "DigitYears of no birth", list, ok)
		n, ok := impl.LastDigitsYear(birth)
		wantNoInt(t, "LastDigitsYear of no birth", n, ok)
	}
}

func TestDividesYearsEdges(t *testing.T) {
	list, ok := impl.DividesYears(1971, 1971, 2091)
	wantInts(t, "DividesYears 1971", list, ok, 1972, 1974, 1980, 1998, 2044)
	list, ok = impl.DividesYears(1000, 1100, 1220)
	wantInts(t, "DividesYears of both ends", list, ok, 1100)
	list, ok = impl.DividesYears(1900, 1995, 2000)
	wantInts(t, "DividesYears up to the last one", list, ok, 1995, 2000)
	list, ok = impl.DividesYears(0, 118, 122)
	wantInts(t, "DividesYears up to MaxAge", list, ok, 118, 119, 120)
	list, ok = impl.DividesYears(1250, 1370, 1380)
	wantInts(t, "DividesYears, not at 125", list, ok)
	list, ok = impl.DividesYears(impl.MaxBirth, 2880, impl.MaxYear)
	wantInts(t, "DividesYears from before the birth up to MaxYear", list, ok, 2901, 2902, 2904, 2905, 2910, 2920, 2925, 2929, 2950, 2958, 3000)
	list, ok = impl.DividesYears(1, 0, 120)
	wantInts(t, "DividesYears from 0", list, ok, 2)
	list, ok = impl.DividesYears(2000, 1900, 2000)
	wantInts(t, "DividesYears before somebody is 1", list, ok)
	list, ok = impl.DividesYears(0, 0, 0)
	wantInts(t, "DividesYears of 0 alone", list, ok)
	bad := [][]int{
		{-1, 0, 120}, {2901, 2901, 3000}, {1971, 1971, 2092}, {1971, 1980, 1979}, {1971, -1, 100}, {0, -1, -1}, {2900, 2950, 3001}, {2900, 3001, 3001}, {0, 0, 121},
		{math.MinInt, 0, 1}, {math.MaxInt, 0, 1}, {0, math.MinInt, 1}, {0, math.MaxInt, 1}, {0, 1, math.MinInt}, {0, 1, math.MaxInt}, {0, math.MinInt, math.MaxInt}, {0, math.MaxInt, math.MaxInt}, {0, math.MaxInt - 60, math.MinInt + 60},
	}
	for _, call := range bad {
		list, ok := impl.DividesYears(call[0], call[1], call[2])
		wantNone(t, "DividesYears of no birth or no years", list, ok)
	}
}
