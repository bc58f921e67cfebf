package tests

import (
	"slices"
	"strconv"
	"testing"

	"loop.example/g01369/impl"
)

// The tests of this file hold each function against the document's definitions, by trying all ages, years or births.

func TestPromise2KindsOfAges(t *testing.T) {
	for age := 0; age <= impl.MaxAge; age++ {
		letters := ""
		for _, kind := range goodKinds() {
			is, ok := impl.IsKind(age, kind)
			wantBool(t, "IsKind "+kind, is, ok, isOfKind(age, kind))
			if isOfKind(age, kind) {
				letters += kind
			}
			next := numbersWhen(age+1, impl.MaxAge, func(n int) bool { return isOfKind(n, kind) })
			n, ok := impl.NextOfKind(age, kind)
			holdYears(t, "NextOfKind "+kind, n, ok, next, 0)
		}
		text, ok := impl.KindsOf(age)
		wantText(t, "KindsOf", text, ok, letters)
	}
}

func TestPromise2YearsOfKinds(t *testing.T) {
	for _, list := range kindLists() {
		for _, kind := range goodKinds() {
			years, ok := impl.YearsAllKind(list, kind)
			wantInts(t, "YearsAllKind "+kind, years, ok, fitYearsWhen(list, func(then []int) bool { return countOf(then, kind) == len(then) })...)
			years, ok = impl.YearsSumKind(list, kind)
			wantInts(t, "YearsSumKind "+kind, years, ok, fitYearsWhen(list, func(then []int) bool { return isOfKind(sumOf(then), kind) })...)
			who, ok := impl.WhoOfKind(list, kind)
			wantInts(t, "WhoOfKind "+kind, who, ok, numbersWhen(0, len(list)-1, func(n int) bool { return isOfKind(list[n], kind) })...)
			holdMostKind(t, list, kind)
		}
	}
}

func holdMostKind(t *testing.T, list []int, kind string) {
	t.Helper()
	most := 0
	for years := -yearsTried; years <= yearsTried; years++ {
		then, fit := agesThen(list, years)
		n, ok := impl.CountOfKind(list, years, kind)
		if !fit {
			wantNoInt(t, "CountOfKind "+kind, n, ok)
			continue
		}
		wantInt(t, "CountOfKind "+kind, n, ok, countOf(then, kind))
		most = max(most, countOf(then, kind))
	}
	first := fitYearsWhen(list, func(then []int) bool { return countOf(then, kind) == most })[0]
	years, count, ok := impl.YearsMostKind(list, kind)
	wantTwo(t, "YearsMostKind "+kind, years, count, ok, first, most)
}

// kindLists have pairs of all kinds of ages beside those of other chapters.
func kindLists() [][]int {
	lists := goodAges()
	for b := 0; b <= 20; b++ {
		lists = append(lists, ages(24, b), ages(b, 40, 24))
	}
	return lists
}

func TestPromise2LongestWithout(t *testing.T) {
	for _, kind := range goodKinds() {
		found := numbersWhen(0, impl.MaxAge, func(n int) bool { return isOfKind(n, kind) })
		behind, count, ok := impl.LongestWithout(kind)
		i := slices.Index(found, behind)
		if !ok || i < 0 || i+1 == len(found) || found[i+1]-behind-1 != count {
			t.Fatalf("LongestWithout %s is %d, %d, %v", kind, behind, count, ok)
		}
		for k := range len(found) - 1 {
			other := found[k+1] - found[k] - 1
			if other > count || other == count && k < i {
				t.Errorf("LongestWithout %s is %d, %d: %d comes first with %d", kind, behind, count, found[k], other)
			}
		}
	}
}

func TestPromise2TurnedAges(t *testing.T) {
	for age := 0; age <= impl.MaxAge; age++ {
		want := numbersWhen(0, impl.MaxAge, func(n int) bool { return isTurned(n, age) })
		n, ok := impl.TurnedAge(age)
		holdYears(t, "TurnedAge", n, ok, want, 0)
		n, ok = impl.DigitSumOf(age)
		wantInt(t, "DigitSumOf", n, ok, digitsTogether(age))
	}
	for gap := 1; gap <= impl.MaxAge; gap++ {
		list, ok := impl.TurnedBetween(gap)
		wantInts(t, "TurnedBetween", list, ok, numbersWhen(10, 99-gap, func(n int) bool { return isTurned(n+gap, n) })...)
	}
}

func TestPromise2TurnedYears(t *testing.T) {
	for _, list := range append(kindLists(), ages(50, 5, 23), ages(21, 12, 48), ages(64, 46, 0)) {
		for a := range list {
			for b := range list {
				years, ok := impl.YearsTurned(list, a, b)
				if a == b {
					wantNone(t, "YearsTurned of the same one", years, ok)
					continue
				}
				wantInts(t, "YearsTurned", years, ok, fitYearsWhen(list, func(then []int) bool { return isTurned(then[a], then[b]) })...)
			}
		}
		years, ok := impl.YearsAlikeSums(list)
		wantInts(t, "YearsAlikeSums", years, ok, fitYearsWhen(list, areDigitsTogetherAlike)...)
	}
}

func areDigitsTogetherAlike(then []int) bool {
	return !slices.ContainsFunc(then, func(age int) bool { return digitsTogether(age) != digitsTogether(then[len(then)-1]) })
}

func TestPromise2Births(t *testing.T) {
	var squares []int
	for birth := 0; birth <= impl.MaxBirth; birth++ {
		square := numbersWhen(2, impl.MaxAge, func(age int) bool { return birth+age == age*age })
		n, ok := impl.SquareYearOf(birth)
		holdYears(t, "SquareYearOf", n, ok, square, 0)
		if len(square) > 0 {
			squares = append(squares, birth)
		}
		years, ok := impl.DigitYears(birth)
		wantInts(t, "DigitYears", years, ok, numbersWhen(birth, birth+impl.MaxAge, func(year int) bool { return year-birth == digitsTogether(year) })...)
		n, ok = impl.LastDigitsYear(birth)
		wantInt(t, "LastDigitsYear", n, ok, birth+lastTwoDigits(birth))
	}
	for _, span := range [][]int{{0, impl.MaxBirth}, {0, 0}, {2, 2}, {2, 6}, {3, 5}, {1892, 1980}, {1893, 1979}, {2862, impl.MaxBirth}, {2863, impl.MaxBirth}, {impl.MaxBirth, impl.MaxBirth}} {
		births, ok := impl.SquareBirths(span[0], span[1])
		wantInts(t, "SquareBirths", births, ok, slices.DeleteFunc(slices.Clone(squares), func(b int) bool { return b < span[0] || b > span[1] })...)
	}
}

// lastTwoDigits reads them from the text, of a number of one digit just this one.
func lastTwoDigits(n int) int {
	text := strconv.Itoa(n)
	last, _ := strconv.Atoi(text[max(0, len(text)-2):])
	return last
}

func TestPromise2DividesYears(t *testing.T) {
	for _, birth := range ages(0, 1, 5, 60, 120, 121, 999, 1880, 1900, 1971, 1999, 2000, 2879, 2880, 2899, 2900) {
		for from := max(0, birth-150); from <= min(impl.MaxYear, birth+150); from++ {
			for _, span := range ages(0, 1, 2, 50, 119, 120) {
				to := from + span
				years, ok := impl.DividesYears(birth, from, to)
				if to > impl.MaxYear {
					wantNone(t, "DividesYears too late", years, ok)
					continue
				}
				wantInts(t, "DividesYears", years, ok, numbersWhen(from, to, func(year int) bool { return dividesYear(year-birth, year) })...)
			}
		}
	}
}

func dividesYear(age int, year int) bool {
	return age >= 1 && age <= impl.MaxAge && year/age*age == year
}
