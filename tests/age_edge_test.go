package tests

import (
	"math"
	"testing"

	"loop.example/g01369/impl"
)

func TestAreAges(t *testing.T) {
	for _, list := range goodAges() {
		if !impl.AreAges(list) {
			t.Errorf("%v are ages", list)
		}
	}
	for _, list := range badAges() {
		if impl.AreAges(list) {
			t.Errorf("%v are no ages", list)
		}
	}
}

func TestFitYearsAreMetExactly(t *testing.T) {
	family := ages(40, 12, 9)
	list, ok := impl.AgesIn(family, -9)
	wantInts(t, "AgesIn -9", list, ok, 31, 3, 0)
	list, ok = impl.AgesIn(family, 80)
	wantInts(t, "AgesIn 80", list, ok, 120, 92, 89)
	n, ok := impl.ProductIn(family, -9)
	wantInt(t, "ProductIn -9", n, ok, 0)
	n, ok = impl.ProductIn(manyAges(impl.MaxPeople, 0), impl.MaxAge)
	wantInt(t, "ProductIn of the greatest ages", n, ok, 42998169600000000)
	for _, years := range ages(-10, 81, math.MinInt, math.MinInt+1, math.MaxInt, math.MaxInt-1) {
		list, ok := impl.AgesIn(family, years)
		wantNone(t, "AgesIn years that are not fit", list, ok)
		n, ok := impl.SumIn(family, years)
		wantNoInt(t, "SumIn years that are not fit", n, ok)
		n, ok = impl.ProductIn(family, years)
		wantNoInt(t, "ProductIn years that are not fit", n, ok)
	}
	least, greatest, ok := impl.YearsRange(ages(0, 120))
	wantTwo(t, "YearsRange 0-120", least, greatest, ok, 0, 0)
	least, greatest, ok = impl.YearsRange(ages(120))
	wantTwo(t, "YearsRange 120", least, greatest, ok, -120, 0)
}

func TestYearsToSumEdges(t *testing.T) {
	family := ages(40, 12, 9)
	n, ok := impl.YearsToSum(family, 34)
	wantInt(t, "YearsToSum in the least years", n, ok, -9)
	n, ok = impl.YearsToSum(family, 301)
	wantInt(t, "YearsToSum in the greatest years", n, ok, 80)
	n, ok = impl.YearsToSum(ages(20), 0)
	wantInt(t, "YearsToSum of one person", n, ok, -20)
	for _, sum := range ages(31, 304, 62, 63, -1, math.MinInt, math.MaxInt) {
		n, ok := impl.YearsToSum(family, sum)
		wantNoInt(t, "YearsToSum that is never reached", n, ok)
	}
}

func TestYearsToMeanEdges(t *testing.T) {
	family := ages(40, 12, 9)
	n, ok := impl.YearsToMean(family, 61, 3)
	wantInt(t, "YearsToMean 61 3", n, ok, 0)
	n, ok = impl.YearsToMean(family, 122, 6)
	wantInt(t, "YearsToMean not in lowest terms", n, ok, 0)
	n, ok = impl.YearsToMean(family, 34, 3)
	wantInt(t, "YearsToMean in the least years", n, ok, -9)
	n, ok = impl.YearsToMean(family, 301, 3)
	wantInt(t, "YearsToMean in the greatest years", n, ok, 80)
	n, ok = impl.YearsToMean(ages(20), 10000, 100)
	wantInt(t, "YearsToMean of the greatest terms", n, ok, 80)
	n, ok = impl.YearsToMean(ages(20), 0, 1)
	wantInt(t, "YearsToMean 0", n, ok, -20)
	for _, f := range [][]int{{20, 1}, {61, 2}, {31, 3}, {304, 3}, {0, 1}, {-61, -3}, {61, 0}, {0, 0}, {-1, 1}, {20, 101}, {10001, 100}, {math.MaxInt, 1}, {61, math.MinInt}, {math.MinInt, math.MaxInt}} {
		n, ok := impl.YearsToMean(family, f[0], f[1])
		wantNoInt(t, "YearsToMean that is never reached or no fraction", n, ok)
	}
	// All of these would be reached if the limits of the terms were not checked.
	for _, f := range [][]int{{2020, 101}, {10100, 100}, {12000, 100}, {-20, -1}} {
		n, ok := impl.YearsToMean(ages(20), f[0], f[1])
		wantNoInt(t, "YearsToMean beyond the limits", n, ok)
	}
}

func TestMeanAgeEdges(t *testing.T) {
	num, den, ok := impl.MeanAge(ages(0, 0))
	wantTwo(t, "MeanAge of 0", num, den, ok, 0, 1)
	num, den, ok = impl.MeanAge(ages(20, 10, 60, 30))
	wantTwo(t, "MeanAge of a whole number", num, den, ok, 30, 1)
	num, den, ok = impl.MeanAge(ages(1, 2, 3, 4))
	wantTwo(t, "MeanAge in lowest terms", num, den, ok, 5, 2)
	num, den, ok = impl.MeanAge(ages(17))
	wantTwo(t, "MeanAge of one person", num, den, ok, 17, 1)
}

func TestTimesOlderEdges(t *testing.T) {
	family := ages(40, 12, 0)
	num, den, ok := impl.TimesOlder(family, 0, 1)
	wantTwo(t, "TimesOlder 0 1", num, den, ok, 10, 3)
	num, den, ok = impl.TimesOlder(family, 1, 0)
	wantTwo(t, "TimesOlder 1 0", num, den, ok, 3, 10)
	num, den, ok = impl.TimesOlder(family, 2, 0)
	wantTwo(t, "TimesOlder of 0 years", num, den, ok, 0, 1)
	num, den, ok = impl.TimesOlder(family, 1, 1)
	wantTwo(t, "TimesOlder of the same person", num, den, ok, 1, 1)
	for _, b := range ages(2, 3, -1, math.MinInt, math.MaxInt) {
		num, den, ok := impl.TimesOlder(family, 0, b)
		wantNoTwo(t, "TimesOlder than nobody, or than 0 years", num, den, ok)
	}
	num, den, ok = impl.TimesOlder(family, 2, 2)
	wantNoTwo(t, "TimesOlder of 0 years by 0", num, den, ok)
}

func TestMultiplesEdges(t *testing.T) {
	n, ok := impl.YearsOfMultiple(ages(120, 1), 0, 1, 120)
	wantInt(t, "YearsOfMultiple 120", n, ok, 0)
	n, ok = impl.YearsOfMultiple(ages(100, 10, 50), 0, 1, 2)
	wantNoInt(t, "YearsOfMultiple too late", n, ok)
	n, ok = impl.YearsOfMultiple(ages(40, 12, 0), 0, 1, 8)
	wantNoInt(t, "YearsOfMultiple before somebody else was born", n, ok)
	n, ok = impl.YearsOfMultiple(ages(7, 7), 0, 1, 2)
	wantNoInt(t, "YearsOfMultiple of people alike", n, ok)
	for _, times := range ages(1, 0, -1, -3, math.MinInt, math.MaxInt) {
		n, ok := impl.YearsOfMultiple(ages(40, 12, 9), 0, 1, times)
		wantNoInt(t, "YearsOfMultiple of such times", n, ok)
	}
	n, ok = impl.YearsOfMultiple(ages(7, 7), 0, 1, 1)
	wantNoInt(t, "YearsOfMultiple 1 of people alike", n, ok)
	n, ok = impl.YearsOfMultiple(ages(12, 40), 0, 1, 2)
	wantNoInt(t, "YearsOfMultiple of the younger one", n, ok)
	rows, ok := impl.AllMultiples(ages(12, 40), 0, 1)
	wantRows(t, "AllMultiples of the younger one", rows, ok)
	rows, ok = impl.AllMultiples(ages(120, 60), 0, 1)
	wantRows(t, "AllMultiples up to the greatest years", rows[len(rows)-1:], ok, ages(0, 2))
	rows, ok = impl.AllMultiples(ages(3, 1, 0), 0, 1)
	wantRows(t, "AllMultiples from the least years", rows, ok, ages(0, 3), ages(1, 2))
}

func TestYearsAsSumEdges(t *testing.T) {
	n, ok := impl.YearsAsSum(ages(60, 20, 20, 20), 0)
	wantInt(t, "YearsAsSum now", n, ok, 0)
	n, ok = impl.YearsAsSum(ages(7, 7), 1)
	wantInt(t, "YearsAsSum always", n, ok, -7)
	n, ok = impl.YearsAsSum(ages(3, 3, 3), 2)
	wantInt(t, "YearsAsSum when all are 0", n, ok, -3)
	n, ok = impl.YearsAsSum(ages(40, 12), 0)
	wantNoInt(t, "YearsAsSum of a different one", n, ok)
	n, ok = impl.YearsAsSum(ages(40, 12, 9), 1)
	wantNoInt(t, "YearsAsSum of a younger one", n, ok)
	n, ok = impl.YearsAsSum(ages(120, 10, 10), 0)
	wantNoInt(t, "YearsAsSum too late", n, ok)
	for _, age := range ages(0, 20, 120) {
		n, ok := impl.YearsAsSum(ages(age), 0)
		wantNoInt(t, "YearsAsSum of nobody else", n, ok)
	}
}

func TestYearsToProductEdges(t *testing.T) {
	n, ok := impl.YearsToProduct(ages(40, 12, 9), 0)
	wantInt(t, "YearsToProduct 0", n, ok, -9)
	n, ok = impl.YearsToProduct(ages(40, 12, 9), math.MaxInt)
	wantInt(t, "YearsToProduct of the greatest", n, ok, 80)
	n, ok = impl.YearsToProduct(ages(40, 12, 9), 4320)
	wantInt(t, "YearsToProduct that is met", n, ok, 0)
	n, ok = impl.YearsToProduct(ages(40, 12, 9), 4319)
	wantInt(t, "YearsToProduct that is not met", n, ok, -1)
	n, ok = impl.YearsToProduct(ages(0, 120), 0)
	wantInt(t, "YearsToProduct of one fit year", n, ok, 0)
	for _, product := range ages(-1, -120, math.MinInt) {
		n, ok := impl.YearsToProduct(ages(40, 12, 9), product)
		wantNoInt(t, "YearsToProduct below 0", n, ok)
	}
}

func TestOrderEdges(t *testing.T) {
	list, ok := impl.OrderOfAges(ages(9, 40, 9, 40, 12))
	wantInts(t, "OrderOfAges", list, ok, 1, 3, 4, 0, 2)
	list, ok = impl.GapsOfAges(ages(9, 40, 9, 40, 12))
	wantInts(t, "GapsOfAges", list, ok, 0, 28, 3, 0)
	list, ok = impl.OrderOfAges(ages(5))
	wantInts(t, "OrderOfAges of one person", list, ok, 0)
	list, ok = impl.GapsOfAges(ages(5))
	wantInts(t, "GapsOfAges of one person", list, ok)
	list, ok = impl.OrderOfAges(manyAges(impl.MaxPeople, 3))
	wantInts(t, "OrderOfAges of people alike", list, ok, 0, 1, 2, 3, 4, 5, 6, 7)
	rows, ok := impl.AlikePairs(ages(9, 40, 9, 40, 9))
	wantRows(t, "AlikePairs", rows, ok, ages(0, 2), ages(0, 4), ages(1, 3), ages(2, 4))
	rows, ok = impl.AlikePairs(ages(40, 12, 9))
	wantRows(t, "AlikePairs of nobody", rows, ok)
	rows, ok = impl.AlikePairs(ages(5))
	wantRows(t, "AlikePairs of one person", rows, ok)
}

func TestBirthYearsEdges(t *testing.T) {
	list, ok := impl.BirthYears(ages(0, 120), impl.MaxAge)
	wantInts(t, "BirthYears in the first year", list, ok, 120, 0)
	list, ok = impl.BirthYears(ages(0, 120), impl.MaxYear)
	wantInts(t, "BirthYears in the last year", list, ok, 3000, 2880)
	for _, year := range ages(119, 3001, 0, -1, math.MinInt, math.MaxInt) {
		list, ok := impl.BirthYears(ages(0), year)
		wantNone(t, "BirthYears in no such year", list, ok)
	}
}

func TestAgesOfBirthsEdges(t *testing.T) {
	list, ok := impl.AgesOfBirths(ages(0, 120), 120)
	wantInts(t, "AgesOfBirths of the greatest and the least age", list, ok, 120, 0)
	list, ok = impl.AgesOfBirths(ages(0), 0)
	wantInts(t, "AgesOfBirths in 0", list, ok, 0)
	list, ok = impl.AgesOfBirths(manyAges(impl.MaxPeople, 3000), 3000)
	wantInts(t, "AgesOfBirths in MaxYear", list, ok, manyAges(impl.MaxPeople, 0)...)
	list, ok = impl.AgesOfBirths(ages(1960, 2001), 2000)
	wantNone(t, "AgesOfBirths before a birth", list, ok)
	list, ok = impl.AgesOfBirths(ages(1960, 1879), 2000)
	wantNone(t, "AgesOfBirths of one too old", list, ok)
	for _, year := range ages(-1, 3001, math.MinInt, math.MaxInt) {
		list, ok := impl.AgesOfBirths(ages(0, 3000), year)
		wantNone(t, "AgesOfBirths in no such year", list, ok)
	}
	for _, births := range [][]int{nil, {}, {-1}, {3001}, {1960, -1}, {1960, 3001}, {math.MinInt}, {math.MaxInt}, manyAges(impl.MaxPeople+1, 1960)} {
		for _, year := range ages(0, 119, 1960, 2000, 3000) {
			list, ok := impl.AgesOfBirths(births, year)
			wantNone(t, "AgesOfBirths of no births", list, ok)
		}
	}
	// Ages that would be fine, of a year or births that are not.
	for _, bad := range [][]int{{2990, 3001}, {3001, 3001}, {-1, 0}, {-1, -1}} {
		list, ok := impl.AgesOfBirths(bad[:1], bad[1])
		wantNone(t, "AgesOfBirths beyond the years", list, ok)
	}
}

func TestAddAndDropEdges(t *testing.T) {
	list, ok := impl.AddAge(ages(40, 12, 9), 33)
	wantInts(t, "AddAge", list, ok, 40, 12, 9, 33)
	list, ok = impl.AddAge(ages(40), 0)
	wantInts(t, "AddAge of 0", list, ok, 40, 0)
	list, ok = impl.AddAge(manyAges(impl.MaxPeople-1, 5), impl.MaxAge)
	wantInts(t, "AddAge up to MaxPeople", list, ok, 5, 5, 5, 5, 5, 5, 5, 120)
	list, ok = impl.AddAge(manyAges(impl.MaxPeople, 5), 0)
	wantNone(t, "AddAge to MaxPeople", list, ok)
	for _, age := range ages(-1, 121, math.MinInt, math.MaxInt) {
		list, ok := impl.AddAge(ages(40), age)
		wantNone(t, "AddAge of no age", list, ok)
	}
	list, ok = impl.DropAge(ages(40, 12, 9), 0)
	wantInts(t, "DropAge of the first", list, ok, 12, 9)
	list, ok = impl.DropAge(ages(40, 12, 9), 2)
	wantInts(t, "DropAge of the last", list, ok, 40, 12)
	list, ok = impl.DropAge(ages(7, 7, 3, 7), 1)
	wantInts(t, "DropAge of one of people alike", list, ok, 7, 3, 7)
	list, ok = impl.DropAge(ages(40), 0)
	wantNone(t, "DropAge of the only one", list, ok)
	for _, who := range ages(-1, 3, math.MinInt, math.MaxInt) {
		list, ok := impl.DropAge(ages(40, 12, 9), who)
		wantNone(t, "DropAge of nobody", list, ok)
	}
}

func TestAgesTextEdges(t *testing.T) {
	for text, want := range map[string][]int{"0": {0}, "120": {120}, "0-120": {0, 120}, "10-9-8-7-6-5-4-3": {10, 9, 8, 7, 6, 5, 4, 3}} {
		list, ok := impl.ParseAges(text)
		wantInts(t, "ParseAges "+text, list, ok, want...)
		if s, ok := impl.AgesText(want); !ok || s != text {
			t.Errorf("AgesText of %v is %q, %v", want, s, ok)
		}
	}
	bad := []string{"", "-", "--", "-5", "5-", "5--6", "05", "00", "5-06", "+5", "5-+6", " 5", "5 ", "5- 6", "5\n", "5,6", "5.0", "0x5", "1_0", "1e1", "121", "40-121", "-1-5",
		"abc", "5-a", "٥", "5–6", "5\x00", "\xff", "9223372036854775807", "-9223372036854775808", "9223372036854775808", "18446744073709551621", "99999999999999999999999",
		"1-2-3-4-5-6-7-8-9", "1-2-3-4-5-6-7-8-", "-1-2-3-4-5-6-7-8"}
	for _, text := range bad {
		list, ok := impl.ParseAges(text)
		wantNone(t, "ParseAges "+text, list, ok)
	}
}
