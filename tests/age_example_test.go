package tests

import (
	"testing"

	"loop.example/g01369/impl"
)

func TestAgeExample(t *testing.T) {
	family, ok := impl.ParseAges("40-12-9")
	wantInts(t, "ParseAges", family, ok, 40, 12, 9)
	n, ok := impl.SumIn(family, 0)
	wantInt(t, "SumIn 0", n, ok, 61)
	n, ok = impl.SumIn(family, 3)
	wantInt(t, "SumIn 3", n, ok, 70)
	n, ok = impl.YearsToSum(family, 70)
	wantInt(t, "YearsToSum 70", n, ok, 3)
	least, greatest, ok := impl.YearsRange(family)
	wantTwo(t, "YearsRange", least, greatest, ok, -9, 80)
	n, ok = impl.YearsOfMultiple(family, 0, 1, 3)
	wantInt(t, "YearsOfMultiple 0 1 3", n, ok, 2)
	rows, ok := impl.AllMultiples(family, 0, 1)
	wantRows(t, "AllMultiples 0 1", rows, ok, ages(-8, 8), ages(-5, 5), ages(2, 3), ages(16, 2))
	n, ok = impl.YearsAsSum(family, 0)
	wantInt(t, "YearsAsSum 0", n, ok, 19)
	n, ok = impl.YearsToProduct(family, 1000)
	wantInt(t, "YearsToProduct 1000", n, ok, -5)
	n, ok = impl.ProductIn(family, -5)
	wantInt(t, "ProductIn -5", n, ok, 980)
	list, ok := impl.OrderOfAges(family)
	wantInts(t, "OrderOfAges", list, ok, 0, 1, 2)
	list, ok = impl.GapsOfAges(family)
	wantInts(t, "GapsOfAges", list, ok, 28, 3)
	num, den, ok := impl.MeanAge(family)
	wantTwo(t, "MeanAge", num, den, ok, 61, 3)
	list, ok = impl.BirthYears(family, 2000)
	wantInts(t, "BirthYears 2000", list, ok, 1960, 1988, 1991)
	list, ok = impl.AgesOfBirths(list, 2000)
	wantInts(t, "AgesOfBirths 2000", list, ok, 40, 12, 9)
	text, ok := impl.AgesText(family)
	if !ok || text != "40-12-9" {
		t.Errorf("AgesText is %q, %v", text, ok)
	}
}

func TestAgeConstants(t *testing.T) {
	if impl.MaxPeople != 8 || impl.MaxAge != 120 || impl.MaxYear != 3000 {
		t.Error("a limit of chapter 1 has changed")
	}
}
