package tests

import (
	"testing"

	"loop.example/g01369/impl"
)

func TestSiblingExample(t *testing.T) {
	rows, ok := impl.SetsOfProduct(3, 36)
	wantRows(t, "SetsOfProduct 3 36", rows, ok, ages(1, 2, 18), ages(1, 3, 12), ages(1, 4, 9), ages(1, 6, 6), ages(2, 2, 9), ages(2, 3, 6), ages(3, 3, 4))
	n, ok := impl.CountSets(3, 36)
	wantInt(t, "CountSets 3 36", n, ok, 7)
	list, ok := impl.OpenSums(3, 36)
	wantInts(t, "OpenSums 3 36", list, ok, 13)
	rows, ok = impl.SetsOfBoth(3, 36, 13)
	wantRows(t, "SetsOfBoth 3 36 13", rows, ok, ages(1, 6, 6), ages(2, 2, 9))
	rows, ok = impl.ToldByOldest(3, 36)
	wantRows(t, "ToldByOldest 3 36", rows, ok, ages(2, 2, 9))
	rows, ok = impl.ToldByYoungest(3, 36)
	wantRows(t, "ToldByYoungest 3 36", rows, ok, ages(1, 6, 6))
	is, ok := impl.DoesTell(3, 36, 11)
	wantBool(t, "DoesTell 3 36 11", is, ok, true)
	rows, ok = impl.SetsOfBoth(3, 36, 11)
	wantRows(t, "SetsOfBoth 3 36 11", rows, ok, ages(2, 3, 6))
	n, ok = impl.TwinsIn(ages(1, 6, 6))
	wantInt(t, "TwinsIn 1 6 6", n, ok, 1)
	n, ok = impl.GreatestProduct(3, 10)
	wantInt(t, "GreatestProduct 3 10", n, ok, 36)
	rows, ok = impl.SetsApart(3, 10, 2)
	wantRows(t, "SetsApart 3 10 2", rows, ok, ages(1, 3, 6))
	list, ok = impl.NextSet(ages(1, 6, 20))
	wantInts(t, "NextSet 1 6 20", list, ok, 1, 7, 7)
}

func TestSiblingConstants(t *testing.T) {
	if impl.MaxChildren != 4 || impl.MaxChildAge != 20 || impl.MaxProduct != greatestProduct {
		t.Error("a limit of chapter 4 has changed")
	}
}
