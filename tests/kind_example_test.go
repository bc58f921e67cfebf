package tests

import (
	"testing"

	"loop.example/g01369/impl"
)

func TestKindExample(t *testing.T) {
	text, ok := impl.KindsOf(11)
	wantText(t, "KindsOf 11", text, ok, "pd")
	text, ok = impl.KindsOf(36)
	wantText(t, "KindsOf 36", text, ok, "st")
	list, ok := impl.AgesOfKind("c")
	wantInts(t, "AgesOfKind c", list, ok, 0, 1, 8, 27, 64)
	list, ok = impl.YearsAllKind(ages(40, 12, 9), "p")
	wantInts(t, "YearsAllKind p of 40-12-9", list, ok)
	years, count, ok := impl.YearsMostKind(ages(40, 12, 9), "p")
	wantTwo(t, "YearsMostKind p of 40-12-9", years, count, ok, -9, 2)
	list, ok = impl.YearsAllKind(ages(40, 12), "s")
	wantInts(t, "YearsAllKind s of 40-12", list, ok, 24)
	list, ok = impl.YearsTurned(ages(41, 14), 0, 1)
	wantInts(t, "YearsTurned of 41-14", list, ok, 0, 11, 22, 33, 44, 55)
	list, ok = impl.TurnedBetween(27)
	wantInts(t, "TurnedBetween 27", list, ok, 14, 25, 36, 47, 58, 69)
	n, ok := impl.SquareYearOf(1892)
	wantInt(t, "SquareYearOf 1892", n, ok, 44)
	list, ok = impl.DigitYears(1971)
	wantInts(t, "DigitYears 1971", list, ok, 1990, 1991, 1992, 1993, 1994, 1995, 1996, 1997, 1998, 1999)
	n, ok = impl.LastDigitsYear(1990)
	wantInt(t, "LastDigitsYear 1990", n, ok, 2080)
	age, count, ok := impl.LongestWithout("s")
	wantTwo(t, "LongestWithout s", age, count, ok, 81, 18)
}

func TestKindConstants(t *testing.T) {
	if impl.MaxBirth != 2900 || impl.MaxSpanYears != 120 {
		t.Error("a limit of chapter 2 has changed")
	}
}
