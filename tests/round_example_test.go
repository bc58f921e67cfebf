package tests

import (
	"testing"

	"loop.example/g01369/impl"
)

func TestRoundExample(t *testing.T) {
	born, ok := impl.ParseBorn(exampleBorn)
	wantInts(t, "ParseBorn "+exampleBorn, born, ok, 1940, 1950, 1965)
	who, ok := impl.JubileesIn(born, 2000, 10)
	wantInts(t, "JubileesIn 2000 10", who, ok, 0, 1)
	n, ok := impl.CountJubilees(born, 2000, 2010, 10)
	wantInt(t, "CountJubilees 2000 2010 10", n, ok, 5)
	rows, ok := impl.CalendarOf(born, 2000, 2010, 5)
	wantRows(t, "CalendarOf 2000 2010 5", rows, ok, ages(2000, 0, 1, 2), ages(2005, 0, 1, 2), ages(2010, 0, 1, 2))
	year, n, ok := impl.MostJubilees(born, 2000, 2010, 10)
	wantTwo(t, "MostJubilees 2000 2010 10", year, n, ok, 2000, 2)
	year, ok = impl.NextJubilee(born, 2000, 10)
	wantInt(t, "NextJubilee 2000 10", year, ok, 2005)
	year, n, ok = impl.LongestQuiet(born, 2000, 2010, 10)
	wantTwo(t, "LongestQuiet 2000 2010 10", year, n, ok, 2001, 4)
	n, ok = impl.SumOfAges(born, 2000)
	wantInt(t, "SumOfAges 2000", n, ok, 145)
	year, ok = impl.YearOfSum(born, 150)
	wantInt(t, "YearOfSum 150", year, ok, 2002)
	n, ok = impl.SharedEvery(born, 2000)
	wantInt(t, "SharedEvery 2000", n, ok, 5)
	year, ok = impl.DoubleYear(born, 0, 1)
	wantInt(t, "DoubleYear 0 1", year, ok, 1960)
	years, ok := impl.TogetherJubilees(born, 5)
	wantInts(t, "TogetherJubilees 5", years, ok, 1970, 1975, 1980, 1985, 1990, 1995, 2000, 2005, 2010, 2015, 2020, 2025, 2030, 2035, 2040, 2045, 2050, 2055, 2060)
	text, ok := impl.BornText(born)
	wantText(t, "BornText", text, ok, exampleBorn)
}

func TestRoundConstants(t *testing.T) {
	if impl.MaxBorn != mostBorn || impl.MaxCalendar != longestCalendar || impl.MaxEvery != greatestEvery {
		t.Error("a limit of chapter 8 has changed")
	}
}
