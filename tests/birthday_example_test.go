package tests

import (
	"slices"
	"testing"

	"loop.example/g01369/impl"
)

func TestBirthdayExample(t *testing.T) {
	births, ok := impl.ParseBirths("1990.100,1992.50,1992.100")
	if !ok || !slices.Equal(births, threeBorn()) {
		t.Fatalf("ParseBirths is %v, %v", births, ok)
	}
	on := date(2000, 60)
	list, ok := impl.AgesOn(births, on)
	wantInts(t, "AgesOn 2000.60", list, ok, 9, 8, 7)
	d, who, ok := impl.NextBirthday(births, on)
	wantBirthday(t, "NextBirthday 2000.60", d, who, ok, date(2000, 100), 0, 2)
	d, who, ok = impl.LastBirthday(births, on)
	wantBirthday(t, "LastBirthday 2000.60", d, who, ok, date(2000, 50), 1)
	n, ok := impl.DaysAlike(births[1], births[2], 2000)
	wantInt(t, "DaysAlike of 1 and 2 in 2000", n, ok, 315)
	least, greatest, ok := impl.GreatestGap(births[0], births[1])
	wantTwo(t, "GreatestGap of 0 and 1", least, greatest, ok, 1, 2)
	d, ok = impl.FirstSumOn(births, 25)
	wantDate(t, "FirstSumOn 25", d, ok, date(2000, 100))
	n, ok = impl.SumOfAgesOn(births, d)
	wantInt(t, "SumOfAgesOn 2000.100", n, ok, 26)
	d, ok = impl.TwiceAsOld(births[0], births[1])
	wantDate(t, "TwiceAsOld of 0 and 1", d, ok, date(1993, 365))
	d, ok = impl.HalfBirthday(births[0], on)
	wantDate(t, "HalfBirthday of 0", d, ok, date(2000, 282))
}

// The document's console gives these for the same births.
func TestBirthdayConsoleExample(t *testing.T) {
	n, ok := impl.DaysOld(date(1990, 100), date(1991, 100))
	wantInt(t, "DaysOld 1991.100", n, ok, 365)
	list, ok := impl.AgesOn(threeBorn(), date(1980, 1))
	wantNone(t, "AgesOn 1980.1", list, ok)
}

func TestBirthdayConstants(t *testing.T) {
	if impl.MaxDay != 365 {
		t.Error("a limit of chapter 3 has changed")
	}
}
