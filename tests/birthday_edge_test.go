package tests

import (
	"math"
	"slices"
	"testing"

	"loop.example/g01369/impl"
)

func TestIsDate(t *testing.T) {
	for _, d := range goodDates() {
		if !impl.IsDate(d) {
			t.Errorf("%v is a date", d)
		}
	}
	for _, d := range badDates() {
		if impl.IsDate(d) {
			t.Errorf("%v is no date", d)
		}
	}
}

func TestAreBirthDates(t *testing.T) {
	for _, list := range goodBirths() {
		if !impl.AreBirthDates(list) {
			t.Errorf("%v are births", list)
		}
	}
	for _, list := range badBirths() {
		if impl.AreBirthDates(list) {
			t.Errorf("%v are no births", list)
		}
	}
}

func TestAgeOnEdges(t *testing.T) {
	birth := date(1990, 100)
	for on, want := range map[impl.Date]int{
		birth: 0, date(1990, 101): 0, date(1991, 1): 0, date(1991, 99): 0, date(1991, 100): 1, date(1991, 101): 1,
		date(1992, 99): 1, date(2000, 365): 10, date(2111, 99): 120, date(2111, 100): 121, date(impl.MaxYear, 99): 1009, date(impl.MaxYear, impl.MaxDay): 1010,
	} {
		n, ok := impl.AgeOn(birth, on)
		wantInt(t, "AgeOn", n, ok, want)
	}
	n, ok := impl.AgeOn(date(0, 1), date(impl.MaxYear, 1))
	wantInt(t, "AgeOn of the greatest age", n, ok, impl.MaxYear)
	n, ok = impl.AgeOn(date(0, impl.MaxDay), date(impl.MaxYear, impl.MaxDay-1))
	wantInt(t, "AgeOn just before a birthday", n, ok, impl.MaxYear-1)
	n, ok = impl.AgeOn(date(impl.MaxYear, impl.MaxDay), date(impl.MaxYear, impl.MaxDay))
	wantInt(t, "AgeOn of the last day of birth", n, ok, 0)
	for _, on := range dates(date(1990, 99), date(1990, 1), date(1989, 365), date(1989, 100), date(0, 1)) {
		n, ok := impl.AgeOn(birth, on)
		wantNoInt(t, "AgeOn before the birth", n, ok)
		n, ok = impl.DaysOld(birth, on)
		wantNoInt(t, "DaysOld before the birth", n, ok)
	}
}

func TestAgesOnEdges(t *testing.T) {
	list, ok := impl.AgesOn(threeBorn(), date(1992, 100))
	wantInts(t, "AgesOn the last day of birth", list, ok, 2, 0, 0)
	list, ok = impl.AgesOn(threeBorn(), date(2000, 99))
	wantInts(t, "AgesOn just before two birthdays", list, ok, 9, 8, 7)
	list, ok = impl.AgesOn(threeBorn(), date(2000, 100))
	wantInts(t, "AgesOn two birthdays", list, ok, 10, 8, 8)
	list, ok = impl.AgesOn(dates(date(1990, 100)), date(2000, 99))
	wantInts(t, "AgesOn of one person", list, ok, 9)
	list, ok = impl.AgesOn(manyBirths(impl.MaxPeople, date(0, 1)), date(impl.MaxYear, impl.MaxDay))
	wantInts(t, "AgesOn of MaxPeople", list, ok, manyAges(impl.MaxPeople, impl.MaxYear)...)
	n, ok := impl.SumOfAgesOn(manyBirths(impl.MaxPeople, date(0, 1)), date(impl.MaxYear, impl.MaxDay))
	wantInt(t, "SumOfAgesOn of the greatest ages", n, ok, 24000)
	n, ok = impl.SumOfAgesOn(threeBorn(), date(1992, 100))
	wantInt(t, "SumOfAgesOn the last day of birth", n, ok, 2)
	n, ok = impl.SumOfAgesOn(dates(date(1990, 100)), date(1990, 100))
	wantInt(t, "SumOfAgesOn of one person on the day of birth", n, ok, 0)
	for _, on := range dates(date(1992, 99), date(1992, 50), date(1991, 365), date(1990, 100), date(0, 1)) {
		list, ok := impl.AgesOn(threeBorn(), on)
		wantNone(t, "AgesOn before the last birth", list, ok)
		n, ok := impl.SumOfAgesOn(threeBorn(), on)
		wantNoInt(t, "SumOfAgesOn before the last birth", n, ok)
	}
}

func TestDaysApartEdges(t *testing.T) {
	for _, c := range []struct {
		a, b impl.Date
		want int
	}{
		{date(1990, 100), date(1990, 100), 0}, {date(1990, 100), date(1990, 101), 1}, {date(1990, 365), date(1991, 1), 1}, {date(1990, 100), date(1991, 99), 364},
		{date(1990, 100), date(1992, 50), 680}, {date(0, 1), date(impl.MaxYear, impl.MaxDay), 1095364}, {date(0, 365), date(impl.MaxYear, 1), 1094636}, {date(0, 1), date(0, 1), 0},
	} {
		n, ok := impl.DaysApart(c.a, c.b)
		wantInt(t, "DaysApart", n, ok, c.want)
		n, ok = impl.DaysApart(c.b, c.a)
		wantInt(t, "DaysApart the other way round", n, ok, c.want)
		n, ok = impl.DaysOld(c.a, c.b)
		wantInt(t, "DaysOld", n, ok, c.want)
		d, ok := impl.DayOfDaysOld(c.a, min(c.want, 1000000))
		if c.want <= 1000000 {
			wantDate(t, "DayOfDaysOld", d, ok, c.b)
		}
	}
}

func TestAddDaysEdges(t *testing.T) {
	first, last := date(0, 1), date(impl.MaxYear, impl.MaxDay)
	for _, c := range []struct {
		from impl.Date
		days int
		want impl.Date
	}{
		{date(2000, 60), 0, date(2000, 60)}, {date(2000, 60), 1, date(2000, 61)}, {date(2000, 60), -1, date(2000, 59)}, {date(2000, 365), 1, date(2001, 1)}, {date(2000, 1), -1, date(1999, 365)},
		{date(2000, 60), 365, date(2001, 60)}, {date(2000, 60), -365, date(1999, 60)}, {date(2000, 60), 364, date(2001, 59)}, {date(2000, 60), -364, date(1999, 61)},
		{first, 1095364, last}, {last, -1095364, first}, {first, 0, first}, {last, 0, last}, {date(0, 2), -1, first}, {date(1, 1), -365, first},
	} {
		d, ok := impl.AddDays(c.from, c.days)
		wantDate(t, "AddDays", d, ok, c.want)
	}
	for _, days := range ages(1, 2, 364, 365, 366, 730, 1095364, 1095365, 1095366, 1999999, 2000000, 2000001, math.MaxInt-1, math.MaxInt) {
		d, ok := impl.AddDays(last, days)
		wantNoDate(t, "AddDays behind all dates", d, ok)
		d, ok = impl.AddDays(first, -days)
		wantNoDate(t, "AddDays before all dates", d, ok)
	}
	for _, days := range ages(-2000001, 2000001, math.MinInt, math.MinInt+1, math.MinInt+1095364, math.MaxInt-1095364, math.MaxInt) {
		d, ok := impl.AddDays(date(1500, 100), days)
		wantNoDate(t, "AddDays of too many days", d, ok)
	}
}

func TestNextBirthdayEdges(t *testing.T) {
	for _, c := range []struct {
		births []impl.Date
		on     impl.Date
		want   impl.Date
		who    []int
	}{
		{threeBorn(), date(2000, 49), date(2000, 50), ages(1)},
		{threeBorn(), date(2000, 50), date(2000, 100), ages(0, 2)},
		{threeBorn(), date(2000, 99), date(2000, 100), ages(0, 2)},
		{threeBorn(), date(2000, 100), date(2001, 50), ages(1)},
		{threeBorn(), date(1992, 100), date(1993, 50), ages(1)},
		{dates(date(1990, 100)), date(1990, 100), date(1991, 100), ages(0)},
		{dates(date(1990, 100)), date(1991, 99), date(1991, 100), ages(0)},
		{dates(date(1999, 365), date(1998, 1)), date(1999, 365), date(2000, 1), ages(1)},
		{dates(date(1999, 365), date(1998, 1)), date(2000, 1), date(2000, 365), ages(0)},
		{dates(date(1990, 60), date(2000, 60)), date(2000, 60), date(2001, 60), ages(0, 1)},
		{dates(date(1990, 61), date(2000, 60)), date(2000, 60), date(2000, 61), ages(0)},
		{manyBirths(impl.MaxPeople, date(0, 1)), date(0, 1), date(1, 1), ages(0, 1, 2, 3, 4, 5, 6, 7)},
		{dates(date(0, 1), date(0, 365)), date(2999, 365), date(3000, 1), ages(0)},
		{dates(date(0, 1), date(0, 365)), date(3000, 364), date(3000, 365), ages(1)},
	} {
		d, who, ok := impl.NextBirthday(c.births, c.on)
		wantBirthday(t, "NextBirthday", d, who, ok, c.want, c.who...)
	}
	d, who, ok := impl.NextBirthday(threeBorn(), date(impl.MaxYear, 100))
	wantNoBirthday(t, "NextBirthday behind MaxYear", d, who, ok)
	d, who, ok = impl.NextBirthday(dates(date(0, 365)), date(impl.MaxYear, impl.MaxDay))
	wantNoBirthday(t, "NextBirthday behind the last date", d, who, ok)
	d, who, ok = impl.NextBirthday(dates(date(impl.MaxYear, 7)), date(impl.MaxYear, 7))
	wantNoBirthday(t, "NextBirthday of somebody born in MaxYear", d, who, ok)
	for _, on := range dates(date(1992, 99), date(1990, 100), date(0, 1)) {
		d, who, ok := impl.NextBirthday(threeBorn(), on)
		wantNoBirthday(t, "NextBirthday before the last birth", d, who, ok)
	}
}

func TestLastBirthdayEdges(t *testing.T) {
	for _, c := range []struct {
		births []impl.Date
		on     impl.Date
		want   impl.Date
		who    []int
	}{
		{threeBorn(), date(2000, 50), date(2000, 50), ages(1)},
		{threeBorn(), date(2000, 99), date(2000, 50), ages(1)},
		{threeBorn(), date(2000, 100), date(2000, 100), ages(0, 2)},
		{threeBorn(), date(2000, 49), date(1999, 100), ages(0, 2)},
		{threeBorn(), date(1992, 100), date(1992, 100), ages(0)},
		{dates(date(1990, 100)), date(1991, 100), date(1991, 100), ages(0)},
		{dates(date(1990, 100)), date(1992, 99), date(1991, 100), ages(0)},
		{dates(date(1990, 365), date(1999, 1)), date(1999, 1), date(1998, 365), ages(0)},
		{dates(date(0, 1), date(0, 2)), date(1, 1), date(1, 1), ages(0)},
		{manyBirths(impl.MaxPeople, date(0, 365)), date(impl.MaxYear, impl.MaxDay), date(impl.MaxYear, impl.MaxDay), ages(0, 1, 2, 3, 4, 5, 6, 7)},
	} {
		d, who, ok := impl.LastBirthday(c.births, c.on)
		wantBirthday(t, "LastBirthday", d, who, ok, c.want, c.who...)
	}
	for _, on := range dates(date(1990, 100), date(1990, 101), date(1990, 365), date(1991, 99)) {
		d, who, ok := impl.LastBirthday(manyBirths(2, date(1990, 100)), on)
		wantNoBirthday(t, "LastBirthday before the first one", d, who, ok)
	}
	d, who, ok := impl.LastBirthday(dates(date(1998, 2), date(1999, 1)), date(1999, 1))
	wantNoBirthday(t, "LastBirthday on a day of birth", d, who, ok)
	d, who, ok = impl.LastBirthday(dates(date(0, 1)), date(0, impl.MaxDay))
	wantNoBirthday(t, "LastBirthday in the year 0", d, who, ok)
	for _, on := range dates(date(1992, 99), date(1991, 100), date(0, 1)) {
		d, who, ok := impl.LastBirthday(threeBorn(), on)
		wantNoBirthday(t, "LastBirthday before the last birth", d, who, ok)
	}
}

func TestBirthdaysBetweenEdges(t *testing.T) {
	for _, c := range []struct {
		births   []impl.Date
		from, to impl.Date
		want     int
	}{
		{threeBorn(), date(2000, 60), date(2000, 60), 0}, {threeBorn(), date(2000, 100), date(2000, 100), 0}, {threeBorn(), date(2000, 60), date(2000, 99), 0}, {threeBorn(), date(2000, 60), date(2000, 100), 2},
		{threeBorn(), date(2000, 50), date(2000, 100), 2}, {threeBorn(), date(2000, 49), date(2000, 100), 3}, {threeBorn(), date(1992, 100), date(1993, 100), 3}, {threeBorn(), date(1992, 100), date(1993, 99), 1},
		{dates(date(1990, 100)), date(1990, 100), date(1990, 100), 0}, {dates(date(1990, 100)), date(1990, 100), date(1991, 99), 0}, {dates(date(1990, 100)), date(1990, 100), date(1991, 100), 1},
		{manyBirths(impl.MaxPeople, date(0, 1)), date(0, 1), date(impl.MaxYear, impl.MaxDay), 24000},
	} {
		n, ok := impl.BirthdaysBetween(c.births, c.from, c.to)
		wantInt(t, "BirthdaysBetween", n, ok, c.want)
	}
	for _, c := range [][]impl.Date{{date(2000, 60), date(2000, 59)}, {date(2000, 60), date(1999, 365)}, {date(2000, 1), date(1992, 100)}, {date(2000, 60), date(0, 1)}, {date(1992, 99), date(2000, 60)}, {date(1992, 99), date(1992, 99)}, {date(1990, 99), date(2000, 60)}, {date(0, 1), date(impl.MaxYear, impl.MaxDay)}} {
		n, ok := impl.BirthdaysBetween(threeBorn(), c[0], c[1])
		wantNoInt(t, "BirthdaysBetween backward, or from before a birth", n, ok)
	}
}

func TestDaysAlikeEdges(t *testing.T) {
	for _, c := range []struct {
		a, b impl.Date
		year int
		want int
	}{
		{date(1992, 50), date(1992, 100), 1993, 315}, {date(1992, 50), date(1992, 50), 1993, 365}, {date(1992, 1), date(1992, 365), 2000, 1}, {date(1992, 1), date(1992, 1), 2000, 365}, {date(1992, 365), date(1992, 365), 2000, 365},
		{date(1990, 100), date(1991, 50), 2000, 50}, {date(1990, 100), date(1991, 99), 2000, 1}, {date(1990, 365), date(1991, 1), 1992, 364}, {date(1990, 100), date(1991, 100), 2000, 0}, {date(1990, 100), date(1991, 101), 2000, 0},
		{date(1990, 365), date(1992, 1), 2000, 0}, {date(1990, 100), date(1992, 50), 2000, 0}, {date(0, 1), date(0, 2), 1, 364}, {date(0, 1), date(0, 1), impl.MaxYear, 365}, {date(impl.MaxYear-1, 7), date(impl.MaxYear-1, 9), impl.MaxYear, 363},
	} {
		n, ok := impl.DaysAlike(c.a, c.b, c.year)
		wantInt(t, "DaysAlike", n, ok, c.want)
		n, ok = impl.DaysAlike(c.b, c.a, c.year)
		wantInt(t, "DaysAlike the other way round", n, ok, c.want)
	}
	for _, year := range ages(1992, 1991, 1990, 1989, 0, -1, impl.MaxYear+1, math.MinInt, math.MinInt+1, math.MaxInt-1, math.MaxInt) {
		n, ok := impl.DaysAlike(date(1990, 100), date(1992, 50), year)
		wantNoInt(t, "DaysAlike before both are born, or in no year", n, ok)
		n, ok = impl.DaysAlike(date(1992, 50), date(1990, 100), year)
		wantNoInt(t, "DaysAlike the other way round, before both are born, or in no year", n, ok)
	}
	n, ok := impl.DaysAlike(date(impl.MaxYear, 1), date(impl.MaxYear, 1), impl.MaxYear)
	wantNoInt(t, "DaysAlike in the year of birth", n, ok)
}

func TestGreatestGapEdges(t *testing.T) {
	last := date(impl.MaxYear, impl.MaxDay)
	for _, c := range []struct {
		a, b            impl.Date
		least, greatest int
	}{
		{date(1990, 100), date(1990, 100), 0, 0}, {date(1990, 100), date(1990, 101), 0, 1}, {date(1990, 100), date(1991, 99), 0, 1}, {date(1990, 100), date(1991, 100), 1, 1}, {date(1990, 100), date(1991, 101), 1, 2},
		{date(1990, 1), date(1990, 365), 0, 1}, {date(1990, 365), date(1991, 1), 0, 1}, {date(0, 1), last, 3000, 3001}, {date(0, 1), date(impl.MaxYear, 1), 3000, 3000}, {date(2999, 365), last, 1, 1}, {date(impl.MaxYear, 364), last, 0, 1}, {last, last, 0, 0}, {date(0, 1), date(0, 1), 0, 0},
	} {
		least, greatest, ok := impl.GreatestGap(c.a, c.b)
		wantTwo(t, "GreatestGap", least, greatest, ok, c.least, c.greatest)
		if c.a != c.b {
			least, greatest, ok := impl.GreatestGap(c.b, c.a)
			wantNoTwo(t, "GreatestGap of the younger one first", least, greatest, ok)
		}
	}
}

func TestOlderOfEdges(t *testing.T) {
	for _, c := range []struct {
		births []impl.Date
		want   []int
	}{
		{threeBorn(), ages(0, 1, 2)}, {dates(date(1992, 100), date(1992, 50), date(1990, 100)), ages(2, 1, 0)}, {dates(date(1990, 365), date(1991, 1), date(1990, 1)), ages(2, 0, 1)},
		{dates(date(5, 5), date(4, 4), date(5, 5), date(4, 4), date(5, 4)), ages(1, 3, 4, 0, 2)}, {dates(date(1990, 100)), ages(0)}, {manyBirths(impl.MaxPeople, date(7, 7)), ages(0, 1, 2, 3, 4, 5, 6, 7)},
		{dates(date(impl.MaxYear, impl.MaxDay), date(0, 1), date(impl.MaxYear, 1), date(0, impl.MaxDay)), ages(1, 3, 2, 0)},
	} {
		list, ok := impl.OlderOf(c.births)
		wantInts(t, "OlderOf", list, ok, c.want...)
	}
}

func TestFirstSumOnEdges(t *testing.T) {
	earliest := manyBirths(impl.MaxPeople, date(0, 1))
	for _, c := range []struct {
		births []impl.Date
		sum    int
		want   impl.Date
	}{
		{threeBorn(), 0, date(1992, 100)}, {threeBorn(), 2, date(1992, 100)}, {threeBorn(), 3, date(1993, 50)}, {threeBorn(), 4, date(1993, 100)}, {threeBorn(), 5, date(1993, 100)}, {threeBorn(), 6, date(1994, 50)},
		{threeBorn(), 22, date(1999, 100)}, {threeBorn(), 23, date(1999, 100)}, {threeBorn(), 24, date(2000, 50)}, {threeBorn(), 26, date(2000, 100)}, {threeBorn(), 27, date(2001, 50)},
		{dates(date(1990, 100)), 0, date(1990, 100)}, {dates(date(1990, 100)), 1, date(1991, 100)}, {dates(date(1990, 100)), 121, date(2111, 100)}, {dates(date(1990, 365), date(1990, 1)), 1, date(1991, 1)},
		{earliest, 1, date(1, 1)}, {earliest, 9992, date(1249, 1)}, {earliest, 9993, date(1250, 1)}, {earliest, 10000, date(1250, 1)},
		{dates(date(0, 1)), 3000, date(3000, 1)}, {dates(date(0, 365)), 3000, date(3000, 365)}, {dates(date(0, 1), date(3000, 1)), 0, date(3000, 1)}, {dates(date(0, 1), date(3000, 1)), 3000, date(3000, 1)}, {dates(date(3000, 365)), 0, date(3000, 365)},
	} {
		d, ok := impl.FirstSumOn(c.births, c.sum)
		wantDate(t, "FirstSumOn", d, ok, c.want)
	}
	for _, births := range [][]impl.Date{dates(date(0, 1)), dates(date(0, 365)), dates(date(0, 1), date(3000, 1)), dates(date(3000, 365), date(0, 1)), dates(date(3000, 365)), dates(date(2990, 7), date(2991, 7))} {
		for _, sum := range ages(3001, 10000) {
			d, ok := impl.FirstSumOn(births, sum)
			wantNoDate(t, "FirstSumOn a sum that is never reached", d, ok)
		}
	}
	d, ok := impl.FirstSumOn(dates(date(3000, 365)), 1)
	wantNoDate(t, "FirstSumOn behind the last date", d, ok)
	for _, sum := range ages(-1, 10001, 10008, math.MinInt, math.MinInt+1, math.MaxInt-1, math.MaxInt) {
		d, ok := impl.FirstSumOn(earliest, sum)
		wantNoDate(t, "FirstSumOn beyond the limits", d, ok)
	}
}

func TestHalfBirthdayEdges(t *testing.T) {
	for _, c := range []struct{ birth, on, want impl.Date }{
		{date(1990, 100), date(1990, 100), date(1990, 282)}, {date(1990, 100), date(1990, 281), date(1990, 282)}, {date(1990, 100), date(1990, 282), date(1991, 282)}, {date(1990, 100), date(1990, 283), date(1991, 282)},
		{date(1990, 100), date(2000, 281), date(2000, 282)}, {date(1990, 100), date(2000, 282), date(2001, 282)}, {date(1990, 100), date(1999, 365), date(2000, 282)}, {date(1990, 100), date(3000, 281), date(3000, 282)},
		{date(2000, 183), date(2000, 183), date(2000, 365)}, {date(2000, 184), date(2000, 184), date(2001, 1)}, {date(2000, 184), date(2000, 365), date(2001, 1)}, {date(2000, 184), date(2001, 1), date(2002, 1)},
		{date(0, 1), date(0, 1), date(0, 183)}, {date(0, 365), date(0, 365), date(1, 182)}, {date(3000, 183), date(3000, 183), date(3000, 365)}, {date(0, 184), date(2999, 365), date(3000, 1)},
	} {
		d, ok := impl.HalfBirthday(c.birth, c.on)
		wantDate(t, "HalfBirthday", d, ok, c.want)
	}
	for _, c := range [][]impl.Date{
		{date(1990, 100), date(3000, 282)}, {date(3000, 184), date(3000, 184)}, {date(3000, 183), date(3000, 365)}, {date(0, 184), date(3000, 1)},
		{date(1990, 100), date(1990, 99)}, {date(1990, 100), date(1989, 365)}, {date(1990, 100), date(0, 1)},
	} {
		d, ok := impl.HalfBirthday(c[0], c[1])
		wantNoDate(t, "HalfBirthday behind the last date, or of somebody who is not born", d, ok)
	}
}

func TestDayOfDaysOldEdges(t *testing.T) {
	for _, c := range []struct {
		birth impl.Date
		days  int
		want  impl.Date
	}{
		{date(1990, 100), 0, date(1990, 100)}, {date(1990, 100), 1, date(1990, 101)}, {date(1990, 100), 365, date(1991, 100)}, {date(1990, 100), 1000, date(1993, 5)}, {date(1990, 365), 1, date(1991, 1)},
		{date(0, 1), 1000000, date(2739, 266)}, {date(2999, 365), 365, date(3000, 365)}, {date(3000, 365), 0, date(3000, 365)}, {date(261, 100), 1000000, date(3000, 365)},
	} {
		d, ok := impl.DayOfDaysOld(c.birth, c.days)
		wantDate(t, "DayOfDaysOld", d, ok, c.want)
	}
	for _, c := range []struct {
		birth impl.Date
		days  int
	}{
		{date(3000, 365), 1}, {date(2999, 365), 366}, {date(261, 101), 1000000}, {date(3000, 1), 365}, {date(1990, 100), -1}, {date(1990, 100), -365}, {date(0, 1), 1000001}, {date(0, 1), 1000002},
		{date(0, 1), math.MaxInt}, {date(3000, 365), math.MaxInt}, {date(3000, 365), math.MinInt}, {date(1990, 100), math.MinInt + 1}, {date(1990, 100), math.MaxInt - 1},
	} {
		d, ok := impl.DayOfDaysOld(c.birth, c.days)
		wantNoDate(t, "DayOfDaysOld behind the last date, or of no days", d, ok)
	}
}

func TestTwiceAsOldEdges(t *testing.T) {
	for _, c := range []struct{ older, younger, want impl.Date }{
		{date(0, 1), date(0, 2), date(0, 3)}, {date(1990, 100), date(1990, 101), date(1990, 102)}, {date(1990, 100), date(1991, 100), date(1992, 100)}, {date(1990, 365), date(1991, 1), date(1991, 2)},
		{date(0, 1), date(1500, 1), date(3000, 1)}, {date(0, 1), date(1500, 183), date(3000, 365)}, {date(2999, 365), date(3000, 182), date(3000, 364)}, {date(3000, 1), date(3000, 183), date(3000, 365)}, {date(3000, 363), date(3000, 364), date(3000, 365)},
	} {
		d, ok := impl.TwiceAsOld(c.older, c.younger)
		wantDate(t, "TwiceAsOld", d, ok, c.want)
		d, ok = impl.TwiceAsOld(c.younger, c.older)
		wantNoDate(t, "TwiceAsOld of the younger one first", d, ok)
	}
	for _, c := range [][]impl.Date{{date(0, 1), date(1500, 184)}, {date(2999, 365), date(3000, 183)}, {date(0, 1), date(3000, 365)}, {date(3000, 364), date(3000, 365)}, {date(1990, 100), date(2600, 100)}} {
		d, ok := impl.TwiceAsOld(c[0], c[1])
		wantNoDate(t, "TwiceAsOld behind the last date", d, ok)
	}
	for _, d := range goodDates() {
		d, ok := impl.TwiceAsOld(d, d)
		wantNoDate(t, "TwiceAsOld of two born on one day", d, ok)
	}
}

func TestBirthdaysOfEdges(t *testing.T) {
	rows, ok := impl.BirthdaysOf(threeBorn())
	wantRows(t, "BirthdaysOf", rows, ok, ages(50, 1), ages(100, 0, 2))
	rows, ok = impl.BirthdaysOf(dates(date(1990, 100)))
	wantRows(t, "BirthdaysOf one person", rows, ok, ages(100, 0))
	rows, ok = impl.BirthdaysOf(manyBirths(impl.MaxPeople, date(0, 1)))
	wantRows(t, "BirthdaysOf MaxPeople born on one day", rows, ok, ages(1, 0, 1, 2, 3, 4, 5, 6, 7))
	rows, ok = impl.BirthdaysOf(dates(date(1990, impl.MaxDay), date(0, 1), date(1991, 2), date(impl.MaxYear, 1), date(1989, impl.MaxDay)))
	wantRows(t, "BirthdaysOf the first and the last day", rows, ok, ages(1, 1, 3), ages(2, 2), ages(impl.MaxDay, 0, 4))
}

func TestBirthsTexts(t *testing.T) {
	for text, births := range map[string][]impl.Date{
		"1990.100,1992.50,1992.100":       threeBorn(),
		"1990.100":                        dates(date(1990, 100)),
		"0.1":                             dates(date(0, 1)),
		"3000.365":                        dates(date(impl.MaxYear, impl.MaxDay)),
		"0.365,3000.1,7.10":               dates(date(0, 365), date(3000, 1), date(7, 10)),
		"7.7,7.7,7.7,7.7,7.7,7.7,7.7,7.7": manyBirths(impl.MaxPeople, date(7, 7)),
		"10.20,9.3,100.200,1000.99,5.5,0.9,1.1,0.10": dates(date(10, 20), date(9, 3), date(100, 200), date(1000, 99), date(5, 5), date(0, 9), date(1, 1), date(0, 10)),
	} {
		told, ok := impl.BirthsText(births)
		wantText(t, "BirthsText", told, ok, text)
		parsed, ok := impl.ParseBirths(text)
		if !ok || !slices.Equal(parsed, births) {
			t.Errorf("ParseBirths %q is %v, %v", text, parsed, ok)
		}
	}
	for _, births := range badBirths() {
		told, ok := impl.BirthsText(births)
		wantNoText(t, "BirthsText of no births", told, ok)
	}
}

func TestParseBirthsFails(t *testing.T) {
	for _, text := range []string{
		"", " ", ",", ".", "1990", "100", "1990.", ".100", "1990,100", "1990.100,", ",1990.100", "1990.100,,1992.50", ",,", "1990.100.", "1990..100", ".1990.100", "1990.100.7", "1990.100 1992.50", "1990.100;1992.50", "1990.1001992.50",
		"+1990.100", "1990.+100", "-1990.100", "1990.-100", "-0.1", "0.-1", "+0.1", "01990.100", "1990.0100", "00.1", "000.1", "0.01", "0.001", "1990.100,1992.050", "1990.100,01992.50", " 1990.100", "1990.100 ", "1990 .100", "1990. 100", "1990.100, 1992.50", "1990.100 ,1992.50", "1990.100\n", "1990.100\n1992.50", "\t1990.100",
		"3001.1", "3000.366", "1990.0", "0.0", "1990.366", "-1.365", "10000.1", "1990.100,1992.0", "1990.100,3001.50", "1990.1e2", "1e3.1", "0x7.1", "1_990.100", "1990.1_00", "1990.abc", "abc.100", "a", "none", "-", "1990-100", "1990/100", "1990:100",
		"9223372036854775807.1", "9223372036854775808.1", "-9223372036854775808.1", "1.9223372036854775807", "18446744073709553606.100", "1990.18446744073709551716", "99999999999999999999999.1",
		"7.7,7.7,7.7,7.7,7.7,7.7,7.7,7.7,7.7", "7.7,7.7,7.7,7.7,7.7,7.7,7.7,7.7,", ",7.7,7.7,7.7,7.7,7.7,7.7,7.7,7.7", "1990.100\x00", "\x001990.100", "\xff.1", "１９９０.100", "٣.1", "1990·100", "1990.100，1992.50",
	} {
		births, ok := impl.ParseBirths(text)
		wantNone(t, "ParseBirths "+text, births, ok)
	}
}
