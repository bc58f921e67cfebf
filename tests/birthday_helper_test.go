package tests

import (
	"math"
	"slices"
	"testing"

	"loop.example/g01369/impl"
)

func date(year int, day int) impl.Date { return impl.Date{Year: year, Day: day} }

func dates(list ...impl.Date) []impl.Date { return list }

func manyBirths(count int, birth impl.Date) []impl.Date {
	return slices.Repeat([]impl.Date{birth}, count)
}

// threeBorn are those of the document's example, 1990.100,1992.50,1992.100.
func threeBorn() []impl.Date { return dates(date(1990, 100), date(1992, 50), date(1992, 100)) }

// goodDates are at both ends of years and of all dates, and between them.
func goodDates() []impl.Date {
	return dates(date(0, 1), date(0, 2), date(0, impl.MaxDay), date(1, 1), date(1990, 100), date(1992, 50), date(1992, 100), date(1999, impl.MaxDay), date(2000, 1), date(2000, 183), date(2000, 184), date(impl.MaxYear-1, impl.MaxDay), date(impl.MaxYear, 1), date(impl.MaxYear, 200), date(impl.MaxYear, impl.MaxDay))
}

func badDates() []impl.Date {
	var list []impl.Date
	for _, year := range ages(math.MinInt, -1000000, -1, impl.MaxYear+1, 1000000, math.MaxInt) {
		list = append(list, date(year, 100))
	}
	for _, day := range ages(math.MinInt, -impl.MaxDay, -1, 0, impl.MaxDay+1, 2*impl.MaxDay, math.MaxInt) {
		list = append(list, date(1995, day), date(0, day), date(impl.MaxYear, day))
	}
	return append(list, date(0, 0), date(-1, impl.MaxDay), date(impl.MaxYear+1, 1), date(-1, 0), date(math.MinInt, math.MinInt), date(math.MaxInt, math.MaxInt), date(math.MinInt, math.MaxInt), date(math.MaxInt, math.MinInt))
}

// goodBirths are of 1 to MaxPeople people, alike or not, in any order, at the ends of years and of all dates.
func goodBirths() [][]impl.Date {
	lists := [][]impl.Date{
		threeBorn(),
		dates(date(1992, 100), date(1990, 100), date(1992, 50)),
		dates(date(1990, 1), date(1989, impl.MaxDay)),
		dates(date(1990, impl.MaxDay), date(1991, 1), date(1990, 1)),
		dates(date(1980, 200), date(1985, 200), date(1990, 200), date(1975, 200)),
		dates(date(0, 1), date(3, 300)),
		dates(date(0, impl.MaxDay), date(0, impl.MaxDay), date(1, 7)),
		dates(date(10, 30), date(9, 31), date(8, 29), date(7, 30), date(6, 31), date(5, 29), date(4, 1), date(3, impl.MaxDay)),
		dates(date(0, 1), date(impl.MaxYear, 1)),
		dates(date(2990, 20), date(2997, 19), date(2996, 300)),
		manyBirths(impl.MaxPeople, date(1990, 100)),
		manyBirths(impl.MaxPeople, date(0, 1)),
		manyBirths(impl.MaxPeople, date(impl.MaxYear, impl.MaxDay)),
	}
	for _, birth := range goodDates() {
		lists = append(lists, dates(birth), dates(birth, birth))
	}
	return lists
}

// badBirths are none, too many, or have a date that is none in some place.
func badBirths() [][]impl.Date {
	lists := [][]impl.Date{nil, {}, manyBirths(impl.MaxPeople+1, date(1990, 100)), manyBirths(impl.MaxPeople+1, date(0, 1)), manyBirths(1000, date(1990, 100)), {{}, {}}}
	for _, bad := range badDates() {
		lists = append(lists, dates(bad), dates(bad, date(0, 1)), dates(date(0, 1), bad), append(manyBirths(impl.MaxPeople-1, date(0, 1)), bad))
	}
	return lists
}

// nextDay tells by the definition alone which day comes behind one, which may lie behind MaxYear.
func nextDay(d impl.Date) impl.Date {
	if d.Day == impl.MaxDay {
		return date(d.Year+1, 1)
	}
	return date(d.Year, d.Day+1)
}

func dayBefore(d impl.Date) impl.Date {
	if d.Day == 1 {
		return date(d.Year-1, impl.MaxDay)
	}
	return date(d.Year, d.Day-1)
}

func isEarlier(a impl.Date, b impl.Date) bool {
	return a.Year < b.Year || a.Year == b.Year && a.Day < b.Day
}

func isBirthday(birth impl.Date, on impl.Date) bool {
	return on.Day == birth.Day && on.Year > birth.Year
}

func whoseBirthday(births []impl.Date, on impl.Date) []int {
	return numbersWhen(0, len(births)-1, func(n int) bool { return isBirthday(births[n], on) })
}

// daysFrom are so many days from a date on, but none behind the last date.
func daysFrom(first impl.Date, count int) []impl.Date {
	var list []impl.Date
	for d := first; len(list) < count && d.Year <= impl.MaxYear; d = nextDay(d) {
		list = append(list, d)
	}
	return list
}

// birthdaysUntil counts somebody's birthdays, year by year, that are not later than a date.
func birthdaysUntil(birth impl.Date, on impl.Date) int {
	count := 0
	for year := birth.Year + 1; !isEarlier(on, date(year, birth.Day)); year++ {
		count++
	}
	return count
}

func agesByBirthdays(births []impl.Date, on impl.Date) []int {
	list := make([]int, len(births))
	for i, birth := range births {
		list[i] = birthdaysUntil(birth, on)
	}
	return list
}

func firstBorn(births []impl.Date) impl.Date {
	first := births[0]
	for _, birth := range births {
		if isEarlier(birth, first) {
			first = birth
		}
	}
	return first
}

func lastBorn(births []impl.Date) impl.Date {
	last := births[0]
	for _, birth := range births {
		if isEarlier(last, birth) {
			last = birth
		}
	}
	return last
}

func wantDate(t *testing.T, call string, got impl.Date, ok bool, want impl.Date) {
	t.Helper()
	if !ok || got != want {
		t.Errorf("%s is %v, %v, not %v", call, got, ok, want)
	}
}

func wantNoDate(t *testing.T, call string, got impl.Date, ok bool) {
	t.Helper()
	if ok || got != (impl.Date{}) {
		t.Errorf("%s is %v, %v, not a failure", call, got, ok)
	}
}

// wantDateOf wants a date, or a failure if that would be none.
func wantDateOf(t *testing.T, call string, got impl.Date, ok bool, want impl.Date) {
	t.Helper()
	if want.Year > impl.MaxYear {
		wantNoDate(t, call, got, ok)
		return
	}
	wantDate(t, call, got, ok, want)
}

func wantBirthday(t *testing.T, call string, got impl.Date, who []int, ok bool, want impl.Date, wantWho ...int) {
	t.Helper()
	if !ok || got != want || !slices.Equal(who, wantWho) {
		t.Errorf("%s is %v of %v, %v, not %v of %v", call, got, who, ok, want, wantWho)
	}
}

func wantNoBirthday(t *testing.T, call string, got impl.Date, who []int, ok bool) {
	t.Helper()
	if ok || got != (impl.Date{}) || len(who) != 0 {
		t.Errorf("%s is %v of %v, %v, not a failure", call, got, who, ok)
	}
}

func wantNoText(t *testing.T, call string, got string, ok bool) {
	t.Helper()
	if ok || got != "" {
		t.Errorf("%s is %q, %v, not a failure", call, got, ok)
	}
}
