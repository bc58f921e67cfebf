package tests

import (
	"slices"
	"strconv"
	"testing"

	"loop.example/g01369/impl"
)

// The tests of this file hold each function against the document's definitions, by going from day to day.

// walkedDays is more than three years, so that each birthday comes at least three times.
const walkedDays = 3*impl.MaxDay + 10

func TestPromise3AgesChangeOnBirthdaysAlone(t *testing.T) {
	for _, birth := range goodDates() {
		age := 0
		for days, on := range daysFrom(birth, impl.MaxYear*impl.MaxDay+impl.MaxDay) {
			if isBirthday(birth, on) {
				age++
			}
			n, ok := impl.AgeOn(birth, on)
			wantInt(t, "AgeOn", n, ok, age)
			n, ok = impl.DaysOld(birth, on)
			wantInt(t, "DaysOld", n, ok, days)
			if t.Failed() {
				t.Fatalf("of somebody born %v on %v", birth, on)
			}
		}
	}
}

func TestPromise3DaysLater(t *testing.T) {
	for _, first := range dates(date(0, 1), date(1990, 100), date(2000, 365)) {
		for days, on := range daysFrom(first, impl.MaxYear*impl.MaxDay+impl.MaxDay) {
			d, ok := impl.AddDays(first, days)
			wantDate(t, "AddDays later", d, ok, on)
			d, ok = impl.AddDays(on, -days)
			wantDate(t, "AddDays earlier", d, ok, first)
			n, ok := impl.DaysApart(first, on)
			wantInt(t, "DaysApart", n, ok, days)
			n, ok = impl.DaysApart(on, first)
			wantInt(t, "DaysApart the other way round", n, ok, days)
			d, ok = impl.DayOfDaysOld(first, days)
			if days > 1000000 {
				wantNoDate(t, "DayOfDaysOld of too many days", d, ok)
			} else {
				wantDate(t, "DayOfDaysOld", d, ok, on)
			}
			if t.Failed() {
				t.Fatalf("from %v to %v", first, on)
			}
		}
	}
}

func TestPromise3AgesOfAll(t *testing.T) {
	for _, births := range goodBirths() {
		for _, on := range daysFrom(lastBorn(births), walkedDays) {
			then := agesByBirthdays(births, on)
			list, ok := impl.AgesOn(births, on)
			wantInts(t, "AgesOn", list, ok, then...)
			n, ok := impl.SumOfAgesOn(births, on)
			wantInt(t, "SumOfAgesOn", n, ok, sumOf(then))
		}
		for _, on := range dates(dayBefore(lastBorn(births)), date(0, 1)) {
			if isEarlier(on, lastBorn(births)) {
				list, ok := impl.AgesOn(births, on)
				wantNone(t, "AgesOn before a birth", list, ok)
				n, ok := impl.SumOfAgesOn(births, on)
				wantNoInt(t, "SumOfAgesOn before a birth", n, ok)
			}
		}
	}
}

func TestPromise3NextBirthday(t *testing.T) {
	for _, births := range goodBirths() {
		starts := append(daysFrom(lastBorn(births), walkedDays), daysFrom(date(impl.MaxYear, 1), impl.MaxDay)...)
		for _, on := range starts {
			if isEarlier(on, lastBorn(births)) {
				continue
			}
			want := nextDay(on)
			for len(whoseBirthday(births, want)) == 0 {
				want = nextDay(want)
			}
			d, who, ok := impl.NextBirthday(births, on)
			if want.Year > impl.MaxYear {
				wantNoBirthday(t, "NextBirthday behind MaxYear", d, who, ok)
				continue
			}
			wantBirthday(t, "NextBirthday", d, who, ok, want, whoseBirthday(births, want)...)
		}
	}
}

func TestPromise3LastBirthday(t *testing.T) {
	for _, births := range goodBirths() {
		for _, on := range append(daysFrom(lastBorn(births), walkedDays), date(impl.MaxYear, impl.MaxDay)) {
			want := on
			for !isEarlier(want, firstBorn(births)) && len(whoseBirthday(births, want)) == 0 {
				want = dayBefore(want)
			}
			d, who, ok := impl.LastBirthday(births, on)
			if isEarlier(want, firstBorn(births)) {
				wantNoBirthday(t, "LastBirthday of none", d, who, ok)
				continue
			}
			wantBirthday(t, "LastBirthday", d, who, ok, want, whoseBirthday(births, want)...)
		}
	}
}

func TestPromise3BirthdaysBetween(t *testing.T) {
	for _, births := range goodBirths() {
		for _, behind := range ages(0, 1, 17, 364, 365, 366) {
			walked := daysFrom(lastBorn(births), walkedDays)
			if behind >= len(walked) {
				continue
			}
			from, count := walked[behind], 0
			for _, to := range walked[behind:] {
				if to != from {
					count += len(whoseBirthday(births, to))
				}
				n, ok := impl.BirthdaysBetween(births, from, to)
				wantInt(t, "BirthdaysBetween", n, ok, count)
				n, ok = impl.BirthdaysBetween(births, to, from)
				if to == from {
					wantInt(t, "BirthdaysBetween a date and the same", n, ok, 0)
				} else {
					wantNoInt(t, "BirthdaysBetween backward", n, ok)
				}
			}
		}
	}
}

// closeBirths are born within three years, where the ages are alike on some days and not on others.
func closeBirths() []impl.Date {
	var list []impl.Date
	for year := 1990; year <= 1992; year++ {
		for _, day := range ages(1, 2, 50, 100, 183, 364, impl.MaxDay) {
			list = append(list, date(year, day))
		}
	}
	return list
}

func TestPromise3DaysAlike(t *testing.T) {
	for _, a := range closeBirths() {
		for _, b := range closeBirths() {
			for _, year := range ages(1989, 1990, 1991, 1992, 1993, 1994, 2003) {
				n, ok := impl.DaysAlike(a, b, year)
				if year <= a.Year || year <= b.Year {
					wantNoInt(t, "DaysAlike before both are born", n, ok)
					continue
				}
				alike := numbersWhen(1, impl.MaxDay, func(day int) bool {
					return birthdaysUntil(a, date(year, day)) == birthdaysUntil(b, date(year, day))
				})
				wantInt(t, "DaysAlike", n, ok, len(alike))
			}
		}
	}
}

func TestPromise3GreatestGap(t *testing.T) {
	for _, a := range append(closeBirths(), goodDates()...) {
		for _, b := range append(closeBirths(), goodDates()...) {
			least, greatest, ok := impl.GreatestGap(a, b)
			if isEarlier(b, a) {
				wantNoTwo(t, "GreatestGap of the younger one first", least, greatest, ok)
				continue
			}
			wantLeast, wantGreatest := gapsByBirthdays(a, b)
			wantTwo(t, "GreatestGap", least, greatest, ok, wantLeast, wantGreatest)
		}
	}
}

// gapsByBirthdays goes from the birth of b through two years, behind MaxYear too: then all comes again.
func gapsByBirthdays(a impl.Date, b impl.Date) (int, int) {
	gap := birthdaysUntil(a, b)
	least, greatest := gap, gap
	for on := b; on.Year < b.Year+3; on = nextDay(on) {
		if on != b && isBirthday(a, on) {
			gap++
		}
		if isBirthday(b, on) {
			gap--
		}
		least, greatest = min(least, gap), max(greatest, gap)
	}
	return least, greatest
}

func TestPromise3SumsAreReachedOnTheFirstDay(t *testing.T) {
	for _, births := range goodBirths() {
		reached := 0
		ageSum := sumOf(agesByBirthdays(births, lastBorn(births)))
		for _, on := range daysFrom(lastBorn(births), impl.MaxYear*impl.MaxDay+impl.MaxDay) {
			if on != lastBorn(births) {
				ageSum += len(whoseBirthday(births, on))
			}
			for ; reached <= min(ageSum, 10000); reached++ {
				d, ok := impl.FirstSumOn(births, reached)
				wantDate(t, "FirstSumOn", d, ok, on)
			}
			if t.Failed() {
				t.Fatalf("%v on %v", births, on)
			}
		}
		for ; reached <= 10000; reached++ {
			d, ok := impl.FirstSumOn(births, reached)
			wantNoDate(t, "FirstSumOn a sum that is never reached", d, ok)
		}
	}
}

func TestPromise3HalfBirthday(t *testing.T) {
	for _, birth := range append(goodDates(), closeBirths()...) {
		for _, on := range append(daysFrom(birth, walkedDays), date(impl.MaxYear, 182), date(impl.MaxYear, 183), date(impl.MaxYear, impl.MaxDay)) {
			if isEarlier(on, birth) {
				continue
			}
			d, ok := impl.HalfBirthday(birth, on)
			wantDateOf(t, "HalfBirthday", d, ok, halfBirthdayByDays(birth, on))
		}
	}
}

// halfBirthdayByDays goes back 182 days from each day behind a date, until that leads to a birthday or the birth.
func halfBirthdayByDays(birth impl.Date, on impl.Date) impl.Date {
	source := nextDay(on)
	for range 182 {
		source = dayBefore(source)
	}
	half := nextDay(on)
	for source != birth && !isBirthday(birth, source) {
		source, half = nextDay(source), nextDay(half)
	}
	return half
}

func TestPromise3TwiceAsOld(t *testing.T) {
	for _, older := range append(closeBirths(), goodDates()...) {
		for _, younger := range append(closeBirths(), goodDates()...) {
			d, ok := impl.TwiceAsOld(older, younger)
			if !isEarlier(older, younger) {
				wantNoDate(t, "TwiceAsOld of the younger one first", d, ok)
				continue
			}
			wantDateOf(t, "TwiceAsOld", d, ok, twiceAsOldByDays(older, younger))
		}
	}
}

// twiceAsOldByDays goes on from day to day until both numbers of days fit, behind MaxYear too.
func twiceAsOldByDays(older impl.Date, younger impl.Date) impl.Date {
	daysOlder, daysYounger := 0, 0
	for on := older; ; on = nextDay(on) {
		if isEarlier(younger, on) {
			daysYounger++
		}
		if !isEarlier(on, younger) && daysOlder == 2*daysYounger {
			return on
		}
		daysOlder++
	}
}

func TestPromise3OlderOf(t *testing.T) {
	for _, births := range append(goodBirths(), closeBirths()[2:10], closeBirths()[13:21]) {
		order, ok := impl.OlderOf(births)
		sorted := slices.Sorted(slices.Values(order))
		wantInts(t, "OlderOf, all people", sorted, ok, numbersWhen(0, len(births)-1, func(int) bool { return true })...)
		for i := range len(order) - 1 {
			p, q := order[i], order[i+1]
			if isEarlier(births[q], births[p]) || births[p] == births[q] && p > q {
				t.Errorf("OlderOf %v is %v", births, order)
			}
		}
	}
}

func TestPromise3BirthdaysOf(t *testing.T) {
	for _, births := range goodBirths() {
		var want [][]int
		for _, on := range daysFrom(date(2000, 1), impl.MaxDay) {
			who := numbersWhen(0, len(births)-1, func(n int) bool { return births[n].Day == on.Day })
			if len(who) > 0 {
				want = append(want, append(ages(on.Day), who...))
			}
		}
		rows, ok := impl.BirthdaysOf(births)
		wantRows(t, "BirthdaysOf", rows, ok, want...)
	}
}

func TestPromise3Texts(t *testing.T) {
	for _, births := range goodBirths() {
		want := ""
		for i, birth := range births {
			if i > 0 {
				want += ","
			}
			want += strconv.Itoa(birth.Year) + "." + strconv.Itoa(birth.Day)
		}
		text, ok := impl.BirthsText(births)
		wantText(t, "BirthsText", text, ok, want)
		parsed, ok := impl.ParseBirths(want)
		if !ok || !slices.Equal(parsed, births) {
			t.Errorf("ParseBirths %q is %v, %v", want, parsed, ok)
		}
	}
}
