package tests

import (
	"math"
	"slices"
	"strings"
	"testing"

	"loop.example/g01369/impl"
)

// A dateCall is one function of chapter 3 behind one face: births, if it takes them, so many dates, so many numbers, and results of which the last one is left out.
type dateCall struct {
	name    string
	dates   int
	numbers int
	run     func(births []impl.Date, d []impl.Date, n []int) (bool, []any)
}

// bornCalls are those that take births.
func bornCalls() []dateCall {
	return []dateCall{
		{"AgesOn", 1, 0, func(b []impl.Date, d []impl.Date, n []int) (bool, []any) {
			r, ok := impl.AgesOn(b, d[0])
			return results(ok, r)
		}},
		{"NextBirthday", 1, 0, func(b []impl.Date, d []impl.Date, n []int) (bool, []any) {
			r, s, ok := impl.NextBirthday(b, d[0])
			return results(ok, r, s)
		}},
		{"LastBirthday", 1, 0, func(b []impl.Date, d []impl.Date, n []int) (bool, []any) {
			r, s, ok := impl.LastBirthday(b, d[0])
			return results(ok, r, s)
		}},
		{"BirthdaysBetween", 2, 0, func(b []impl.Date, d []impl.Date, n []int) (bool, []any) {
			r, ok := impl.BirthdaysBetween(b, d[0], d[1])
			return results(ok, r)
		}},
		{"OlderOf", 0, 0, func(b []impl.Date, d []impl.Date, n []int) (bool, []any) {
			r, ok := impl.OlderOf(b)
			return results(ok, r)
		}},
		{"FirstSumOn", 0, 1, func(b []impl.Date, d []impl.Date, n []int) (bool, []any) {
			r, ok := impl.FirstSumOn(b, n[0])
			return results(ok, r)
		}},
		{"SumOfAgesOn", 1, 0, func(b []impl.Date, d []impl.Date, n []int) (bool, []any) {
			r, ok := impl.SumOfAgesOn(b, d[0])
			return results(ok, r)
		}},
		{"BirthdaysOf", 0, 0, func(b []impl.Date, d []impl.Date, n []int) (bool, []any) {
			r, ok := impl.BirthdaysOf(b)
			return results(ok, r)
		}},
		{"BirthsText", 0, 0, func(b []impl.Date, d []impl.Date, n []int) (bool, []any) {
			r, ok := impl.BirthsText(b)
			return results(ok, r)
		}},
		{"AreBirthDates", 0, 0, func(b []impl.Date, d []impl.Date, n []int) (bool, []any) {
			return results(impl.AreBirthDates(b))
		}},
	}
}

// dayCalls are those that take dates and numbers alone.
func dayCalls() []dateCall {
	return []dateCall{
		{"IsDate", 1, 0, func(b []impl.Date, d []impl.Date, n []int) (bool, []any) {
			return results(impl.IsDate(d[0]))
		}},
		{"AgeOn", 2, 0, func(b []impl.Date, d []impl.Date, n []int) (bool, []any) {
			r, ok := impl.AgeOn(d[0], d[1])
			return results(ok, r)
		}},
		{"DaysApart", 2, 0, func(b []impl.Date, d []impl.Date, n []int) (bool, []any) {
			r, ok := impl.DaysApart(d[0], d[1])
			return results(ok, r)
		}},
		{"AddDays", 1, 1, func(b []impl.Date, d []impl.Date, n []int) (bool, []any) {
			r, ok := impl.AddDays(d[0], n[0])
			return results(ok, r)
		}},
		{"DaysOld", 2, 0, func(b []impl.Date, d []impl.Date, n []int) (bool, []any) {
			r, ok := impl.DaysOld(d[0], d[1])
			return results(ok, r)
		}},
		{"DaysAlike", 2, 1, func(b []impl.Date, d []impl.Date, n []int) (bool, []any) {
			r, ok := impl.DaysAlike(d[0], d[1], n[0])
			return results(ok, r)
		}},
		{"GreatestGap", 2, 0, func(b []impl.Date, d []impl.Date, n []int) (bool, []any) {
			r, s, ok := impl.GreatestGap(d[0], d[1])
			return results(ok, r, s)
		}},
		{"HalfBirthday", 2, 0, func(b []impl.Date, d []impl.Date, n []int) (bool, []any) {
			r, ok := impl.HalfBirthday(d[0], d[1])
			return results(ok, r)
		}},
		{"DayOfDaysOld", 1, 1, func(b []impl.Date, d []impl.Date, n []int) (bool, []any) {
			r, ok := impl.DayOfDaysOld(d[0], n[0])
			return results(ok, r)
		}},
		{"TwiceAsOld", 2, 0, func(b []impl.Date, d []impl.Date, n []int) (bool, []any) {
			r, ok := impl.TwiceAsOld(d[0], d[1])
			return results(ok, r)
		}},
	}
}

// dateRows are all rows of so many of some dates.
func dateRows(count int, from []impl.Date) [][]impl.Date {
	return rowsOf(slices.Repeat([][]impl.Date{from}, count)...)
}

func allDates() []impl.Date { return append(goodDates(), badDates()...) }

func holdDatesTotal(t *testing.T, call dateCall, births []impl.Date) {
	t.Helper()
	for _, row := range dateRows(call.dates, allDates()) {
		for _, numbers := range numberRows(call.numbers) {
			holdTotalRun(t, call.name, row, births, date(spareMark, spareMark), func(given []impl.Date) (bool, []any) { return call.run(given, row, numbers) })
		}
	}
}

func TestPromise11BirthdaysAreTotal(t *testing.T) {
	for _, call := range bornCalls() {
		for _, births := range append(goodBirths(), badBirths()...) {
			holdDatesTotal(t, call, births)
		}
	}
	for _, call := range dayCalls() {
		holdDatesTotal(t, call, nil)
	}
}

func TestPromise11InvalidBirthsFail(t *testing.T) {
	for _, call := range bornCalls() {
		for _, births := range badBirths() {
			for _, row := range dateRows(call.dates, goodDates()) {
				for _, numbers := range numberRows(call.numbers) {
					if ok, got := call.run(births, row, numbers); ok {
						t.Fatalf("%s of %v, %v and %v is %v", call.name, births, row, numbers, got)
					}
				}
			}
		}
	}
}

func TestPromise11InvalidDatesFail(t *testing.T) {
	for _, call := range append(bornCalls(), dayCalls()...) {
		for place := range call.dates {
			for _, row := range dateRows(call.dates, goodDates()) {
				for _, row[place] = range badDates() {
					for _, number := range ages(0, 1, 1993, impl.MaxYear) {
						if ok, got := call.run(dates(date(0, 1)), row, ages(number)); ok {
							t.Fatalf("%s of %v and %d is %v", call.name, row, number, got)
						}
					}
				}
			}
		}
	}
}

func TestPromise11DatesBeforeABirthFail(t *testing.T) {
	births := dates(date(1500, 100), date(2000, 100), date(1700, 300))
	for _, call := range bornCalls() {
		if call.dates == 0 {
			continue
		}
		for _, on := range dates(date(2000, 99), date(2000, 1), date(1999, 365), date(1700, 300), date(1500, 100), date(0, 1)) {
			for _, later := range append(goodDates(), on) {
				if ok, got := call.run(births, dates(on, later), nil); ok {
					t.Fatalf("%s on %v is %v", call.name, on, got)
				}
			}
		}
	}
	for _, call := range dayCalls() {
		if call.name != "AgeOn" && call.name != "DaysOld" && call.name != "HalfBirthday" {
			continue
		}
		for _, on := range dates(date(2000, 99), date(1999, 100), date(1999, 365), date(0, 1)) {
			if ok, got := call.run(nil, dates(date(2000, 100), on), nil); ok {
				t.Fatalf("%s on %v is %v", call.name, on, got)
			}
		}
	}
}

func TestPromise11BirthdaysShareNoMemory(t *testing.T) {
	for _, call := range bornCalls() {
		for _, births := range goodBirths() {
			for _, row := range dateRows(call.dates, dates(date(2000, 99), date(2000, 100), date(2997, 20), date(impl.MaxYear, 1))) {
				holdOwnMemoryRun(t, call.name, row, births, date(spareMark, spareMark), func(given []impl.Date) (bool, []any) { return call.run(given, row, ages(100)) })
			}
		}
	}
}

func TestPromise11ParseBirths(t *testing.T) {
	for _, text := range []string{strings.Repeat(",", 100000), strings.Repeat(".", 100000), strings.Repeat("1", 100000), strings.Repeat("1.1,", 100000), strings.Repeat("0", 100000) + "1.1", "1." + strings.Repeat("0", 100000) + "1", "1.1" + strings.Repeat(" ", 100000), "\x00\xff.\xfe"} {
		births, ok := impl.ParseBirths(text)
		wantNone(t, "ParseBirths of a long or broken text", births, ok)
	}
	first, _ := impl.ParseBirths("1990.100,1992.50,1992.100")
	for i := range whole(first) {
		whole(first)[i] = date(math.MinInt, -spareMark)
	}
	second, ok := impl.ParseBirths("1990.100,1992.50,1992.100")
	if !ok || !slices.Equal(second, threeBorn()) {
		t.Errorf("ParseBirths once more is %v, %v", second, ok)
	}
}
