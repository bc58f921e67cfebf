package tests

import (
	"math"
	"reflect"
	"runtime"
	"slices"
	"strings"
	"sync"
	"testing"
	"time"

	"loop.example/g01369/impl"
)

// A roundCall is one function of chapter 8 that takes births, but for Anniversaries, and numbers behind them. Told has a letter for each number: y for a year, f and t for the first and the last year of a span, e for every, s for a sum, m for most, p for somebody.
type roundCall struct {
	name string
	told string
	run  func(born []int, n []int) (bool, []any)
}

func roundCalls() []roundCall {
	return append(spanCalls(), []roundCall{
		{"AreBirths", "", func(b []int, n []int) (bool, []any) { return results(impl.AreBirths(b)) }},
		{"JubileesIn", "ye", func(b []int, n []int) (bool, []any) { r, ok := impl.JubileesIn(b, n[0], n[1]); return results(ok, r) }},
		{"NextJubilee", "ye", func(b []int, n []int) (bool, []any) { r, ok := impl.NextJubilee(b, n[0], n[1]); return results(ok, r) }},
		{"SumOfAges", "y", func(b []int, n []int) (bool, []any) { r, ok := impl.SumOfAges(b, n[0]); return results(ok, r) }},
		{"YearOfSum", "s", func(b []int, n []int) (bool, []any) { r, ok := impl.YearOfSum(b, n[0]); return results(ok, r) }},
		{"TogetherJubilees", "e", func(b []int, n []int) (bool, []any) { r, ok := impl.TogetherJubilees(b, n[0]); return results(ok, r) }},
		{"SharedEvery", "y", func(b []int, n []int) (bool, []any) { r, ok := impl.SharedEvery(b, n[0]); return results(ok, r) }},
		{"BestEvery", "ym", func(b []int, n []int) (bool, []any) {
			r, s, ok := impl.BestEvery(b, n[0], n[1])
			return results(ok, r, s)
		}},
		{"DoubleYear", "pp", func(b []int, n []int) (bool, []any) { r, ok := impl.DoubleYear(b, n[0], n[1]); return results(ok, r) }},
		{"OldestRound", "ye", func(b []int, n []int) (bool, []any) {
			r, s, ok := impl.OldestRound(b, n[0], n[1])
			return results(ok, r, s)
		}},
		{"BornText", "", func(b []int, n []int) (bool, []any) { r, ok := impl.BornText(b); return results(ok, r) }},
		{"JoinBorn", "", func(b []int, n []int) (bool, []any) { r, ok := impl.JoinBorn(b, ages(1970)); return results(ok, r) }},
		{"JoinBorn behind", "", func(b []int, n []int) (bool, []any) { r, ok := impl.JoinBorn(ages(1970), b); return results(ok, r) }},
	}...)
}

// spanCalls are those that take a span.
func spanCalls() []roundCall {
	return []roundCall{
		{"CountJubilees", "fte", func(b []int, n []int) (bool, []any) {
			r, ok := impl.CountJubilees(b, n[0], n[1], n[2])
			return results(ok, r)
		}},
		{"CalendarOf", "fte", func(b []int, n []int) (bool, []any) {
			r, ok := impl.CalendarOf(b, n[0], n[1], n[2])
			return results(ok, r)
		}},
		{"MostJubilees", "fte", func(b []int, n []int) (bool, []any) {
			r, s, ok := impl.MostJubilees(b, n[0], n[1], n[2])
			return results(ok, r, s)
		}},
		{"LongestQuiet", "fte", func(b []int, n []int) (bool, []any) {
			r, s, ok := impl.LongestQuiet(b, n[0], n[1], n[2])
			return results(ok, r, s)
		}},
		{"RoundSums", "fte", func(b []int, n []int) (bool, []any) {
			r, ok := impl.RoundSums(b, n[0], n[1], n[2])
			return results(ok, r)
		}},
		anniversaryCall(),
	}
}

func anniversaryCall() roundCall {
	return roundCall{"Anniversaries", "yfte", func(b []int, n []int) (bool, []any) {
		r, ok := impl.Anniversaries(n[0], n[1], n[2], n[3])
		return results(ok, r)
	}}
}

// bornFor are births for a call, or none if it takes none.
func bornFor(call roundCall, lists [][]int) [][]int {
	if call.name == anniversaryCall().name {
		return [][]int{nil}
	}
	return lists
}

// fewBorn fit with each of the good numbers.
func fewBorn() [][]int {
	return [][]int{{1970, 1950}, {0, 0, 0}, {greatestBirth, 1940, greatestBirth - 1}, bornOf(exampleBorn), bornFrom(1880, 13, mostBorn), manyAges(mostBorn, 1970), manyAges(mostBorn, greatestBirth)}
}

// goodRoundNumbers fit together in any way: each t is less than MaxCalendar years behind each f.
func goodRoundNumbers(letter byte) []int {
	switch letter {
	case 'y':
		return ages(0, 1, 120, 1970, 2000, greatestYear-1, greatestYear)
	case 'f':
		return ages(1900, 1999, 2000)
	case 't':
		return ages(2000, 2010, 2099)
	case 'e':
		return ages(1, 2, 10, greatestEvery-1, greatestEvery)
	case 's':
		return ages(1, 2, 120, greatestBornSum-1, greatestBornSum)
	case 'm':
		return ages(2, 3, greatestEvery-1, greatestEvery)
	}
	return ages(0, 1)
}

// badRoundNumbers are wrong with each of the good ones.
func badRoundNumbers(letter byte) []int {
	switch letter {
	case 'y':
		return badYears()
	case 'f':
		return append(badYears(), 0, 1800, 2100, greatestYear)
	case 't':
		return append(badYears(), 0, 1899, 2200, greatestYear)
	case 'e':
		return badEveries()
	case 's':
		return badSumsOfBorn()
	case 'm':
		return badMosts()
	}
	return ages(math.MinInt, math.MinInt+1, -2, -1, mostBorn, mostBorn+1, math.MaxInt-1, math.MaxInt)
}

// oddRoundNumbers are those at the limits, beside them, and at the ends of an int.
func oddRoundNumbers(byte) []int {
	return ages(math.MinInt, math.MinInt+1, -1, 0, 1, 2, 10, greatestEvery, greatestEvery+1, 1900, 2000, 2099, greatestYear, greatestYear+1, math.MaxInt-1, math.MaxInt)
}

func TestPromise11RoundSumsAreTotal(t *testing.T) {
	for _, call := range roundCalls() {
		for _, list := range bornFor(call, slices.Concat(fewBorn(), [][]int{nil, {}, {-1}, {greatestBirth + 1}, {1970, math.MinInt}, {math.MaxInt, 1970}, {math.MinInt, math.MaxInt}, manyAges(mostBorn+1, 1970)})) {
			for _, row := range toldRows(call.told, oddRoundNumbers) {
				holdTotalRun(t, call.name, row, list, spareMark, func(given []int) (bool, []any) { return call.run(given, row) })
			}
		}
	}
	for _, call := range roundCalls() {
		for _, list := range bornFor(call, append(goodBorn(), badBorn()...)) {
			for _, row := range toldRows(call.told, goodRoundNumbers) {
				holdTotalRun(t, call.name, row, list, spareMark, func(given []int) (bool, []any) { return call.run(given, row) })
			}
		}
	}
}

func TestPromise11InvalidBornFail(t *testing.T) {
	for _, call := range roundCalls() {
		if call.name == anniversaryCall().name {
			continue
		}
		for _, list := range badBorn() {
			for _, row := range toldRows(call.told, goodRoundNumbers) {
				if ok, got := call.run(list, row); ok || !areZero(got) {
					t.Fatalf("%s of %v and %v is %v, %v", call.name, list, row, got, ok)
				}
			}
		}
	}
}

func TestPromise11InvalidRoundNumbersFail(t *testing.T) {
	for _, call := range roundCalls() {
		for place := range len(call.told) {
			for _, list := range bornFor(call, fewBorn()) {
				for _, row := range toldRows(call.told, goodRoundNumbers) {
					for _, row[place] = range badRoundNumbers(call.told[place]) {
						if ok, got := call.run(list, row); ok || !areZero(got) {
							t.Fatalf("%s of %v and %v is %v, %v", call.name, list, row, got, ok)
						}
					}
				}
			}
		}
	}
}

func TestPromise11ValidRoundSumsSucceed(t *testing.T) {
	for _, call := range roundCalls() {
		// These fail as well where there is no such year, number or person.
		if slices.Contains([]string{"NextJubilee", "LongestQuiet", "YearOfSum", "SharedEvery", "DoubleYear", "OldestRound"}, call.name) {
			continue
		}
		for _, list := range bornFor(call, goodBorn()) {
			if strings.HasPrefix(call.name, "JoinBorn") && len(list) == mostBorn {
				continue
			}
			for _, row := range toldRows(call.told, goodRoundNumbers) {
				if ok, _ := call.run(list, row); !ok {
					t.Fatalf("%s of %v and %v fails", call.name, list, row)
				}
			}
		}
	}
}

func TestPromise11RoundSumsShareNoMemory(t *testing.T) {
	for _, call := range roundCalls() {
		for _, list := range bornFor(call, fewBorn()) {
			for _, row := range toldRows(call.told, goodRoundNumbers) {
				holdOwnMemoryRun(t, call.name, row, list, spareMark, func(given []int) (bool, []any) { return call.run(given, row) })
			}
		}
	}
	for _, text := range goodTextsOfBorn() {
		holdOwnMemoryRun(t, "ParseBorn", text, nil, spareMark, func([]int) (bool, []any) { r, ok := impl.ParseBorn(text); return results(ok, r) })
	}
}

// Both lists of JoinBorn have room behind them, in which the other one would fit.
func TestPromise11JoinBornKeepsBothLists(t *testing.T) {
	for _, text := range []string{"1940", exampleBorn, "1,2,3,4,5"} {
		first, second := withSpare(bornOf(text), spareMark), withSpare(ages(1970, 1980), spareMark)
		before, beforeSecond := slices.Clone(whole(first)), slices.Clone(whole(second))
		joined, ok := impl.JoinBorn(first, second)
		wantInts(t, "JoinBorn "+text, joined, ok, append(bornOf(text), 1970, 1980)...)
		for i := range whole(joined) {
			whole(joined)[i] = -spareMark
		}
		if !slices.Equal(before, whole(first)) || !slices.Equal(beforeSecond, whole(second)) {
			t.Errorf("JoinBorn %s changes an argument, or shares its memory", text)
		}
		// One list may be given as both.
		joined, ok = impl.JoinBorn(first, first)
		wantInts(t, "JoinBorn of one list twice", joined, ok, append(bornOf(text), bornOf(text)...)...)
	}
}

func TestPromise11ParseBorn(t *testing.T) {
	for _, text := range []string{strings.Repeat(",", 100000), strings.Repeat("1", 100000), strings.Repeat("0", 100000), strings.Repeat("9", 100000), strings.Repeat("1970,", 100000), strings.Repeat("0", 100000) + "1970", "1970," + strings.Repeat("0", 100000) + "1", "1970" + strings.Repeat(" ", 100000), "1970" + strings.Repeat("\xff", 100000), "\x00\xff,\xfe"} {
		born, ok := impl.ParseBorn(text)
		wantNone(t, "ParseBorn of a long or broken text", born, ok)
	}
}

// Goroutines come in another order on each run, and the answers must be the same.
func TestPromise11RoundSumsAreTheSameOnEveryRun(t *testing.T) {
	born := bornFrom(1880, 13, mostBorn)
	for _, call := range roundCalls() {
		for _, row := range [][]int{toldRows(call.told, goodRoundNumbers)[0], lastRow(toldRows(call.told, goodRoundNumbers))} {
			ok, want := call.run(born, row)
			for range 200 {
				again, got := call.run(born, row)
				if again != ok || !reflect.DeepEqual(got, want) {
					t.Fatalf("%s of %v is %v, and then %v", call.name, row, want, got)
				}
			}
		}
	}
}

func lastRow(rows [][]int) []int { return rows[len(rows)-1] }

// Each call ends with all that it has started, so that many of them leave nothing behind and do not disturb each other.
func TestPromise11RoundSumsLeaveNothingRunning(t *testing.T) {
	before := runtime.NumGoroutine()
	var group sync.WaitGroup
	for range 8 {
		group.Go(func() {
			for _, call := range roundCalls() {
				for _, list := range bornFor(call, fewBorn()) {
					row := toldRows(call.told, goodRoundNumbers)[0]
					ok, want := call.run(list, row)
					again, got := call.run(list, row)
					if ok != again || !reflect.DeepEqual(want, got) {
						t.Errorf("%s of %v and %v is %v, and then %v", call.name, list, row, want, got)
					}
				}
			}
		})
	}
	group.Wait()
	// A goroutine that has done all its work may still be counted for a moment.
	for range 1000 {
		if runtime.NumGoroutine() <= before {
			return
		}
		time.Sleep(time.Millisecond)
	}
	t.Errorf("%d goroutines are left, not %d", runtime.NumGoroutine(), before)
}
