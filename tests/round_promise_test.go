package tests

import (
	"slices"
	"strings"
	"testing"

	"loop.example/g01369/impl"
)

// The tests of this file hold each function against the document's definitions: people go on from their births, from year to year, and from one round age to the next one.

func TestPromise8AreBirths(t *testing.T) {
	for birth := -3; birth <= 3003; birth++ {
		want := 0 <= birth && birth <= 2900
		for _, born := range [][]int{ages(birth), ages(1970, birth), ages(birth, 1970, 1980)} {
			if impl.AreBirths(born) != want {
				t.Errorf("AreBirths %v is %v", born, !want)
			}
		}
	}
	for count := range 25 {
		if want := 1 <= count && count <= 10; impl.AreBirths(manyAges(count, 1970)) != want {
			t.Errorf("AreBirths of %d is %v", count, !want)
		}
	}
}

func TestPromise8JubileesAreRoundAges(t *testing.T) {
	for _, born := range triedBorn() {
		for _, every := range triedEveries() {
			jubilees := jubileesByYear(born, every)
			for _, year := range triedYears(born) {
				who, ok := impl.JubileesIn(born, year, every)
				wantInts(t, "JubileesIn", who, ok, jubilees[year]...)
			}
			if t.Failed() {
				t.Fatalf("of %v, %d", born, every)
			}
		}
	}
}

// All years and all every of somebody, at first, in the midst and at last.
func TestPromise8JubileesOfOne(t *testing.T) {
	for _, birth := range ages(0, 1880, 2880, 2881, 2900) {
		for every := 1; every <= greatestEvery; every++ {
			jubilees := jubileesByYear(ages(birth), every)
			for year := max(birth-2, 0); year <= min(birth+123, greatestYear); year++ {
				who, ok := impl.JubileesIn(ages(birth), year, every)
				wantInts(t, "JubileesIn", who, ok, jubilees[year]...)
				who0, age, ok := impl.OldestRound(ages(birth), year, every)
				if len(jubilees[year]) == 0 {
					wantNoTwo(t, "OldestRound", who0, age, ok)
				} else {
					wantTwo(t, "OldestRound", who0, age, ok, 0, year-birth)
				}
			}
		}
	}
}

func TestPromise8SpansOfJubilees(t *testing.T) {
	for _, born := range triedBorn() {
		for _, every := range triedEveries() {
			jubilees := jubileesByYear(born, every)
			for _, span := range spansOf(born) {
				holdSpan(t, born, span[0], span[1], every, jubilees)
				if t.Failed() {
					t.Fatalf("of %v, %v, %d", born, span, every)
				}
			}
		}
	}
}

// holdSpan goes through the years of a span, from the last one to the first one.
func holdSpan(t *testing.T, born []int, from int, to int, every int, jubilees [][]int) {
	t.Helper()
	var rows [][]int
	count, year, most := 0, from, 0
	for y := to; y >= from; y-- {
		who := jubilees[y]
		count += len(who)
		if len(who) > 0 {
			rows = append(rows, append(ages(y), who...))
		}
		if len(who) >= most {
			year, most = y, len(who)
		}
	}
	slices.Reverse(rows)
	n, ok := impl.CountJubilees(born, from, to, every)
	wantInt(t, "CountJubilees", n, ok, count)
	got, ok := impl.CalendarOf(born, from, to, every)
	wantRows(t, "CalendarOf", got, ok, rows...)
	gotYear, n, ok := impl.MostJubilees(born, from, to, every)
	wantTwo(t, "MostJubilees", gotYear, n, ok, year, most)
	holdQuiet(t, born, from, to, every, jubilees)
}

// holdQuiet writes each year as a sign, and looks for ever shorter parts without a jubilee.
func holdQuiet(t *testing.T, born []int, from int, to int, every int, jubilees [][]int) {
	t.Helper()
	var signs strings.Builder
	for year := from; year <= to; year++ {
		if len(jubilees[year]) > 0 {
			signs.WriteByte('+')
		} else {
			signs.WriteByte('-')
		}
	}
	first, long, ok := impl.LongestQuiet(born, from, to, every)
	for length := to - from + 1; length > 0; length-- {
		if place := strings.Index(signs.String(), strings.Repeat("-", length)); place >= 0 {
			wantTwo(t, "LongestQuiet", first, long, ok, from+place, length)
			return
		}
	}
	wantNoTwo(t, "LongestQuiet of years that all have a jubilee", first, long, ok)
}

func TestPromise8NextJubilees(t *testing.T) {
	for _, born := range triedBorn() {
		for _, every := range ages(1, 7, 10, 60, 99, greatestEvery) {
			jubilees := jubileesByYear(born, every)
			for _, year := range triedYears(born) {
				next := year + 1
				for next <= greatestYear && len(jubilees[next]) == 0 {
					next++
				}
				got, ok := impl.NextJubilee(born, year, every)
				if next > greatestYear {
					wantNoInt(t, "NextJubilee", got, ok)
				} else {
					wantInt(t, "NextJubilee", got, ok, next)
				}
			}
			if t.Failed() {
				t.Fatalf("of %v, %d", born, every)
			}
		}
	}
}

func TestPromise8SumsAreThoseOfAllWhoCount(t *testing.T) {
	for _, born := range triedBorn() {
		sums := sumsByYear(born)
		for year, sum := range sums {
			n, ok := impl.SumOfAges(born, year)
			wantInt(t, "SumOfAges", n, ok, sum)
		}
		for _, span := range spansOf(born) {
			for _, every := range triedEveries() {
				years, ok := impl.RoundSums(born, span[0], span[1], every)
				wantInts(t, "RoundSums", years, ok, numbersWhen(span[0], span[1], func(year int) bool { return isSomeMultiple(sums[year], every) })...)
			}
		}
		for _, sum := range append(ages(1, 2, 3, 100, 119, 120, 121, 150, 499, 990, 991, 999, 1000), min(max(slices.Max(sums), 1), 1000), min(slices.Max(sums)+1, 1000)) {
			year, ok := impl.YearOfSum(born, sum)
			if first := slices.IndexFunc(sums, func(reached int) bool { return reached >= sum }); first >= 0 {
				wantInt(t, "YearOfSum", year, ok, first)
			} else {
				wantNoInt(t, "YearOfSum that is never reached", year, ok)
			}
		}
		if t.Failed() {
			t.Fatalf("of %v", born)
		}
	}
}

func TestPromise8JubileesTogether(t *testing.T) {
	lists := slices.Concat(triedBorn(), [][]int{ages(1900, 1910), ages(1900, 2019), ages(1900, 2018, 1959), ages(2895, 2900), ages(2780, 2900), ages(1900, 1960, 1900), ages(2890, 2840), bornFrom(1900, 10, mostBorn), bornFrom(2810, 10, mostBorn), bornFrom(1900, 13, mostBorn)})
	for _, born := range lists {
		for _, every := range triedEveries() {
			jubilees := jubileesByYear(born, every)
			years, ok := impl.TogetherJubilees(born, every)
			wantInts(t, "TogetherJubilees", years, ok, numbersWhen(0, greatestYear, func(year int) bool { return len(jubilees[year]) == len(born) })...)
		}
		if t.Failed() {
			t.Fatalf("of %v", born)
		}
	}
}

func TestPromise8SharedNumbers(t *testing.T) {
	for _, born := range slices.Concat(triedBorn(), [][]int{ages(1900, 1960), ages(1900, 1900, 2020), ages(1900, 1910, 1950), ages(1901, 1904, 1931), bornFrom(1900, 12, mostBorn)}) {
		rows := agesByYear(born)
		for year, row := range rows {
			n, ok := impl.SharedEvery(born, year)
			want := 0
			if slices.Min(row) >= 0 {
				want = greatestOfWhich(row)
			}
			if want == 0 {
				wantNoInt(t, "SharedEvery", n, ok)
			} else {
				wantInt(t, "SharedEvery", n, ok, want)
			}
		}
		if t.Failed() {
			t.Fatalf("of %v", born)
		}
	}
}

// greatestOfWhich tries all numbers up to MaxAge. It is 0 if all are multiples of any number, as they are 0.
func greatestOfWhich(row []int) int {
	if slices.Max(row) == 0 {
		return 0
	}
	for n := greatestAge; ; n-- {
		if !slices.ContainsFunc(row, func(age int) bool { return age > 0 && !isSomeMultiple(age, n) }) {
			return n
		}
	}
}

func TestPromise8BestNumbers(t *testing.T) {
	for _, born := range triedBorn() {
		rows := agesByYear(born)
		for _, year := range triedYears(born) {
			best, many := 0, 0
			for most := 2; most <= greatestEvery; most++ {
				count := len(numbersWhen(0, len(born)-1, func(who int) bool { return isSomeMultiple(rows[year][who], most) }))
				if count >= many {
					best, many = most, count
				}
				got, n, ok := impl.BestEvery(born, year, most)
				wantTwo(t, "BestEvery", got, n, ok, best, many)
			}
			if t.Failed() {
				t.Fatalf("of %v, %d", born, year)
			}
		}
	}
}

func TestPromise8Anniversaries(t *testing.T) {
	for _, span := range append(goodSpans(), ages(1950, 2010)) {
		for _, start := range append(ages(0, 1, 100, 1000, 1879, 1950, 1970, 2000, 2005, 2999, greatestYear), span[0], span[1], (span[0]+span[1])/2) {
			for every := 1; every <= greatestEvery; every++ {
				var want []int
				for year := start + every; year <= span[1]; year += every {
					if year >= span[0] {
						want = append(want, year)
					}
				}
				years, ok := impl.Anniversaries(start, span[0], span[1], every)
				wantInts(t, "Anniversaries", years, ok, want...)
			}
			if t.Failed() {
				t.Fatalf("of %d, %v", start, span)
			}
		}
	}
}

func TestPromise8DoubleYears(t *testing.T) {
	for _, born := range slices.Concat(triedBorn(), [][]int{ages(1900, 1959, 1960, 1961), ages(2780, 2839, 2840, 2841, 2900), ages(0, 59, 60, 61, 120)}) {
		rows := agesByYear(born)
		for a := range born {
			for b := range born {
				want := slices.IndexFunc(rows, func(row []int) bool { return a != b && row[a] > 0 && row[b] > 0 && row[a] == row[b]+row[b] })
				year, ok := impl.DoubleYear(born, a, b)
				if want < 0 {
					wantNoInt(t, "DoubleYear", year, ok)
				} else {
					wantInt(t, "DoubleYear", year, ok, want)
				}
			}
		}
		if t.Failed() {
			t.Fatalf("of %v", born)
		}
	}
}

func TestPromise8OldestRounds(t *testing.T) {
	for _, born := range triedBorn() {
		rows := agesByYear(born)
		for _, every := range triedEveries() {
			jubilees := jubileesByYear(born, every)
			for _, year := range triedYears(born) {
				oldest, age := 0, 0
				for _, who := range slices.Backward(jubilees[year]) {
					if rows[year][who] >= age {
						oldest, age = who, rows[year][who]
					}
				}
				who, n, ok := impl.OldestRound(born, year, every)
				if age == 0 {
					wantNoTwo(t, "OldestRound", who, n, ok)
				} else {
					wantTwo(t, "OldestRound", who, n, ok, oldest, age)
				}
			}
			if t.Failed() {
				t.Fatalf("of %v, %d", born, every)
			}
		}
	}
}

func TestPromise8JoinedBirths(t *testing.T) {
	for _, a := range triedBorn() {
		for _, b := range triedBorn() {
			born, ok := impl.JoinBorn(a, b)
			if len(a)+len(b) > 10 {
				wantNone(t, "JoinBorn", born, ok)
				continue
			}
			wantInts(t, "JoinBorn", born, ok, slices.Concat(a, b)...)
			// Those who come behind others have the same jubilees as before.
			first, _ := impl.JubileesIn(a, 2000, 10)
			second, _ := impl.JubileesIn(b, 2000, 10)
			for i := range second {
				second[i] += len(a)
			}
			who, ok := impl.JubileesIn(born, 2000, 10)
			wantInts(t, "JubileesIn of both", who, ok, slices.Concat(first, second)...)
		}
	}
}

func TestPromise8TextsOfBirths(t *testing.T) {
	lists := triedBorn()
	for birth := range greatestBirth + 1 {
		lists = append(lists, ages(birth), ages(birth, greatestBirth-birth))
	}
	for _, born := range lists {
		text, ok := impl.BornText(born)
		wantText(t, "BornText", text, ok, textOfBorn(born))
		again, ok := impl.ParseBorn(text)
		wantInts(t, "ParseBorn", again, ok, born...)
	}
	for number := greatestBirth + 1; number <= 100000; number++ {
		born, ok := impl.ParseBorn(textOfBorn(ages(number)))
		wantNone(t, "ParseBorn of no birth", born, ok)
	}
}
