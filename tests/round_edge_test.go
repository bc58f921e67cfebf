package tests

import (
	"math"
	"slices"
	"testing"

	"loop.example/g01369/impl"
)

// tenBorn are MaxBorn people, born in 1950, 1957, 1964 and so on, each one 7 years behind the one before.
const tenBorn = "1950,1957,1964,1971,1978,1985,1992,1999,2006,2013"

const (
	allFirst = "0,0,0,0,0,0,0,0,0,0"
	allLast  = "2900,2900,2900,2900,2900,2900,2900,2900,2900,2900"
	allAlike = "1970,1970,1970,1970,1970,1970,1970,1970,1970,1970"
)

func everybody(count int) []int { return bornFrom(0, 1, count) }

func TestAreBirthsEdges(t *testing.T) {
	for _, born := range goodBorn() {
		if !impl.AreBirths(born) {
			t.Errorf("%v are births", born)
		}
	}
	for _, born := range badBorn() {
		if impl.AreBirths(born) {
			t.Errorf("%v are no births", born)
		}
	}
}

func TestJubileesInEdges(t *testing.T) {
	for _, c := range []struct {
		born        string
		year, every int
		want        []int
	}{
		{exampleBorn, 2000, 5, ages(0, 1, 2)}, {exampleBorn, 2000, 35, ages(2)}, {exampleBorn, 2000, 60, ages(0)}, {exampleBorn, 2000, 100, nil}, {exampleBorn, 2001, 10, nil}, {exampleBorn, 2001, 1, ages(0, 1, 2)},
		// Nobody is born yet, or somebody is just 0: that is no round age.
		{exampleBorn, 0, 1, nil}, {exampleBorn, 1939, 1, nil}, {exampleBorn, 1940, 1, nil}, {exampleBorn, 1941, 1, ages(0)}, {exampleBorn, 1950, 10, ages(0)}, {exampleBorn, 1950, 1, ages(0)}, {exampleBorn, 1951, 1, ages(0, 1)}, {exampleBorn, 1965, 5, ages(0, 1)},
		// Somebody is just MaxAge years old, and does not count in the year behind that.
		{exampleBorn, 2060, 60, ages(0)}, {exampleBorn, 2060, 10, ages(0, 1)}, {exampleBorn, 2060, 1, ages(0, 1, 2)}, {exampleBorn, 2061, 1, ages(1, 2)}, {exampleBorn, 2070, 10, ages(1)}, {exampleBorn, 2071, 1, ages(2)}, {exampleBorn, 2085, 40, ages(2)}, {exampleBorn, 2086, 1, nil}, {exampleBorn, 3000, 1, nil},
		{"1870", 2000, 10, nil}, {"1880", 2000, 10, ages(0)}, {"1879", 2000, 1, nil}, {"1880", 2000, 100, nil}, {"1900", 2000, 100, ages(0)}, {"1900", 1999, 100, nil}, {"1900", 2001, 100, nil}, {"1900", 2100, 100, nil}, {"2000", 2050, 51, nil}, {"2000", 2050, 50, ages(0)}, {"2000", 2050, 49, nil},
		{"0", 0, 1, nil}, {"0", 1, 1, ages(0)}, {"0", 120, 60, ages(0)}, {"0", 120, 100, nil}, {"0", 121, 1, nil}, {"0", 100, 100, ages(0)}, {"2900", 2899, 1, nil}, {"2900", 2900, 1, nil}, {"2900", 2901, 1, ages(0)}, {"2900", 3000, 100, ages(0)}, {"2900", 3000, 10, ages(0)}, {"0,2900", 100, 10, ages(0)}, {"0,2900", 3000, 10, ages(1)},
		// Several are born in one year.
		{"1950,1950,1940", 2000, 25, ages(0, 1)}, {"1940,1950,1950", 2000, 25, ages(1, 2)}, {"1950,1940,1950", 2000, 50, ages(0, 2)}, {allAlike, 2000, 30, everybody(mostBorn)}, {allAlike, 2000, 31, nil}, {allFirst, 120, 40, everybody(mostBorn)}, {allLast, 3000, 100, everybody(mostBorn)}, {tenBorn, 2020, 7, everybody(mostBorn)}, {tenBorn, 2020, 14, ages(0, 2, 4, 6, 8)}, {tenBorn, 2020, 70, ages(0)}, {tenBorn, 2013, 7, everybody(mostBorn - 1)},
	} {
		who, ok := impl.JubileesIn(bornOf(c.born), c.year, c.every)
		wantInts(t, "JubileesIn "+c.born, who, ok, c.want...)
	}
}

func TestCountJubileesEdges(t *testing.T) {
	for _, c := range []struct {
		born            string
		from, to, every int
		want            int
	}{
		// Spans of one year.
		{exampleBorn, 2000, 2000, 10, 2}, {exampleBorn, 2001, 2001, 10, 0}, {exampleBorn, 2000, 2000, 5, 3}, {exampleBorn, 0, 0, 1, 0}, {exampleBorn, 3000, 3000, 1, 0}, {"0", 0, 0, 1, 0}, {allLast, 3000, 3000, 100, 10},
		// Spans of MaxCalendar years.
		{exampleBorn, 1900, 2099, 1, 360}, {exampleBorn, 1900, 2099, 10, 36}, {exampleBorn, 1900, 2099, 100, 3}, {exampleBorn, 1900, 2099, 61, 3}, {exampleBorn, 1900, 2099, 60, 6}, {"0", 0, 199, 1, 120}, {"0", 0, 199, 7, 17}, {"0", 1, 200, 1, 120}, {"2900", 2801, 3000, 1, 100}, {"2900", 2801, 3000, 100, 1}, {allFirst, 0, 199, 1, 1200}, {allLast, 2801, 3000, 1, 1000}, {allAlike, 1971, 2170, 1, 1200}, {allAlike, 1970, 2169, 1, 1200}, {allAlike, 1972, 2171, 1, 1190}, {tenBorn, 1950, 2149, 1, 1200},
		{exampleBorn, 1900, 1940, 1, 0}, {exampleBorn, 1900, 1941, 1, 1}, {exampleBorn, 2085, 2100, 1, 1}, {exampleBorn, 2086, 2100, 1, 0}, {exampleBorn, 2060, 2061, 1, 5}, {exampleBorn, 2000, 2004, 10, 2}, {exampleBorn, 2000, 2005, 10, 3}, {exampleBorn, 2001, 2009, 10, 1}, {exampleBorn, 2005, 2010, 10, 3}, {exampleBorn, 2006, 2009, 10, 0},
	} {
		n, ok := impl.CountJubilees(bornOf(c.born), c.from, c.to, c.every)
		wantInt(t, "CountJubilees "+c.born, n, ok, c.want)
	}
}

func TestCalendarOfEdges(t *testing.T) {
	for _, c := range []struct {
		born            string
		from, to, every int
		want            [][]int
	}{
		{exampleBorn, 2000, 2010, 10, [][]int{{2000, 0, 1}, {2005, 2}, {2010, 0, 1}}}, {exampleBorn, 2001, 2009, 10, [][]int{{2005, 2}}}, {exampleBorn, 2000, 2000, 10, [][]int{{2000, 0, 1}}}, {exampleBorn, 2005, 2005, 10, [][]int{{2005, 2}}}, {exampleBorn, 2001, 2001, 10, nil}, {exampleBorn, 2001, 2004, 10, nil},
		{exampleBorn, 1939, 1942, 1, [][]int{{1941, 0}, {1942, 0}}}, {exampleBorn, 2059, 2062, 1, [][]int{{2059, 0, 1, 2}, {2060, 0, 1, 2}, {2061, 1, 2}, {2062, 1, 2}}}, {exampleBorn, 2084, 2087, 1, [][]int{{2084, 2}, {2085, 2}}},
		{exampleBorn, 1900, 2099, 100, [][]int{{2040, 0}, {2050, 1}, {2065, 2}}}, {exampleBorn, 1900, 2099, 60, [][]int{{2000, 0}, {2010, 1}, {2025, 2}, {2060, 0}, {2070, 1}, {2085, 2}}}, {exampleBorn, 1700, 1899, 1, nil}, {exampleBorn, 2086, 2285, 1, nil},
		{"0", 0, 3, 1, [][]int{{1, 0}, {2, 0}, {3, 0}}}, {"0", 0, 0, 1, nil}, {"0", 0, 199, 50, [][]int{{50, 0}, {100, 0}}}, {"2900", 2801, 3000, 50, [][]int{{2950, 0}, {3000, 0}}}, {"2900", 3000, 3000, 100, [][]int{{3000, 0}}}, {"2900", 3000, 3000, 99, nil}, {allAlike, 1970, 2169, 100, [][]int{{2070, 0, 1, 2, 3, 4, 5, 6, 7, 8, 9}}},
		{"1950,1940,1950", 1998, 2002, 50, [][]int{{2000, 0, 2}}}, {"1950,1940,1950", 1990, 2000, 50, [][]int{{1990, 1}, {2000, 0, 2}}}, {tenBorn, 2012, 2020, 70, [][]int{{2020, 0}}},
	} {
		rows, ok := impl.CalendarOf(bornOf(c.born), c.from, c.to, c.every)
		wantRows(t, "CalendarOf "+c.born, rows, ok, c.want...)
	}
	rows, ok := impl.CalendarOf(ages(1900), 1901, 2020, 1)
	want := [][]int{}
	for year := 1901; year <= 2020; year++ {
		want = append(want, ages(year, 0))
	}
	wantRows(t, "CalendarOf a span of which each year has a jubilee", rows, ok, want...)
}

func TestMostJubileesEdges(t *testing.T) {
	for _, c := range []struct {
		born            string
		from, to, every int
		year, most      int
	}{
		// The first one of several.
		{exampleBorn, 2000, 2020, 10, 2000, 2}, {exampleBorn, 2001, 2020, 10, 2010, 2}, {exampleBorn, 2001, 2009, 10, 2005, 1}, {exampleBorn, 2001, 2060, 5, 2005, 3}, {exampleBorn, 1900, 2099, 1, 1966, 3}, {exampleBorn, 1900, 2099, 10, 1960, 2}, {exampleBorn, 1900, 2099, 100, 2040, 1}, {exampleBorn, 2041, 2099, 100, 2050, 1}, {exampleBorn, 2060, 2099, 1, 2060, 3}, {exampleBorn, 2061, 2099, 1, 2061, 2}, {tenBorn, 1950, 2149, 7, 2020, 10}, {tenBorn, 1950, 2019, 7, 2013, 9},
		// The last year of the span has the most.
		{exampleBorn, 2001, 2010, 10, 2010, 2}, {exampleBorn, 1941, 1966, 1, 1966, 3}, {tenBorn, 1950, 2020, 70, 2020, 1},
		// There are none.
		{exampleBorn, 2001, 2004, 10, 2001, 0}, {exampleBorn, 2001, 2001, 10, 2001, 0}, {exampleBorn, 0, 199, 1, 0, 0}, {exampleBorn, 0, 0, 1, 0, 0}, {exampleBorn, 2801, 3000, 1, 2801, 0}, {exampleBorn, 3000, 3000, 1, 3000, 0}, {exampleBorn, 1741, 1940, 1, 1741, 0}, {exampleBorn, 2086, 2285, 1, 2086, 0}, {"0", 0, 0, 1, 0, 0}, {allAlike, 1970, 1970, 1, 1970, 0}, {"2900", 2801, 2900, 1, 2801, 0},
		{"0", 0, 199, 1, 1, 1}, {"0", 0, 1, 1, 1, 1}, {allFirst, 0, 199, 100, 100, 10}, {allLast, 2801, 3000, 100, 3000, 10}, {allLast, 3000, 3000, 100, 3000, 10}, {"2900", 2999, 3000, 100, 3000, 1}, {allAlike, 1900, 2099, 60, 2030, 10},
	} {
		year, most, ok := impl.MostJubilees(bornOf(c.born), c.from, c.to, c.every)
		wantTwo(t, "MostJubilees "+c.born, year, most, ok, c.year, c.most)
	}
}

func TestNextJubileeEdges(t *testing.T) {
	for _, c := range []struct {
		born              string
		year, every, want int
	}{
		{exampleBorn, 1999, 10, 2000}, {exampleBorn, 2005, 10, 2010}, {exampleBorn, 2009, 10, 2010}, {exampleBorn, 2000, 1, 2001}, {exampleBorn, 2000, 100, 2040}, {exampleBorn, 2040, 100, 2050}, {exampleBorn, 2050, 100, 2065}, {exampleBorn, 2064, 100, 2065}, {exampleBorn, 2065, 5, 2070}, {exampleBorn, 2061, 60, 2070}, {exampleBorn, 2060, 120 / 2, 2070}, {exampleBorn, 2084, 1, 2085},
		// Nobody is born yet, so that it comes after a long time.
		{exampleBorn, 0, 1, 1941}, {exampleBorn, 0, 100, 2040}, {exampleBorn, 1939, 1, 1941}, {exampleBorn, 1940, 1, 1941}, {"0", 0, 1, 1}, {"0", 0, 100, 100}, {"0", 119, 1, 120}, {"0", 1, 60, 60}, {"0", 60, 60, 120}, {"2900", 0, 1, 2901}, {"2900", 0, 100, 3000}, {"2900", 2899, 1, 2901}, {"1900,2500", 2020, 10, 2510}, {"1900,2500", 2019, 10, 2020}, {"2500,1900", 2020, 100, 2600},
		// It is in MaxYear.
		{"2900", 2999, 1, 3000}, {"2900", 2999, 100, 3000}, {"2900", 2990, 10, 3000}, {"2900", 2901, 100, 3000}, {"2900", 2951, 50, 3000}, {"2890", 2990, 11, 3000}, {allLast, 2999, 50, 3000},
	} {
		year, ok := impl.NextJubilee(bornOf(c.born), c.year, c.every)
		wantInt(t, "NextJubilee "+c.born, year, ok, c.want)
	}
	for _, c := range []struct {
		born        string
		year, every int
	}{
		{exampleBorn, 2085, 1}, {exampleBorn, 2085, 5}, {exampleBorn, 2065, 100}, {exampleBorn, 2084, 50}, {exampleBorn, 2999, 1}, {exampleBorn, 3000, 1}, {"0", 120, 1}, {"0", 100, 100}, {"0", 3000, 1}, {"2900", 3000, 1}, {"2900", 3000, 100}, {allLast, 3000, 100}, {"2899", 2999, 100}, {"2900", 2999, 99}, {"2890", 2999, 100}, {"2900", 2981, 81}, {"2900", 2999, 7}, {"2850", 2970, 60}, {"2895", 2995, 100}, {"1879,1880", 2000, 1},
	} {
		year, ok := impl.NextJubilee(bornOf(c.born), c.year, c.every)
		wantNoInt(t, "NextJubilee that does not come "+c.born, year, ok)
	}
}

func TestLongestQuietEdges(t *testing.T) {
	for _, c := range []struct {
		born            string
		from, to, every int
		first, long     int
	}{
		// The first one of several.
		{exampleBorn, 2000, 2020, 10, 2001, 4}, {exampleBorn, 2005, 2020, 10, 2006, 4}, {exampleBorn, 2000, 2020, 5, 2001, 4}, {"1900", 1901, 1999, 10, 1901, 9}, {"1900", 1910, 1999, 10, 1911, 9}, {"1900,1903", 1960, 1999, 10, 1964, 6}, {"1900,1903", 1951, 1999, 10, 1954, 6}, {"1900,1903", 1951, 1958, 10, 1954, 5}, {"1900", 1909, 1911, 10, 1909, 1},
		// It begins or ends with the span, or is all of it.
		{exampleBorn, 2000, 2003, 10, 2001, 3}, {exampleBorn, 1998, 2005, 10, 2001, 4}, {exampleBorn, 1991, 2002, 10, 1991, 4}, {exampleBorn, 1996, 2003, 10, 1996, 4}, {exampleBorn, 1997, 2003, 10, 1997, 3}, {exampleBorn, 1997, 2004, 10, 2001, 4}, {exampleBorn, 2001, 2004, 10, 2001, 4}, {exampleBorn, 2001, 2001, 10, 2001, 1}, {exampleBorn, 2000, 2001, 10, 2001, 1}, {exampleBorn, 1999, 2000, 10, 1999, 1}, {exampleBorn, 1900, 1941, 1, 1900, 41}, {exampleBorn, 1900, 2099, 1, 1900, 41}, {exampleBorn, 1939, 2138, 1, 2086, 53}, {exampleBorn, 1900, 2099, 100, 1900, 140}, {exampleBorn, 2001, 2200, 100, 2066, 135},
		{exampleBorn, 0, 199, 1, 0, 200}, {exampleBorn, 0, 0, 1, 0, 1}, {exampleBorn, 2801, 3000, 1, 2801, 200}, {exampleBorn, 3000, 3000, 1, 3000, 1}, {"0", 0, 199, 1, 121, 79}, {"0", 0, 120, 1, 0, 1}, {"0", 0, 121, 1, 0, 1}, {"0", 1, 121, 1, 121, 1}, {"0", 0, 0, 100, 0, 1}, {"0", 0, 199, 100, 0, 100}, {"0", 0, 199, 99, 100, 100}, {"0", 0, 198, 99, 0, 99}, {"2900", 2801, 3000, 1, 2801, 100}, {"2900", 2801, 3000, 100, 2801, 199}, {"2900", 2999, 3000, 100, 2999, 1}, {allLast, 2900, 3000, 1, 2900, 1}, {allAlike, 1970, 2169, 60, 2091, 79},
	} {
		first, long, ok := impl.LongestQuiet(bornOf(c.born), c.from, c.to, c.every)
		wantTwo(t, "LongestQuiet "+c.born, first, long, ok, c.first, c.long)
	}
	for _, c := range []struct {
		born            string
		from, to, every int
	}{
		{exampleBorn, 2000, 2000, 10}, {exampleBorn, 2005, 2005, 10}, {exampleBorn, 1941, 2085, 1}, {exampleBorn, 2060, 2061, 1}, {"0", 1, 120, 1}, {"0", 120, 120, 60}, {"2900", 2901, 3000, 1}, {"2900", 3000, 3000, 100}, {allLast, 3000, 3000, 1}, {"1900,1901", 1910, 1911, 10}, {"1900,2019", 1901, 2100, 1}, {"2019,1900", 1901, 2100, 1}, {tenBorn, 1951, 2133, 1},
	} {
		first, long, ok := impl.LongestQuiet(bornOf(c.born), c.from, c.to, c.every)
		wantNoTwo(t, "LongestQuiet of a span of which each year has a jubilee "+c.born, first, long, ok)
	}
}

func TestSumOfAgesEdges(t *testing.T) {
	for _, c := range []struct {
		born       string
		year, want int
	}{
		{exampleBorn, 2001, 148}, {exampleBorn, 0, 0}, {exampleBorn, 1939, 0}, {exampleBorn, 1940, 0}, {exampleBorn, 1941, 1}, {exampleBorn, 1950, 10}, {exampleBorn, 1951, 12}, {exampleBorn, 1965, 40}, {exampleBorn, 1966, 43}, {exampleBorn, 2060, 325}, {exampleBorn, 2061, 207}, {exampleBorn, 2070, 225}, {exampleBorn, 2071, 106}, {exampleBorn, 2085, 120}, {exampleBorn, 2086, 0}, {exampleBorn, 3000, 0},
		{"0", 0, 0}, {"0", 1, 1}, {"0", 120, 120}, {"0", 121, 0}, {"2900", 2899, 0}, {"2900", 2900, 0}, {"2900", 2901, 1}, {"2900", 3000, 100}, {"0,2900", 120, 120}, {"0,2900", 3000, 100}, {allFirst, 0, 0}, {allFirst, 1, 10}, {allFirst, 120, 1200}, {allFirst, 121, 0}, {allLast, 2900, 0}, {allLast, 3000, 1000}, {allAlike, 2000, 300}, {"1950,1950", 2000, 100}, {"1950,1950,1940", 2000, 160}, {"1880,2000", 2000, 120}, {"1879,2000", 2000, 0}, {"1879,2000", 2001, 1}, {"1880,2000", 2001, 1}, {tenBorn, 2013, 315}, {tenBorn, 2020, 385},
	} {
		n, ok := impl.SumOfAges(bornOf(c.born), c.year)
		wantInt(t, "SumOfAges "+c.born, n, ok, c.want)
	}
}

func TestYearOfSumEdges(t *testing.T) {
	for _, c := range []struct {
		born      string
		sum, want int
	}{
		{exampleBorn, 1, 1941}, {exampleBorn, 2, 1942}, {exampleBorn, 10, 1950}, {exampleBorn, 11, 1951}, {exampleBorn, 12, 1951}, {exampleBorn, 13, 1952}, {exampleBorn, 145, 2000}, {exampleBorn, 146, 2001}, {exampleBorn, 325, 2060}, {exampleBorn, 324, 2060}, {exampleBorn, 322, 2059}, {exampleBorn, 323, 2060},
		// No sum of at least 1 is reached in year 0, as those who are born in it are 0 then.
		{"0", 1, 1}, {"0", 120, 120}, {allFirst, 1, 1}, {allFirst, 10, 1}, {allFirst, 11, 2}, {allFirst, 1000, 100}, {"0,0,1", 3, 2}, {"0,2900", 120, 120}, {"2900", 1, 2901}, {"2900", 100, 3000}, {allLast, 1000, 3000}, {allLast, 991, 3000}, {allLast, 990, 2999}, {allAlike, 1000, 2070}, {"2891,2899,2891,2891,2891,2891,2891,2891,2891,2891", 1000, 2992}, {"1950,1950", 100, 2000}, {"1950,1950", 99, 2000}, {tenBorn, 316, 2014},
		// The sum falls when somebody does not count any longer, and is reached by others later.
		{"1900,2500", 120, 2020}, {"1900,2500,2500", 121, 2561}, {"1900,2500,2500", 240, 2620}, {"2500,1900,2500", 200, 2600},
	} {
		year, ok := impl.YearOfSum(bornOf(c.born), c.sum)
		wantInt(t, "YearOfSum "+c.born, year, ok, c.want)
	}
	for _, c := range []struct {
		born string
		sum  int
	}{
		{exampleBorn, 326}, {exampleBorn, 1000}, {"0", 121}, {"0", 1000}, {"2900", 101}, {"2900", 120}, {"2890", 111}, {"0,2900", 121}, {"1900,2500", 121}, {"1900,2021", 121}, {"2900,2900", 201}, {"2901,2900", 1}, {"2891,2900,2900,2900,2900,2900,2900,2900,2900", 1000}, {"0,121,242,363,484,605,726,847,968,1089", 121}, {"1970,1970,1970,1970,1970,1970,1970,1970", 961},
	} {
		year, ok := impl.YearOfSum(bornOf(c.born), c.sum)
		wantNoInt(t, "YearOfSum that is never reached "+c.born, year, ok)
	}
	for _, sum := range badSumsOfBorn() {
		for _, text := range []string{exampleBorn, allFirst, allLast, allAlike} {
			year, ok := impl.YearOfSum(bornOf(text), sum)
			wantNoInt(t, "YearOfSum of no sum "+text, year, ok)
		}
	}
}

func TestRoundSumsEdges(t *testing.T) {
	for _, c := range []struct {
		born            string
		from, to, every int
		want            []int
	}{
		{exampleBorn, 2000, 2010, 5, ages(2000, 2005, 2010)}, {exampleBorn, 2000, 2010, 10, ages(2005)}, {exampleBorn, 2000, 2010, 100, nil}, {exampleBorn, 1965, 2064, 100, ages(1985)}, {exampleBorn, 2000, 2003, 1, ages(2000, 2001, 2002, 2003)}, {exampleBorn, 2000, 2000, 29, ages(2000)}, {exampleBorn, 2000, 2000, 30, nil}, {exampleBorn, 2001, 2001, 37, ages(2001)},
		// Sums of 0 are not round.
		{exampleBorn, 1900, 1940, 1, nil}, {exampleBorn, 1938, 1943, 1, ages(1941, 1942, 1943)}, {exampleBorn, 2084, 2088, 1, ages(2084, 2085)}, {exampleBorn, 2084, 2100, 60, ages(2085)}, {exampleBorn, 0, 199, 1, nil}, {exampleBorn, 2801, 3000, 1, nil}, {"0", 0, 0, 1, nil}, {"0", 0, 2, 1, ages(1, 2)}, {"0", 0, 199, 50, ages(50, 100)}, {"0", 119, 125, 1, ages(119, 120)}, {"2900", 2801, 3000, 50, ages(2950, 3000)}, {"2900", 3000, 3000, 100, ages(3000)}, {"2900", 2801, 2900, 1, nil}, {allLast, 2990, 3000, 100, ages(2990, 3000)}, {allFirst, 0, 199, 100, ages(10, 20, 30, 40, 50, 60, 70, 80, 90, 100, 110, 120)}, {allFirst, 0, 5, 10, ages(1, 2, 3, 4, 5)},
		// The sum falls behind the year in which somebody is MaxAge years old.
		{exampleBorn, 2059, 2063, 1, ages(2059, 2060, 2061, 2062, 2063)}, {exampleBorn, 2060, 2061, 25, ages(2060)}, {exampleBorn, 2060, 2061, 23, ages(2061)}, {exampleBorn, 2060, 2061, 9, ages(2061)}, {"1950,1950", 1999, 2002, 4, ages(2000, 2002)}, {"1880,2000", 1999, 2002, 60, ages(2000)},
	} {
		years, ok := impl.RoundSums(bornOf(c.born), c.from, c.to, c.every)
		wantInts(t, "RoundSums "+c.born, years, ok, c.want...)
	}
}

func TestTogetherJubileesEdges(t *testing.T) {
	for _, c := range []struct {
		born  string
		every int
		want  []int
	}{
		{exampleBorn, 25, nil}, {exampleBorn, 10, nil}, {exampleBorn, 100, nil}, {"1940,1950", 10, ages(1960, 1970, 1980, 1990, 2000, 2010, 2020, 2030, 2040, 2050, 2060)}, {"1940,1950", 11, nil}, {"1900,2000", 100, nil}, {"1900,2000", 10, ages(2010, 2020)}, {"1900,2000", 20, ages(2020)}, {"1900,2000", 19, nil}, {"2000,1900", 20, ages(2020)},
		{"1900,2019", 1, ages(2020)}, {"1900,2020", 1, nil}, {"1900,2021", 1, nil}, {"1900,2018", 1, ages(2019, 2020)}, {"1900,1960", 60, ages(2020)}, {"1900,1961", 60, nil}, {"1900", 60, ages(1960, 2020)}, {"1900", 61, ages(1961)}, {"1900", 100, ages(2000)}, {"0", 60, ages(60, 120)}, {"0", 100, ages(100)}, {"2900", 100, ages(3000)}, {"2900", 50, ages(2950, 3000)}, {"2900", 60, ages(2960)}, {"2890", 11, ages(2901, 2912, 2923, 2934, 2945, 2956, 2967, 2978, 2989, 3000)}, {"2890", 100, ages(2990)}, {"2880", 60, ages(2940, 3000)}, {"2881", 60, ages(2941)}, {"2881,2900", 19, ages(2919, 2938, 2957, 2976, 2995)}, {allFirst, 100, ages(100)}, {allLast, 100, ages(3000)}, {allAlike, 60, ages(2030, 2090)}, {"0,2900", 1, nil}, {"0,1", 1, bornFrom(2, 1, 119)}, {"0", 1, bornFrom(1, 1, 120)}, {"2900", 1, bornFrom(2901, 1, 100)}, {allLast, 1, bornFrom(2901, 1, 100)}, {tenBorn, 7, bornFrom(2020, 7, 8)}, {tenBorn, 63, nil}, {tenBorn, 1, bornFrom(2014, 1, 57)}, {"1950,1950,1951", 2, nil},
	} {
		years, ok := impl.TogetherJubilees(bornOf(c.born), c.every)
		wantInts(t, "TogetherJubilees "+c.born, years, ok, c.want...)
	}
}

func TestSharedEveryEdges(t *testing.T) {
	for _, c := range []struct {
		born       string
		year, want int
	}{
		// They share no number but 1.
		{exampleBorn, 2001, 1}, {"1990,1991", 2000, 1}, {"1985,1990,1994", 2000, 1}, {"1900,1999", 2000, 1}, {"1999", 2000, 1},
		// It may be greater than MaxEvery.
		{"1880", 2000, 120}, {"0", 120, 120}, {"0", 101, 101}, {"1880,1880", 2000, 120}, {"1880,1940", 2000, 60}, {"1940,1880", 2000, 60}, {"2900", 3000, 100}, {allFirst, 120, 120}, {allLast, 3000, 100}, {"2890", 3000, 110},
		// Ages of 0 among others.
		{"1940,2000", 2000, 60}, {"2000,1940", 2000, 60}, {"2000,1940,1950", 2000, 10}, {"1940,2000,1950", 2000, 10}, {"1940,1950,2000", 2000, 10}, {"2000,2000,1999", 2000, 1}, {"1880,2000", 2000, 120}, {"2000,1880", 2000, 120}, {exampleBorn, 1965, 5}, {"0,1", 1, 1}, {"0,120", 120, 120}, {"2900,2880,2900", 2900, 20},
		{exampleBorn, 1970, 5}, {exampleBorn, 2060, 5}, {"1950,1950", 2000, 50}, {allAlike, 2000, 30}, {tenBorn, 2020, 7}, {tenBorn, 2013, 7}, {"1988,1982,1970", 2000, 6}, {"1990,1985,1994", 2000, 1}, {"1952,1964", 2000, 12}, {"1964,1952", 2000, 12},
	} {
		n, ok := impl.SharedEvery(bornOf(c.born), c.year)
		wantInt(t, "SharedEvery "+c.born, n, ok, c.want)
	}
	for _, c := range []struct {
		born string
		year int
	}{
		// All are 0, or somebody does not count.
		{"0", 0}, {allFirst, 0}, {"2900", 2900}, {allLast, 2900}, {"1950,1950", 1950}, {allAlike, 1970}, {"0", 121}, {"0", 3000}, {"2900", 2899}, {"2900", 0}, {exampleBorn, 1964}, {exampleBorn, 1940}, {exampleBorn, 1939}, {exampleBorn, 0}, {exampleBorn, 2061}, {exampleBorn, 2071}, {exampleBorn, 2086}, {exampleBorn, 3000}, {"1879,1940", 2000}, {"1940,1879", 2000}, {"1940,2001", 2000}, {"2001,1940", 2000}, {"1940,2001,1950", 2000}, {"0,2900", 100}, {"0,2900", 3000}, {"1900,2021", 2020}, {"1900,2021", 2021}, {"2000,2001", 2000},
	} {
		n, ok := impl.SharedEvery(bornOf(c.born), c.year)
		wantNoInt(t, "SharedEvery of those who do not count or are 0 "+c.born, n, ok)
	}
}

func TestBestEveryEdges(t *testing.T) {
	for _, c := range []struct {
		born       string
		year, most int
		best, many int
	}{
		{exampleBorn, 2000, 100, 5, 3}, {exampleBorn, 2000, 5, 5, 3}, {exampleBorn, 2000, 4, 2, 2}, {exampleBorn, 2000, 2, 2, 2}, {exampleBorn, 2000, 3, 2, 2}, {"1940,1950", 2000, 100, 10, 2}, {"1940,1950", 2000, 9, 5, 2}, {"1940,1950", 2000, 10, 10, 2},
		// Several have the most.
		{"1940", 2000, 100, 60, 1}, {"1940", 2000, 59, 30, 1}, {"1940", 2000, 60, 60, 1}, {"1940", 2000, 7, 6, 1}, {"1880", 2000, 100, 60, 1}, {"1900", 2000, 100, 100, 1}, {"1900", 2000, 99, 50, 1}, {"1900,1950,1975", 2000, 100, 25, 3}, {"1990,1991", 2000, 100, 10, 1}, {"1990,1991", 2000, 9, 9, 1}, {"1990,1991", 2000, 8, 5, 1}, {"1991,1990", 2000, 100, 10, 1}, {allAlike, 2000, 100, 30, 10}, {allLast, 3000, 100, 100, 10}, {allFirst, 120, 100, 60, 10}, {tenBorn, 2020, 100, 7, 10}, {tenBorn, 2020, 6, 2, 5}, {"1988,1985,1982", 2000, 100, 3, 3}, {"1988,1985,1982", 2000, 2, 2, 2},
		// There are none: all up to most are equally good.
		{exampleBorn, 0, 100, 100, 0}, {exampleBorn, 1939, 2, 2, 0}, {exampleBorn, 1939, 7, 7, 0}, {exampleBorn, 1940, 100, 100, 0}, {exampleBorn, 1941, 100, 100, 0}, {exampleBorn, 2086, 50, 50, 0}, {"0", 0, 100, 100, 0}, {"0", 1, 100, 100, 0}, {"0", 2, 100, 2, 1}, {"0", 3, 2, 2, 0}, {"0", 3, 3, 3, 1}, {"0", 121, 100, 100, 0}, {"2900", 2900, 99, 99, 0}, {"1899", 2000, 100, 100, 0}, {"1899", 2000, 99, 99, 0}, {"1887", 2000, 100, 100, 0}, {"1999", 2000, 2, 2, 0},
		// Who is 0 has no jubilee, and who is MaxAge has one.
		{"2000,1997", 2000, 100, 3, 1}, {"2000,2000,1997", 2000, 2, 2, 0}, {"1880,1879", 2000, 100, 60, 1}, {"1879,1879,1998", 2000, 100, 2, 1},
	} {
		best, many, ok := impl.BestEvery(bornOf(c.born), c.year, c.most)
		wantTwo(t, "BestEvery "+c.born, best, many, ok, c.best, c.many)
	}
}

func TestAnniversariesEdges(t *testing.T) {
	for _, c := range []struct {
		start, from, to, every int
		want                   []int
	}{
		{1990, 2000, 2020, 10, ages(2000, 2010, 2020)}, {1990, 2001, 2019, 10, ages(2010)}, {1995, 2000, 2020, 25, ages(2020)}, {1995, 2000, 2019, 25, nil}, {1995, 2000, 2020, 10, ages(2005, 2015)}, {1990, 2000, 2000, 10, ages(2000)}, {1990, 2001, 2001, 10, nil}, {1990, 2000, 2003, 1, ages(2000, 2001, 2002, 2003)},
		// The start is the first, the last or no year of the span.
		{2000, 2000, 2020, 10, ages(2010, 2020)}, {2000, 2000, 2003, 1, ages(2001, 2002, 2003)}, {2000, 2000, 2000, 1, nil}, {2020, 2000, 2020, 10, nil}, {2020, 2000, 2020, 1, nil}, {2019, 2000, 2020, 1, ages(2020)}, {2010, 2000, 2020, 5, ages(2015, 2020)}, {2021, 2000, 2020, 1, nil}, {3000, 2000, 2020, 10, nil}, {2030, 2000, 2020, 10, nil}, {1999, 2000, 2020, 1, bornFrom(2000, 1, 21)},
		{0, 0, 199, 100, ages(100)}, {0, 0, 199, 99, ages(99, 198)}, {0, 0, 0, 1, nil}, {0, 1, 1, 1, ages(1)}, {0, 0, 199, 1, bornFrom(1, 1, 199)}, {0, 1, 200, 1, bornFrom(1, 1, 200)}, {0, 1, 200, 100, ages(100, 200)}, {0, 2801, 3000, 100, ages(2900, 3000)}, {0, 3000, 3000, 100, ages(3000)}, {1, 2801, 3000, 100, ages(2801, 2901)}, {2999, 2801, 3000, 1, ages(3000)}, {3000, 2801, 3000, 1, nil}, {3000, 3000, 3000, 1, nil}, {2900, 2801, 3000, 100, ages(3000)},
		// It is longer ago than MaxAge.
		{1000, 1900, 2099, 50, ages(1900, 1950, 2000, 2050)}, {1879, 2000, 2000, 11, ages(2000)}, {1, 2801, 3000, 70, ages(2801, 2871, 2941)},
	} {
		years, ok := impl.Anniversaries(c.start, c.from, c.to, c.every)
		wantInts(t, "Anniversaries", years, ok, c.want...)
	}
}

func TestDoubleYearEdges(t *testing.T) {
	for _, c := range []struct {
		born       string
		a, b, want int
	}{
		{exampleBorn, 0, 2, 1990}, {exampleBorn, 1, 2, 1980}, {"1950,1940", 1, 0, 1960},
		// b is just older than 0 then, or a is just MaxAge years old.
		{"1950,1951", 0, 1, 1952}, {"0,1", 0, 1, 2}, {"2899,2900", 0, 1, 2901}, {"1900,1960", 0, 1, 2020}, {"1960,1900", 1, 0, 2020}, {"0,60", 0, 1, 120}, {"2840,2900", 0, 1, 2960}, {"1900,1959", 0, 1, 2018}, {"0,0,0,0,0,0,0,0,0,7", 0, 9, 14}, {tenBorn, 0, 8, 2062}, {tenBorn, 8, 9, 2020},
		// Others do not count.
		{"1940,1950,0", 0, 1, 1960}, {"2900,1940,1950", 1, 2, 1960},
	} {
		year, ok := impl.DoubleYear(bornOf(c.born), c.a, c.b)
		wantInt(t, "DoubleYear "+c.born, year, ok, c.want)
	}
	for _, c := range []struct {
		born string
		a, b int
	}{
		// The same one, and those born in one year.
		{exampleBorn, 0, 0}, {exampleBorn, 1, 1}, {exampleBorn, 2, 2}, {"0", 0, 0}, {"2900", 0, 0}, {"1950,1950", 0, 1}, {"1950,1950", 1, 0}, {allAlike, 0, 9}, {allFirst, 1, 2}, {allLast, 9, 0},
		// The younger one is asked for as the one who is twice as old.
		{exampleBorn, 1, 0}, {exampleBorn, 2, 0}, {exampleBorn, 2, 1}, {"1950,1940", 0, 1}, {"0,1", 1, 0}, {"2899,2900", 1, 0}, {"0,2900", 1, 0}, {"1900,1960", 1, 0},
		// a does not count any longer.
		{"1900,1961", 0, 1}, {"1961,1900", 1, 0}, {"1900,2020", 0, 1}, {"1900,2021", 0, 1}, {"0,61", 0, 1}, {"0,2900", 0, 1}, {"2839,2900", 0, 1}, {tenBorn, 0, 9},
	} {
		year, ok := impl.DoubleYear(bornOf(c.born), c.a, c.b)
		wantNoInt(t, "DoubleYear that does not come "+c.born, year, ok)
	}
}

func TestDoubleYearOfNobodyFails(t *testing.T) {
	for _, text := range []string{"1950", "1940,1950", exampleBorn, tenBorn} {
		born := bornOf(text)
		for _, nobody := range ages(math.MinInt, math.MinInt+1, -len(born), -2, -1, len(born), len(born)+1, mostBorn, mostBorn+1, math.MaxInt-1, math.MaxInt) {
			for who := -1; who <= len(born); who++ {
				year, ok := impl.DoubleYear(born, nobody, who)
				wantNoInt(t, "DoubleYear of nobody "+text, year, ok)
				year, ok = impl.DoubleYear(born, who, nobody)
				wantNoInt(t, "DoubleYear of nobody "+text, year, ok)
			}
			year, ok := impl.DoubleYear(born, nobody, nobody)
			wantNoInt(t, "DoubleYear of nobody "+text, year, ok)
		}
	}
}

func TestOldestRoundEdges(t *testing.T) {
	for _, c := range []struct {
		born        string
		year, every int
		who, age    int
	}{
		{exampleBorn, 2000, 10, 0, 60}, {exampleBorn, 2000, 25, 1, 50}, {exampleBorn, 2000, 35, 2, 35}, {exampleBorn, 2000, 7, 2, 35}, {exampleBorn, 2000, 1, 0, 60}, {"1965,1950,1940", 2000, 10, 2, 60}, {"1965,1940,1950", 2000, 10, 1, 60}, {exampleBorn, 2005, 10, 2, 40},
		// The first one of several.
		{"1950,1950", 2000, 10, 0, 50}, {"1960,1950,1950", 2000, 10, 1, 50}, {"1950,1960,1950", 2000, 10, 0, 50}, {"1951,1960,1960", 2000, 10, 1, 40}, {allAlike, 2000, 30, 0, 30}, {allFirst, 120, 60, 0, 120}, {allLast, 3000, 100, 0, 100},
		// Somebody is 0, MaxAge or older.
		{"2000,1990", 2000, 10, 1, 10}, {"1880,1900", 2000, 60, 0, 120}, {"1880,1900", 2000, 100, 1, 100}, {"1900,1880", 2000, 20, 1, 120}, {"1870,1900", 2000, 10, 1, 100}, {"1879,1999", 2000, 1, 1, 1}, {exampleBorn, 1941, 1, 0, 1}, {exampleBorn, 2060, 60, 0, 120}, {exampleBorn, 2061, 1, 1, 111}, {exampleBorn, 2085, 60, 2, 120}, {"0", 1, 1, 0, 1}, {"2900", 3000, 1, 0, 100}, {"0,2900", 3000, 10, 1, 100}, {tenBorn, 2020, 7, 0, 70}, {tenBorn, 2020, 21, 1, 63}, {tenBorn, 2020, 8, 2, 56},
	} {
		who, age, ok := impl.OldestRound(bornOf(c.born), c.year, c.every)
		wantTwo(t, "OldestRound "+c.born, who, age, ok, c.who, c.age)
	}
	for _, c := range []struct {
		born        string
		year, every int
	}{
		{exampleBorn, 2001, 10}, {exampleBorn, 2000, 11}, {exampleBorn, 2000, 61}, {exampleBorn, 2000, 100}, {exampleBorn, 0, 1}, {exampleBorn, 1939, 1}, {exampleBorn, 1940, 1}, {exampleBorn, 2086, 1}, {exampleBorn, 3000, 1}, {"0", 0, 1}, {"0", 121, 1}, {"0", 3000, 10}, {"2900", 2900, 1}, {"2900", 2899, 1}, {"2900", 3000, 99}, {allFirst, 0, 1}, {allAlike, 2000, 31}, {allLast, 2999, 100}, {"1870", 2000, 10}, {"2000,2001", 2000, 1},
	} {
		who, age, ok := impl.OldestRound(bornOf(c.born), c.year, c.every)
		wantNoTwo(t, "OldestRound without a jubilee "+c.born, who, age, ok)
	}
}

func TestJoinBornEdges(t *testing.T) {
	for _, c := range []struct{ a, b, want string }{
		{"1940", "1950", "1940,1950"}, {"1950", "1940", "1950,1940"}, {"1950", "1950", "1950,1950"}, {"0", "2900", "0,2900"}, {"2900", "0", "2900,0"}, {exampleBorn, "1900,2000", "1940,1950,1965,1900,2000"}, {exampleBorn, exampleBorn, exampleBorn + "," + exampleBorn},
		// They are together just MaxBorn births.
		{"1,2,3,4,5,6,7,8,9", "10", "1,2,3,4,5,6,7,8,9,10"}, {"1", "2,3,4,5,6,7,8,9,10", "1,2,3,4,5,6,7,8,9,10"}, {"1,2,3,4,5", "6,7,8,9,10", "1,2,3,4,5,6,7,8,9,10"}, {"0,0,0,0,0", "0,0,0,0,0", allFirst}, {"2900,2900,2900", "2900,2900,2900,2900,2900,2900,2900", allLast},
	} {
		born, ok := impl.JoinBorn(bornOf(c.a), bornOf(c.b))
		wantInts(t, "JoinBorn "+c.a, born, ok, bornOf(c.want)...)
	}
	for count := 1; count <= mostBorn; count++ {
		for other := mostBorn + 1 - count; other <= mostBorn; other++ {
			born, ok := impl.JoinBorn(manyAges(count, 1970), manyAges(other, 1980))
			wantNone(t, "JoinBorn of too many", born, ok)
		}
		born, ok := impl.JoinBorn(manyAges(count, 1970), nil)
		wantNone(t, "JoinBorn and none", born, ok)
		born, ok = impl.JoinBorn(ages(), manyAges(count, 1970))
		wantNone(t, "JoinBorn of none", born, ok)
	}
	for _, bad := range badBorn() {
		for _, good := range [][]int{ages(1970), bornOf(exampleBorn), manyAges(mostBorn, 1970)} {
			born, ok := impl.JoinBorn(bad, good)
			wantNone(t, "JoinBorn of no births", born, ok)
			born, ok = impl.JoinBorn(good, bad)
			wantNone(t, "JoinBorn and no births", born, ok)
		}
		born, ok := impl.JoinBorn(bad, bad)
		wantNone(t, "JoinBorn of no births twice", born, ok)
	}
}

func TestBornTextEdges(t *testing.T) {
	for _, text := range goodTextsOfBorn() {
		got, ok := impl.BornText(bornOf(text))
		wantText(t, "BornText", got, ok, text)
		born, ok := impl.ParseBorn(text)
		wantInts(t, "ParseBorn "+text, born, ok, bornOf(text)...)
	}
	for _, born := range badBorn() {
		text, ok := impl.BornText(born)
		wantNoText(t, "BornText of no births", text, ok)
	}
}

func TestParseBornEdges(t *testing.T) {
	for _, text := range badTextsOfBorn() {
		if born, ok := impl.ParseBorn(text); ok || len(born) != 0 {
			t.Errorf("ParseBorn %q is %v, %v, not a failure", text, born, ok)
		}
	}
}

func TestBadSpansFail(t *testing.T) {
	for _, call := range roundCalls() {
		if place := slices.Index([]byte(call.told), 'f'); place >= 0 {
			for _, span := range badSpans() {
				for _, row := range toldRows(call.told, goodRoundNumbers) {
					row[place], row[place+1] = span[0], span[1]
					if ok, got := call.run(bornOf(exampleBorn), row); ok || !areZero(got) {
						t.Fatalf("%s of %v is %v, %v", call.name, row, got, ok)
					}
				}
			}
		}
	}
}
