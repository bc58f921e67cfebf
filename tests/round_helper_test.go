package tests

import (
	"math"
	"slices"
	"strconv"
	"strings"
)

// The limits stand here, and below, as numbers of their own, so that a changed one is noticed.
const (
	mostBorn        = 10
	longestCalendar = 200
	greatestEvery   = 100
	greatestBirth   = 2900
	greatestAge     = 120
	greatestBornSum = 1000
)

const exampleBorn = "1940,1950,1965"

// bornOf reads a text that is known to be right.
func bornOf(text string) []int {
	var born []int
	for _, word := range strings.Split(text, ",") {
		year, _ := strconv.Atoi(word)
		born = append(born, year)
	}
	return born
}

// textOfBorn tells by the definition alone the text of births.
func textOfBorn(born []int) string {
	var text strings.Builder
	for i, birth := range born {
		if i > 0 {
			text.WriteByte(',')
		}
		text.WriteString(strconv.Itoa(birth))
	}
	return text.String()
}

// bornFrom are so many people of whom each one is born so many years behind the one before.
func bornFrom(first int, apart int, count int) []int {
	born := make([]int, count)
	for i := range born {
		born[i] = first + i*apart
	}
	return born
}

// goodBorn are births of 1 to MaxBorn people, the earliest and the latest ones, and some in one year.
func goodBorn() [][]int {
	lists := [][]int{
		ages(0), ages(1), ages(1900), ages(greatestBirth - 1), ages(greatestBirth), bornOf(exampleBorn), ages(1950, 1950), ages(1950, 1940), ages(0, 0, 1), ages(0, greatestBirth), ages(greatestBirth, 0),
		ages(1900, 2020), ages(1900, 2021), ages(1880, 1880, 1940, 2000), ages(2000, 1940, 1880, 1880), ages(greatestBirth, greatestBirth-1, greatestBirth-60), ages(1961, 1968, 1979, 1990, 2003),
		manyAges(mostBorn, 0), manyAges(mostBorn, 1970), manyAges(mostBorn, greatestBirth), bornFrom(0, 10, mostBorn), bornFrom(1950, 7, mostBorn), bornFrom(1750, 121, mostBorn), bornFrom(greatestBirth-81, 9, mostBorn), bornFrom(0, 322, mostBorn),
	}
	return append(lists, bornOf("1901,1987,1923,1923,1950,2000,1999,1875,1960,1932"))
}

// badBorn are lists that are too short or too long, or have in each place once what is no birth.
func badBorn() [][]int {
	lists := [][]int{nil, {}, manyAges(mostBorn+1, 0), manyAges(mostBorn+1, 1970), manyAges(mostBorn+1, greatestBirth), manyAges(mostBorn+2, 1970), manyAges(1000, 1970), bornFrom(1950, 10, mostBorn+1), bornFrom(1950, 10, mostBorn+2), {greatestBirth - 9, greatestBirth + 1}, {-9, 1}}
	for _, bad := range badBirthYears() {
		lists = append(lists, ages(bad), ages(bad, bad), ages(1970, bad), ages(bad, 1970), ages(1970, 1980, bad))
	}
	for place := range mostBorn {
		for _, bad := range ages(-1, greatestBirth+1, math.MinInt, math.MaxInt) {
			born := manyAges(mostBorn, 1970)
			born[place] = bad
			lists = append(lists, born)
		}
	}
	return lists
}

func badBirthYears() []int {
	return ages(math.MinInt, math.MinInt+1, math.MinInt+greatestAge, -1000000, -1970, -2, -1, greatestBirth+1, greatestBirth+2, greatestYear, 1000000, math.MaxInt-greatestAge, math.MaxInt-1, math.MaxInt)
}

func badEveries() []int {
	return ages(math.MinInt, math.MinInt+1, -1000000, -10, -2, -1, 0, greatestEvery+1, greatestEvery+2, 1000000, math.MaxInt-1, math.MaxInt)
}

// goodSpans are of one year up to MaxCalendar years, from the first to the last ones.
func goodSpans() [][]int {
	return [][]int{{0, 0}, {0, 1}, {0, longestCalendar - 1}, {1, longestCalendar}, {1900, 1900}, {1960, 1961}, {2000, 2010}, {1900, 2099}, {1999, 2021}, {2801, greatestYear}, {2802, greatestYear}, {greatestYear - 1, greatestYear}, {greatestYear, greatestYear}}
}

// badSpans are too long, go back, or reach what is no year.
func badSpans() [][]int {
	spans := [][]int{{0, longestCalendar}, {1, longestCalendar + 1}, {1900, 2100}, {2800, greatestYear}, {0, greatestYear}, {1, 0}, {2000, 1999}, {2010, 2000}, {greatestYear, greatestYear - 1}, {greatestYear, 0}, {-1, -1}, {greatestYear + 1, greatestYear + 1}, {math.MinInt, math.MaxInt}, {math.MaxInt, math.MinInt}, {math.MinInt, math.MinInt}, {math.MaxInt, math.MaxInt}}
	for _, bad := range badYears() {
		spans = append(spans, ages(bad, 0), ages(bad, 10), ages(0, bad), ages(greatestYear, bad), ages(bad, greatestYear), ages(2990, bad), ages(bad, bad))
	}
	return spans
}

func badSumsOfBorn() []int {
	return ages(math.MinInt, math.MinInt+1, -1000, -2, -1, 0, greatestBornSum+1, greatestBornSum+2, 1200, math.MaxInt-1, math.MaxInt)
}

func badMosts() []int {
	return ages(math.MinInt, math.MinInt+1, -10, -2, -1, 0, 1, greatestEvery+1, greatestEvery+2, 1000000, math.MaxInt-1, math.MaxInt)
}

func goodTextsOfBorn() []string {
	return []string{"0", "1", "9", "10", "1970", "2900", "0,0", "2900,2900", "0,2900", "1950,1940", exampleBorn, "5,50,500", "0,0,0,0,0,0,0,0,0,0", "2900,2900,2900,2900,2900,2900,2900,2900,2900,2900", "1,22,333,1444,2555,666,77,8,9,10"}
}

func badTextsOfBorn() []string {
	texts := []string{
		"", ",", ",,", ",,,,,,,,,", ",,,,,,,,,,", " ", ",1970", "1970,", ",1970,", "1970,,1980", "1970,1980,", ",1970,1980", "1970,,", ",,1970", "1970,,,1980", "0,", ",0", "0,,0",
		"1970 1980", "1970;1980", "1970.1980", "1970-1980", "1970:1980", "1970/1980", "1970|1980", "1970\n1980", "19701980", "1970,1980;1990",
		"00", "01", "01970", "001970", "0,00", "00,0", "1970,01980", "01970,1980", "1970,00", "-0", "+0", "+1970", "-1970", "-1", "1970,+1980", "1970,-1980", "+1970,1980", "1970,-0", "1970-", "1970+",
		" 1970", "1970 ", "1970, 1980", "1970 ,1980", "1970,1980 ", " 1970,1980", "19 70", "\t1970", "1970\t", "1970\n", "\n1970", "1970\r\n", "1970\x00", "\x001970", "1970,\n1980",
		"2901", "2910", "3000", "3001", "9999", "19700", "29000", "29001", "1970,2901", "2901,1970", "29010", "02900", "29011970",
		"9223372036854775807", "9223372036854775808", "-9223372036854775808", "18446744073709551616", "18446744073709551617", "18446744073709553586", "4294969266", "4294967296", "4294967297", "1970,18446744073709553586", "36893488147419103232", "340282366920938463463374607431768211456",
		"x", "1970x", "x1970", "19x70", "1970,x", "x,1970", "1970,19x80", "1e3", "0x10", "0b1", "0o7", "1_970", "1970.0", "1970,1980.0", "none", "born", "１９７０", "1970，1980", "1970、1980", "²", "½", "Ⅳ", "٣", "١٩٧٠", "\xff", "1970\xff", "\xff1970", "1970,\xff", "1970\xef\xbf\xbd", "1970,\xef\xbf\xbd",
		"0,0,0,0,0,0,0,0,0,0,0", "1,2,3,4,5,6,7,8,9,10,11", "1,2,3,4,5,6,7,8,9,10,", ",1,2,3,4,5,6,7,8,9,10", "1,2,3,4,5,6,7,8,9,10,x", "1,2,3,4,5,,6,7,8,9,10", "1,2,3,4,5,6,7,8,9,", "1,2,3,4,5,6,7,8,9,2901",
	}
	for sign := range 256 {
		if s := string([]byte{byte(sign)}); sign < '0' || sign > '9' {
			texts = append(texts, s, s+"1970", "1970"+s, "1970,"+s+"1980", "1970,1980"+s)
			if sign != ',' {
				texts = append(texts, "19"+s+"70", "1970"+s+"1980")
			}
		}
	}
	return texts
}

// agesByYear are for each year the ages of all people, -1 for those who do not count: everybody goes on from the birth, year by year.
func agesByYear(born []int) [][]int {
	years := make([][]int, greatestYear+1)
	for year := range years {
		years[year] = manyAges(len(born), -1)
	}
	for who, birth := range born {
		for age := 0; age <= greatestAge && birth+age <= greatestYear; age++ {
			years[birth+age][who] = age
		}
	}
	return years
}

// jubileesByYear are for each year all people with a round age, increasing: everybody goes on from one round age to the next one.
func jubileesByYear(born []int, every int) [][]int {
	years := make([][]int, greatestYear+1)
	for who, birth := range born {
		for age := every; age <= greatestAge && birth+age <= greatestYear; age += every {
			years[birth+age] = append(years[birth+age], who)
		}
	}
	return years
}

// sumsByYear are for each year the ages of all who count together.
func sumsByYear(born []int) []int {
	sums := make([]int, greatestYear+1)
	for year, row := range agesByYear(born) {
		for _, age := range row {
			sums[year] += max(age, 0)
		}
	}
	return sums
}

// isSomeMultiple tries the multiples greater than 0, one by one.
func isSomeMultiple(number int, every int) bool {
	multiple := every
	for multiple < number {
		multiple += every
	}
	return multiple == number
}

// mixedBorn are so many births that follow a rule without a pattern.
func mixedBorn(count int) [][]int {
	lists := [][]int{}
	z := 1
	next := func(below int) int {
		z = (z*299 + 811) % 10007
		return z % below
	}
	for range count {
		first := next(greatestBirth + 1)
		born := make([]int, 1+next(mostBorn))
		for i := range born {
			born[i] = min(first+next(150), greatestBirth)
		}
		lists = append(lists, born)
	}
	return lists
}

func triedBorn() [][]int { return slices.Concat(goodBorn(), mixedBorn(30)) }

// triedYears are the first and the last years, and those around each birth and around the last year in which somebody counts.
func triedYears(born []int) []int {
	years := ages(0, 1, greatestAge, greatestAge+1, 2000, 2021, greatestYear-1, greatestYear)
	for _, birth := range born {
		for _, age := range ages(-1, 0, 1, 2, 12, 30, 60, 99, 100, greatestAge-1, greatestAge, greatestAge+1) {
			years = append(years, min(max(birth+age, 0), greatestYear))
		}
	}
	slices.Sort(years)
	return slices.Compact(years)
}

func triedEveries() []int { return ages(1, 2, 3, 5, 7, 10, 12, 25, 60, 61, 99, greatestEvery) }

// spansOf are spans around some births, and those that are always tried.
func spansOf(born []int) [][]int {
	first := slices.Min(born)
	last := slices.Max(born)
	return append(goodSpans(), ages(first, first), ages(first, min(first+longestCalendar-1, greatestYear)), ages(max(first-20, 0), first+20), ages(last, min(last+greatestAge, greatestYear)), ages(min(last+greatestAge, greatestYear), min(last+greatestAge+3, greatestYear)))
}
