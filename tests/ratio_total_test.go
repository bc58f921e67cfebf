package tests

import (
	"math"
	"slices"
	"strings"
	"testing"

	"loop.example/g01369/impl"
)

// A ratioCall is one function of chapter 7 that takes so many ratios, one by one, and numbers. Told has a letter for each number: a for an age, s for a sum, g for a gap, y for years, l for those from now on.
type ratioCall struct {
	name   string
	ratios int
	told   string
	run    func(r []impl.Ratio, n []int) (bool, []any)
}

func ratioCalls() []ratioCall {
	return []ratioCall{
		{"IsRatio", 1, "", func(r []impl.Ratio, n []int) (bool, []any) { return results(impl.IsRatio(r[0])) }},
		{"YearsUntilRatio", 1, "aa", func(r []impl.Ratio, n []int) (bool, []any) {
			a, b, ok := impl.YearsUntilRatio(n[0], n[1], r[0])
			return results(ok, a, b)
		}},
		{"AgesFromSum", 1, "s", func(r []impl.Ratio, n []int) (bool, []any) {
			a, b, by, ok := impl.AgesFromSum(n[0], r[0])
			return results(ok, a, b, by)
		}},
		{"AgesFromGap", 1, "g", func(r []impl.Ratio, n []int) (bool, []any) {
			a, b, by, ok := impl.AgesFromGap(n[0], r[0])
			return results(ok, a, b, by)
		}},
		{"AgesFromTwo", 2, "g", func(r []impl.Ratio, n []int) (bool, []any) {
			a, b, by, ok := impl.AgesFromTwo(r[0], r[1], n[0])
			return results(ok, a, b, by)
		}},
		{"AgesFromThen", 2, "yy", func(r []impl.Ratio, n []int) (bool, []any) {
			a, b, by, ok := impl.AgesFromThen(r[0], r[1], n[0], n[1])
			return results(ok, a, b, by)
		}},
		{"RatiosInYears", 0, "aal", func(r []impl.Ratio, n []int) (bool, []any) {
			list, ok := impl.RatiosInYears(n[0], n[1], n[2])
			return results(ok, list)
		}},
		{"WholeRatioYears", 0, "aa", func(r []impl.Ratio, n []int) (bool, []any) {
			list, ok := impl.WholeRatioYears(n[0], n[1])
			return results(ok, list)
		}},
		{"NearestYear", 1, "aa", func(r []impl.Ratio, n []int) (bool, []any) {
			years, ok := impl.NearestYear(n[0], n[1], r[0])
			return results(ok, years)
		}},
		{"SameRatioYear", 0, "aaaa", func(r []impl.Ratio, n []int) (bool, []any) {
			a, b, ok := impl.SameRatioYear(n[0], n[1], n[2], n[3])
			return results(ok, a, b)
		}},
		{"BothMultiples", 0, "aaa", func(r []impl.Ratio, n []int) (bool, []any) {
			list, ok := impl.BothMultiples(n[0], n[1], n[2])
			return results(ok, list)
		}},
		{"TurnRatio", 1, "", func(r []impl.Ratio, n []int) (bool, []any) {
			turned, ok := impl.TurnRatio(r[0])
			return results(ok, turned)
		}},
	}
}

// A chainCall is one function of chapter 7 that takes a list of ratios, and numbers behind it: s for a sum, m for years of a life, k for a part.
type chainCall struct {
	name string
	told string
	run  func(list []impl.Ratio, n []int) (bool, []any)
}

func chainCalls() []chainCall {
	return []chainCall{
		{"AgesOfChain", "s", func(list []impl.Ratio, n []int) (bool, []any) {
			r, ok := impl.AgesOfChain(list, n[0])
			return results(ok, r)
		}},
		{"LeastChain", "", func(list []impl.Ratio, n []int) (bool, []any) { r, ok := impl.LeastChain(list); return results(ok, r) }},
		{"LifeOf", "m", func(list []impl.Ratio, n []int) (bool, []any) {
			a, b, ok := impl.LifeOf(list, n[0])
			return results(ok, a, b)
		}},
		{"YearsOfPart", "mk", func(list []impl.Ratio, n []int) (bool, []any) {
			a, b, ok := impl.YearsOfPart(list, n[0], n[1])
			return results(ok, a, b)
		}},
		{"WholeLives", "", func(list []impl.Ratio, n []int) (bool, []any) { r, ok := impl.WholeLives(list); return results(ok, r) }},
		{"RatiosText", "", func(list []impl.Ratio, n []int) (bool, []any) { r, ok := impl.RatiosText(list); return results(ok, r) }},
	}
}

func spareRatio() impl.Ratio { return ratio(spareMark, spareMark) }

func goodRatioNumbers(letter byte) []int {
	switch letter {
	case 'a':
		return ages(0, 1, 2, 12, 40, 119, 120)
	case 's':
		return ages(1, 2, 6, 7, 60, 101, 999, 1000)
	case 'g':
		return ages(-120, -119, -1, 1, 28, 119, 120)
	case 'y':
		return ages(1, 2, 59, 60, 61, 119, 120)
	case 'l':
		return ages(0, 1, 2, 19, 20)
	case 'm':
		return ages(1, 2, 9, 100, 199, 200)
	}
	return ages(0)
}

func badRatioNumbers(letter byte) []int {
	ends := ages(math.MinInt, math.MinInt+1, math.MinInt+greatestLife, math.MaxInt-greatestLife, math.MaxInt-1, math.MaxInt, -1000000, 1000000)
	switch letter {
	case 'a':
		return append(ends, -120, -2, -1, 121, 122)
	case 's':
		return append(ends, -60, -1, 0, greatestRatioSum+1, greatestRatioSum+2)
	case 'g':
		return append(ends, -122, -121, 0, 121, 122)
	case 'y':
		return append(ends, -5, -1, 0, 121, 122)
	case 'l':
		return append(ends, -2, -1, 21, 22)
	case 'm':
		return append(ends, -9, -1, 0, greatestLife+1, greatestLife+2)
	}
	return append(ends, -6, -2, -1, longestChain, longestChain+1)
}

// manyRows are all rows of so many ratios.
func manyRows(count int, list []impl.Ratio) [][]impl.Ratio {
	return rowsOf(slices.Repeat([][]impl.Ratio{list}, count)...)
}

func TestPromise11RatiosAreTotal(t *testing.T) {
	for _, call := range ratioCalls() {
		for _, ratios := range manyRows(call.ratios, append(badRatios(), ratiosOf("1:1,2:1,1:2,4:2,100:99,100:1")...)) {
			// There are so many rows of two ratios that some of the numbers are enough for each.
			for i, row := range numberRows(len(call.told)) {
				if call.ratios == 2 && i%9 != 0 {
					continue
				}
				holdTotalRun(t, call.name, row, ratios, spareRatio(), func(given []impl.Ratio) (bool, []any) { return call.run(given, row) })
			}
		}
	}
	for _, call := range chainCalls() {
		for _, list := range append(goodChains(), badChains()...) {
			for _, row := range numberRows(len(call.told)) {
				holdTotalRun(t, call.name, row, list, spareRatio(), func(given []impl.Ratio) (bool, []any) { return call.run(given, row) })
			}
		}
	}
}

func TestPromise11InvalidRatiosFail(t *testing.T) {
	for _, call := range ratioCalls() {
		for place := range call.ratios {
			for _, ratios := range manyRows(call.ratios, ratiosOf("1:1,2:1,3:1,1:3,100:99")) {
				for _, ratios[place] = range badRatios() {
					for _, row := range toldRows(call.told, goodRatioNumbers) {
						if ok, got := call.run(ratios, row); ok || !areZero(got) {
							t.Fatalf("%s of %v and %v is %v, %v", call.name, ratios, row, got, ok)
						}
					}
				}
			}
		}
	}
	for _, call := range chainCalls() {
		for _, list := range badChains() {
			for _, row := range toldRows(call.told, goodRatioNumbers) {
				if ok, got := call.run(list, row); ok || !areZero(got) {
					t.Fatalf("%s of %v and %v is %v, %v", call.name, list, row, got, ok)
				}
			}
		}
	}
}

func TestPromise11InvalidRatioNumbersFail(t *testing.T) {
	for _, call := range ratioCalls() {
		for place := range len(call.told) {
			for _, ratios := range manyRows(call.ratios, ratiosOf("1:1,2:1,3:1,1:3,100:99")) {
				for _, row := range toldRows(call.told, goodRatioNumbers) {
					for _, row[place] = range badRatioNumbers(call.told[place]) {
						if ok, got := call.run(ratios, row); ok || !areZero(got) {
							t.Fatalf("%s of %v and %v is %v, %v", call.name, ratios, row, got, ok)
						}
					}
				}
			}
		}
	}
	for _, call := range chainCalls() {
		for place := range len(call.told) {
			for _, list := range goodChains() {
				for _, row := range toldRows(call.told, goodRatioNumbers) {
					for _, row[place] = range badRatioNumbers(call.told[place]) {
						if ok, got := call.run(list, row); ok || !areZero(got) {
							t.Fatalf("%s of %v and %v is %v, %v", call.name, list, row, got, ok)
						}
					}
				}
			}
		}
	}
}

func TestPromise11ValidRatiosSucceed(t *testing.T) {
	for _, call := range ratioCalls() {
		if !slices.Contains([]string{"IsRatio", "AgesFromSum", "WholeRatioYears", "NearestYear", "BothMultiples", "TurnRatio"}, call.name) {
			continue
		}
		for _, ratios := range manyRows(call.ratios, goodRatios()) {
			for _, row := range toldRows(call.told, goodRatioNumbers) {
				// Two ages alone must be different ones.
				if call.told == "aa" && row[0] == row[1] {
					continue
				}
				if ok, _ := call.run(ratios, row); !ok {
					t.Fatalf("%s of %v and %v fails", call.name, ratios, row)
				}
			}
		}
	}
	for _, call := range chainCalls() {
		for _, list := range goodChains() {
			// Parts must leave something of a life, and AgesOfChain fails where ages are not whole.
			if call.name == "AgesOfChain" || strings.HasPrefix(call.told, "m") && !leaveSomething(list) || call.name == "WholeLives" && !leaveSomething(list) {
				continue
			}
			for _, row := range toldRows(call.told, goodRatioNumbers) {
				if ok, _ := call.run(list, row); !ok {
					t.Fatalf("%s of %v and %v fails", call.name, list, row)
				}
			}
		}
	}
}

func TestPromise11RatiosShareNoMemory(t *testing.T) {
	for _, call := range ratioCalls() {
		for _, ratios := range manyRows(call.ratios, ratiosOf("1:1,2:1,3:1,1:3,100:99")) {
			for _, row := range toldRows(call.told, goodRatioNumbers) {
				holdOwnMemoryRun(t, call.name, row, ratios, spareRatio(), func(given []impl.Ratio) (bool, []any) { return call.run(given, row) })
			}
		}
	}
	for _, call := range chainCalls() {
		for _, list := range goodChains() {
			for _, row := range toldRows(call.told, goodRatioNumbers) {
				holdOwnMemoryRun(t, call.name, row, list, spareRatio(), func(given []impl.Ratio) (bool, []any) { return call.run(given, row) })
			}
		}
	}
}

// The lists of ratios that come out are written over, and must come out again as they were.
func TestPromise11ListsOfRatiosShareNoMemory(t *testing.T) {
	for _, call := range []func() ([]impl.Ratio, bool){
		func() ([]impl.Ratio, bool) { return impl.RatiosInYears(40, 12, 20) },
		func() ([]impl.Ratio, bool) { return impl.RatiosInYears(1, 1, 20) },
		func() ([]impl.Ratio, bool) { return impl.ParseRatios(exampleParts) },
		func() ([]impl.Ratio, bool) { return impl.ParseRatios("1:1") },
	} {
		first, ok := call()
		want := slices.Clone(first)
		for i := range whole(first) {
			whole(first)[i] = spareRatio()
		}
		second, again := call()
		if ok != again || !slices.Equal(second, want) {
			t.Errorf("once more it is %v, %v, not %v, %v", second, again, want, ok)
		}
	}
}

func TestPromise11ParseRatios(t *testing.T) {
	for _, text := range []string{strings.Repeat(",", 100000), strings.Repeat(":", 100000), strings.Repeat("1", 100000), strings.Repeat("1:1,", 100000), strings.Repeat("1:", 100000) + "1", strings.Repeat("0", 100000) + "1:1", "1:" + strings.Repeat("0", 100000) + "1", "1:1" + strings.Repeat(" ", 100000), "\x00\xff:\xfe,\xfd"} {
		list, ok := impl.ParseRatios(text)
		wantNone(t, "ParseRatios of a long or broken text", list, ok)
	}
}
