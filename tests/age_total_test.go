package tests

import (
	"math"
	"strings"
	"testing"

	"loop.example/g01369/impl"
)

func ageCalls() []listCall {
	return []listCall{
		{"AgesIn", 1, func(a []int, n []int) (bool, []any) { r, ok := impl.AgesIn(a, n[0]); return results(ok, r) }},
		{"SumIn", 1, func(a []int, n []int) (bool, []any) { r, ok := impl.SumIn(a, n[0]); return results(ok, r) }},
		{"ProductIn", 1, func(a []int, n []int) (bool, []any) { r, ok := impl.ProductIn(a, n[0]); return results(ok, r) }},
		{"YearsRange", 0, func(a []int, n []int) (bool, []any) { r, s, ok := impl.YearsRange(a); return results(ok, r, s) }},
		{"YearsToSum", 1, func(a []int, n []int) (bool, []any) { r, ok := impl.YearsToSum(a, n[0]); return results(ok, r) }},
		{"YearsToMean", 2, func(a []int, n []int) (bool, []any) { r, ok := impl.YearsToMean(a, n[0], n[1]); return results(ok, r) }},
		{"MeanAge", 0, func(a []int, n []int) (bool, []any) { r, s, ok := impl.MeanAge(a); return results(ok, r, s) }},
		{"TimesOlder", 2, func(a []int, n []int) (bool, []any) {
			r, s, ok := impl.TimesOlder(a, n[0], n[1])
			return results(ok, r, s)
		}},
		{"YearsOfMultiple", 3, func(a []int, n []int) (bool, []any) {
			r, ok := impl.YearsOfMultiple(a, n[0], n[1], n[2])
			return results(ok, r)
		}},
		{"AllMultiples", 2, func(a []int, n []int) (bool, []any) { r, ok := impl.AllMultiples(a, n[0], n[1]); return results(ok, r) }},
		{"YearsAsSum", 1, func(a []int, n []int) (bool, []any) { r, ok := impl.YearsAsSum(a, n[0]); return results(ok, r) }},
		{"YearsToProduct", 1, func(a []int, n []int) (bool, []any) { r, ok := impl.YearsToProduct(a, n[0]); return results(ok, r) }},
		{"OrderOfAges", 0, func(a []int, n []int) (bool, []any) { r, ok := impl.OrderOfAges(a); return results(ok, r) }},
		{"GapsOfAges", 0, func(a []int, n []int) (bool, []any) { r, ok := impl.GapsOfAges(a); return results(ok, r) }},
		{"AlikePairs", 0, func(a []int, n []int) (bool, []any) { r, ok := impl.AlikePairs(a); return results(ok, r) }},
		{"BirthYears", 1, func(a []int, n []int) (bool, []any) { r, ok := impl.BirthYears(a, n[0]); return results(ok, r) }},
		{"AgesOfBirths", 1, func(a []int, n []int) (bool, []any) { r, ok := impl.AgesOfBirths(a, n[0]); return results(ok, r) }},
		{"AddAge", 1, func(a []int, n []int) (bool, []any) { r, ok := impl.AddAge(a, n[0]); return results(ok, r) }},
		{"DropAge", 1, func(a []int, n []int) (bool, []any) { r, ok := impl.DropAge(a, n[0]); return results(ok, r) }},
		{"AgesText", 0, func(a []int, n []int) (bool, []any) { r, ok := impl.AgesText(a); return results(ok, r) }},
	}
}

func TestPromise11AgesAreTotal(t *testing.T) { holdTotal(t, ageCalls()) }

func TestPromise11InvalidAgesFail(t *testing.T) {
	for _, call := range ageCalls() {
		if call.name != "AgesOfBirths" {
			holdInvalidAgesFail(t, call)
		}
	}
}

func TestPromise11InvalidPeopleFail(t *testing.T) {
	for _, list := range [][]int{{20}, {40, 12, 9}, manyAges(impl.MaxPeople, 5)} {
		for _, who := range ages(math.MinInt, -1, len(list), len(list)+1, math.MaxInt) {
			for _, other := range ages(0, who) {
				for _, pair := range [][]int{{who, other}, {other, who}} {
					num, den, ok := impl.TimesOlder(list, pair[0], pair[1])
					wantNoTwo(t, "TimesOlder", num, den, ok)
					n, ok := impl.YearsOfMultiple(list, pair[0], pair[1], 2)
					wantNoInt(t, "YearsOfMultiple", n, ok)
					rows, ok := impl.AllMultiples(list, pair[0], pair[1])
					wantNone(t, "AllMultiples", rows, ok)
				}
			}
			n, ok := impl.YearsAsSum(list, who)
			wantNoInt(t, "YearsAsSum", n, ok)
			rest, ok := impl.DropAge(list, who)
			wantNone(t, "DropAge", rest, ok)
		}
	}
}

func TestPromise11AgesShareNoMemory(t *testing.T) { holdOwnMemory(t, ageCalls()) }

func TestPromise11ParseAges(t *testing.T) {
	for _, text := range []string{"", strings.Repeat("-", 100000), strings.Repeat("1", 100000), strings.Repeat("1-", 100000), strings.Repeat("0", 100000) + "1", "\x00\xff-\xfe"} {
		list, ok := impl.ParseAges(text)
		wantNone(t, "ParseAges of a long or broken text", list, ok)
	}
	first, _ := impl.ParseAges("40-12-9")
	for i := range whole(first) {
		whole(first)[i] = -spareMark
	}
	second, ok := impl.ParseAges("40-12-9")
	wantInts(t, "ParseAges once more", second, ok, 40, 12, 9)
}
