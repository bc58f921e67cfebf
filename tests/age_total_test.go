package tests

import (
	"math"
	"reflect"
	"slices"
	"strings"
	"testing"

	"loop.example/g01369/impl"
)

// An ageCall is one function of chapter 1 behind one face: ages, so many numbers, and results of which the last one is left out.
type ageCall struct {
	name    string
	numbers int
	run     func(list []int, n []int) (bool, []any)
}

func results(ok bool, list ...any) (bool, []any) { return ok, list }

func ageCalls() []ageCall {
	return []ageCall{
		{"AgesIn", 1, func(a []int, n []int) (bool, []any) { r, ok := impl.AgesIn(a, n[0]); return results(ok, r) }},
		{"SumIn", 1, func(a []int, n []int) (bool, []any) { r, ok := impl.SumIn(a, n[0]); return results(ok, r) }},
		{"ProductIn", 1, func(a []int, n []int) (bool, []any) { r, ok := impl.ProductIn(a, n[0]); return results(ok, r) }},
		{"YearsRange", 0, func(a []int, n []int) (bool, []any) { r, s, ok := impl.YearsRange(a); return results(ok, r, s) }},
		{"YearsToSum", 1, func(a []int, n []int) (bool, []any) { r, ok := impl.YearsToSum(a, n[0]); return results(ok, r) }},
		{"YearsToMean", 2, func(a []int, n []int) (bool, []any) { r, ok := impl.YearsToMean(a, n[0], n[1]); return results(ok, r) }},
		{"MeanAge", 0, func(a []int, n []int) (bool, []any) { r, s, ok := impl.MeanAge(a); return results(ok, r, s) }},
		{"TimesOlder", 2, func(a []int, n []int) (bool, []any) {
			r, s, ok := impl.TimesOlder(a, n[0], n[1])
			return results(ok, r, s)
		}},
		{"YearsOfMultiple", 3, func(a []int, n []int) (bool, []any) {
			r, ok := impl.YearsOfMultiple(a, n[0], n[1], n[2])
			return results(ok, r)
		}},
		{"AllMultiples", 2, func(a []int, n []int) (bool, []any) { r, ok := impl.AllMultiples(a, n[0], n[1]); return results(ok, r) }},
		{"YearsAsSum", 1, func(a []int, n []int) (bool, []any) { r, ok := impl.YearsAsSum(a, n[0]); return results(ok, r) }},
		{"YearsToProduct", 1, func(a []int, n []int) (bool, []any) { r, ok := impl.YearsToProduct(a, n[0]); return results(ok, r) }},
		{"OrderOfAges", 0, func(a []int, n []int) (bool, []any) { r, ok := impl.OrderOfAges(a); return results(ok, r) }},
		{"GapsOfAges", 0, func(a []int, n []int) (bool, []any) { r, ok := impl.GapsOfAges(a); return results(ok, r) }},
		{"AlikePairs", 0, func(a []int, n []int) (bool, []any) { r, ok := impl.AlikePairs(a); return results(ok, r) }},
		{"BirthYears", 1, func(a []int, n []int) (bool, []any) { r, ok := impl.BirthYears(a, n[0]); return results(ok, r) }},
		{"AgesOfBirths", 1, func(a []int, n []int) (bool, []any) { r, ok := impl.AgesOfBirths(a, n[0]); return results(ok, r) }},
		{"AddAge", 1, func(a []int, n []int) (bool, []any) { r, ok := impl.AddAge(a, n[0]); return results(ok, r) }},
		{"DropAge", 1, func(a []int, n []int) (bool, []any) { r, ok := impl.DropAge(a, n[0]); return results(ok, r) }},
		{"AgesText", 0, func(a []int, n []int) (bool, []any) { r, ok := impl.AgesText(a); return results(ok, r) }},
	}
}

// oddNumbers are those at the limits, beside them, and at the ends of an int.
func oddNumbers() []int {
	return ages(math.MinInt, math.MinInt+1, -impl.MaxAge-1, -impl.MaxAge, -1, 0, 1, 2, 3, 8, 20, 100, 101, impl.MaxAge, impl.MaxAge+1, 1990, impl.MaxYear, impl.MaxYear+1, 10000, 10001, math.MaxInt-1, math.MaxInt)
}

// numberRows are all rows of so many of the odd numbers.
func numberRows(count int) [][]int {
	rows := [][]int{{}}
	for range count {
		var longer [][]int
		for _, row := range rows {
			for _, n := range oddNumbers() {
				longer = append(longer, append(slices.Clone(row), n))
			}
		}
		rows = longer
	}
	return rows
}

const spareMark = 777777

// withSpare is a copy of a list with room behind it that nobody may touch.
func withSpare(list []int) []int {
	whole := append(slices.Clone(list), slices.Repeat([]int{spareMark}, 20)...)
	return whole[:len(list)]
}

func whole(list []int) []int { return list[:cap(list)] }

func areZero(list []any) bool {
	for _, r := range list {
		v := reflect.ValueOf(r)
		if v.Kind() == reflect.Slice && v.Len() > 0 || v.Kind() != reflect.Slice && !v.IsZero() {
			return false
		}
	}
	return true
}

// slicesOf are all slices of numbers among some results.
func slicesOf(list []any) [][]int {
	var found [][]int
	for _, r := range list {
		switch x := r.(type) {
		case []int:
			found = append(found, x)
		case [][]int:
			found = append(found, x...)
		}
	}
	return found
}

func listsForCalls() [][]int {
	return append(badAges(), ages(0), ages(120), ages(20), ages(40, 12, 9), ages(0, 120), ages(7, 7, 3, 7), ages(1985, 1990), manyAges(impl.MaxPeople, 0), manyAges(impl.MaxPeople, impl.MaxAge), manyAges(impl.MaxPeople, 5))
}

func TestPromise11NoPanicAndNothingChanged(t *testing.T) {
	for _, call := range ageCalls() {
		for _, list := range listsForCalls() {
			for _, numbers := range numberRows(call.numbers) {
				given := withSpare(list)
				before := slices.Clone(whole(given))
				ok, got := call.run(given, numbers)
				if !slices.Equal(before, whole(given)) {
					t.Fatalf("%s of %v and %v changed its argument", call.name, list, numbers)
				}
				if !ok && !areZero(got) {
					t.Fatalf("%s of %v and %v fails with %v", call.name, list, numbers, got)
				}
			}
		}
	}
}

func TestPromise11InvalidAgesFail(t *testing.T) {
	for _, call := range ageCalls() {
		if call.name == "AgesOfBirths" {
			continue
		}
		for _, list := range badAges() {
			for _, numbers := range numberRows(call.numbers) {
				if ok, got := call.run(list, numbers); ok {
					t.Fatalf("%s of %v and %v is %v", call.name, list, numbers, got)
				}
			}
		}
	}
}

func TestPromise11InvalidPeopleFail(t *testing.T) {
	for _, list := range [][]int{{20}, {40, 12, 9}, manyAges(impl.MaxPeople, 5)} {
		for _, who := range ages(math.MinInt, -1, len(list), len(list)+1, math.MaxInt) {
			for _, other := range ages(0, who) {
				for _, pair := range [][]int{{who, other}, {other, who}} {
					num, den, ok := impl.TimesOlder(list, pair[0], pair[1])
					wantNoTwo(t, "TimesOlder", num, den, ok)
					n, ok := impl.YearsOfMultiple(list, pair[0], pair[1], 2)
					wantNoInt(t, "YearsOfMultiple", n, ok)
					rows, ok := impl.AllMultiples(list, pair[0], pair[1])
					wantNone(t, "AllMultiples", rows, ok)
				}
			}
			n, ok := impl.YearsAsSum(list, who)
			wantNoInt(t, "YearsAsSum", n, ok)
			rest, ok := impl.DropAge(list, who)
			wantNone(t, "DropAge", rest, ok)
		}
	}
}

func TestPromise11ResultsShareNoMemory(t *testing.T) {
	lists := [][]int{{40, 12, 9}, {20}, {7, 7, 3, 7}, {60, 20, 20, 20}, manyAges(impl.MaxPeople, 5), {1880, 1960}}
	for _, call := range ageCalls() {
		for _, list := range lists {
			for _, numbers := range numberRows(min(call.numbers, 2)) {
				if call.numbers > len(numbers) {
					numbers = append(numbers, 2)
				}
				holdOwnMemory(t, call, list, numbers)
			}
		}
	}
}

// holdOwnMemory writes all over each slice of a result, with the room behind it, and looks for the marks elsewhere.
func holdOwnMemory(t *testing.T, call ageCall, list []int, numbers []int) {
	t.Helper()
	given := withSpare(list)
	before := slices.Clone(whole(given))
	_, got := call.run(given, numbers)
	_, again := call.run(given, numbers)
	if !reflect.DeepEqual(got, again) {
		t.Fatalf("%s of %v and %v is %v, and then %v", call.name, list, numbers, got, again)
	}
	parts := slicesOf(got)
	for i, part := range parts {
		others := slices.Concat(slices.Delete(slices.Clone(parts), i, i+1)...)
		for k := range whole(part) {
			whole(part)[k] = -spareMark
		}
		if !slices.Equal(others, slices.Concat(slices.Delete(slices.Clone(parts), i, i+1)...)) {
			t.Fatalf("%s of %v and %v: two results share memory", call.name, list, numbers)
		}
	}
	if !slices.Equal(before, whole(given)) {
		t.Fatalf("%s of %v and %v: a result shares memory with an argument", call.name, list, numbers)
	}
	if _, after := call.run(given, numbers); !reflect.DeepEqual(after, again) {
		t.Fatalf("%s of %v and %v: a result shares memory with a later one", call.name, list, numbers)
	}
}

func TestPromise11ParseAges(t *testing.T) {
	for _, text := range []string{"", strings.Repeat("-", 100000), strings.Repeat("1", 100000), strings.Repeat("1-", 100000), strings.Repeat("0", 100000) + "1", "\x00\xff-\xfe"} {
		list, ok := impl.ParseAges(text)
		wantNone(t, "ParseAges of a long or broken text", list, ok)
	}
	first, _ := impl.ParseAges("40-12-9")
	for i := range whole(first) {
		whole(first)[i] = -spareMark
	}
	second, ok := impl.ParseAges("40-12-9")
	wantInts(t, "ParseAges once more", second, ok, 40, 12, 9)
}
