package tests

import (
	"testing"

	"loop.example/g01369/impl"
)

// kindCalls are the functions of chapter 2 that take a kind, each with this one.
func kindCalls(kind string) []listCall {
	return []listCall{
		{"IsKind", 1, func(a []int, n []int) (bool, []any) { r, ok := impl.IsKind(n[0], kind); return results(ok, r) }},
		{"AgesOfKind", 0, func(a []int, n []int) (bool, []any) { r, ok := impl.AgesOfKind(kind); return results(ok, r) }},
		{"NextOfKind", 1, func(a []int, n []int) (bool, []any) { r, ok := impl.NextOfKind(n[0], kind); return results(ok, r) }},
		{"LongestWithout", 0, func(a []int, n []int) (bool, []any) {
			r, s, ok := impl.LongestWithout(kind)
			return results(ok, r, s)
		}},
	}
}

// kindListCalls are those that take ages as well.
func kindListCalls(kind string) []listCall {
	return []listCall{
		{"YearsAllKind", 0, func(a []int, n []int) (bool, []any) { r, ok := impl.YearsAllKind(a, kind); return results(ok, r) }},
		{"YearsMostKind", 0, func(a []int, n []int) (bool, []any) {
			r, s, ok := impl.YearsMostKind(a, kind)
			return results(ok, r, s)
		}},
		{"CountOfKind", 1, func(a []int, n []int) (bool, []any) { r, ok := impl.CountOfKind(a, n[0], kind); return results(ok, r) }},
		{"YearsSumKind", 0, func(a []int, n []int) (bool, []any) { r, ok := impl.YearsSumKind(a, kind); return results(ok, r) }},
		{"WhoOfKind", 0, func(a []int, n []int) (bool, []any) { r, ok := impl.WhoOfKind(a, kind); return results(ok, r) }},
	}
}

// turnedListCalls are those of chapter 2 that take ages and no kind.
func turnedListCalls() []listCall {
	return []listCall{
		{"YearsTurned", 2, func(a []int, n []int) (bool, []any) { r, ok := impl.YearsTurned(a, n[0], n[1]); return results(ok, r) }},
		{"YearsAlikeSums", 0, func(a []int, n []int) (bool, []any) { r, ok := impl.YearsAlikeSums(a); return results(ok, r) }},
	}
}

// birthCalls are those of chapter 2 that take numbers alone.
func birthCalls() []listCall {
	return []listCall{
		{"KindsOf", 1, func(a []int, n []int) (bool, []any) { r, ok := impl.KindsOf(n[0]); return results(ok, r) }},
		{"TurnedAge", 1, func(a []int, n []int) (bool, []any) { r, ok := impl.TurnedAge(n[0]); return results(ok, r) }},
		{"TurnedBetween", 1, func(a []int, n []int) (bool, []any) { r, ok := impl.TurnedBetween(n[0]); return results(ok, r) }},
		{"DigitSumOf", 1, func(a []int, n []int) (bool, []any) { r, ok := impl.DigitSumOf(n[0]); return results(ok, r) }},
		{"SquareYearOf", 1, func(a []int, n []int) (bool, []any) { r, ok := impl.SquareYearOf(n[0]); return results(ok, r) }},
		{"SquareBirths", 2, func(a []int, n []int) (bool, []any) { r, ok := impl.SquareBirths(n[0], n[1]); return results(ok, r) }},
		{"DigitYears", 1, func(a []int, n []int) (bool, []any) { r, ok := impl.DigitYears(n[0]); return results(ok, r) }},
		{"LastDigitsYear", 1, func(a []int, n []int) (bool, []any) { r, ok := impl.LastDigitsYear(n[0]); return results(ok, r) }},
		{"DividesYears", 3, func(a []int, n []int) (bool, []any) {
			r, ok := impl.DividesYears(n[0], n[1], n[2])
			return results(ok, r)
		}},
	}
}

func TestPromise11KindsAreTotal(t *testing.T) {
	for _, kind := range append(goodKinds(), badKinds()...) {
		holdTotal(t, kindListCalls(kind))
		holdTotalOf(t, kindCalls(kind), nil)
	}
	holdTotal(t, turnedListCalls())
	holdTotalOf(t, birthCalls(), nil)
}

func TestPromise11NoKindFails(t *testing.T) {
	for _, kind := range badKinds() {
		for _, call := range append(kindCalls(kind), kindListCalls(kind)...) {
			for _, list := range [][]int{{20}, {40, 12, 9}} {
				for _, numbers := range numberRows(call.numbers) {
					if ok, got := call.run(list, numbers); ok {
						t.Fatalf("%s of %v, %v and %q is %v", call.name, list, numbers, kind, got)
					}
				}
			}
		}
	}
}

func TestPromise11InvalidAgesOfKindsFail(t *testing.T) {
	for _, kind := range goodKinds() {
		for _, call := range kindListCalls(kind) {
			holdInvalidAgesFail(t, call)
		}
		for _, age := range append(badNumbers(), impl.MaxAge+1) {
			is, ok := impl.IsKind(age, kind)
			if is || ok {
				t.Errorf("IsKind of %d, %s is %v, %v", age, kind, is, ok)
			}
			n, ok := impl.NextOfKind(age, kind)
			wantNoInt(t, "NextOfKind of no age", n, ok)
		}
	}
	for _, call := range turnedListCalls() {
		holdInvalidAgesFail(t, call)
	}
	for _, age := range append(badNumbers(), impl.MaxAge+1) {
		text, ok := impl.KindsOf(age)
		if ok || text != "" {
			t.Errorf("KindsOf %d is %q, %v", age, text, ok)
		}
		n, ok := impl.DigitSumOf(age)
		wantNoInt(t, "DigitSumOf no age", n, ok)
	}
}

func TestPromise11KindsShareNoMemory(t *testing.T) {
	for _, kind := range goodKinds() {
		holdOwnMemory(t, kindListCalls(kind))
		holdOwnMemory(t, kindCalls(kind))
	}
	holdOwnMemory(t, turnedListCalls())
	holdOwnMemory(t, birthCalls())
	divides := birthCalls()[len(birthCalls())-1]
	holdOwnMemoryOf(t, divides, nil, ages(1971, 1971, 2091))
}
