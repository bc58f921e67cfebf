package tests

import (
	"math"
	"slices"
	"testing"

	"loop.example/g01369/impl"
)

// yearsTried reaches beyond all years that can be fit.
const yearsTried = impl.MaxAge + 5

func ages(numbers ...int) []int { return numbers }

func manyAges(count int, age int) []int { return slices.Repeat([]int{age}, count) }

func sameRows(a [][]int, b [][]int) bool { return slices.EqualFunc(a, b, slices.Equal[[]int]) }

func wantInt(t *testing.T, call string, got int, ok bool, want int) {
	t.Helper()
	if !ok || got != want {
		t.Errorf("%s is %d, %v, not %d", call, got, ok, want)
	}
}

func wantInts(t *testing.T, call string, got []int, ok bool, want ...int) {
	t.Helper()
	if !ok || !slices.Equal(got, want) {
		t.Errorf("%s is %v, %v, not %v", call, got, ok, want)
	}
}

func wantTwo(t *testing.T, call string, a int, b int, ok bool, wantA int, wantB int) {
	t.Helper()
	if !ok || a != wantA || b != wantB {
		t.Errorf("%s is %d, %d, %v, not %d, %d", call, a, b, ok, wantA, wantB)
	}
}

func wantRows(t *testing.T, call string, got [][]int, ok bool, want ...[]int) {
	t.Helper()
	if !ok || !sameRows(got, want) {
		t.Errorf("%s is %v, %v, not %v", call, got, ok, want)
	}
}

func wantNone[T any](t *testing.T, call string, got []T, ok bool) {
	t.Helper()
	if ok || len(got) != 0 {
		t.Errorf("%s is %v, %v, not a failure", call, got, ok)
	}
}

func wantNoInt(t *testing.T, call string, got int, ok bool) {
	t.Helper()
	if ok || got != 0 {
		t.Errorf("%s is %d, %v, not a failure", call, got, ok)
	}
}

func wantNoTwo(t *testing.T, call string, a int, b int, ok bool) {
	t.Helper()
	if ok || a != 0 || b != 0 {
		t.Errorf("%s is %d, %d, %v, not a failure", call, a, b, ok)
	}
}

// goodAges are lists of 1 to MaxPeople people, with the edges of ages, and people who are alike.
func goodAges() [][]int {
	lists := [][]int{
		{40, 12, 9}, {0, 120}, {120, 0, 60}, {41, 14}, {30, 20, 10}, {7, 7, 7}, {1, 2, 4, 8}, {60, 20, 20, 20},
		{120, 119, 118, 117}, {5, 50, 5, 50, 5}, {3, 1, 2, 3, 1, 2}, {10, 9, 8, 7, 6, 5, 4}, {90, 1, 2, 3, 4, 5, 6, 7},
		{119, 120, 119, 120, 118, 120, 119, 120}, manyAges(impl.MaxPeople, 0), manyAges(impl.MaxPeople, impl.MaxAge),
	}
	for _, a := range ages(0, 1, 2, 9, 59, 60, 119, 120) {
		lists = append(lists, ages(a))
		for _, b := range ages(0, 1, 3, 59, 119, 120) {
			lists = append(lists, ages(a, b), ages(a, b, 11))
		}
	}
	return lists
}

// badAges are lists of numbers that are no ages.
func badAges() [][]int {
	return [][]int{
		nil, {}, {-1}, {121}, {40, -1}, {121, 12}, {40, 12, 121}, {math.MinInt}, {math.MaxInt}, {math.MinInt, math.MaxInt}, {math.MaxInt, math.MaxInt},
		manyAges(impl.MaxPeople+1, 0), manyAges(impl.MaxPeople+1, 20), manyAges(1000, 1),
		append(manyAges(impl.MaxPeople-1, 20), -1), append(manyAges(impl.MaxPeople-1, 20), impl.MaxAge+1),
	}
}

// agesThen tells by the definition alone how old all are in some years, and whether these are fit.
func agesThen(list []int, years int) ([]int, bool) {
	then := make([]int, len(list))
	for i, age := range list {
		then[i] = age + years
		if then[i] < 0 || then[i] > impl.MaxAge {
			return nil, false
		}
	}
	return then, true
}

func sumOf(list []int) int {
	sum := 0
	for _, n := range list {
		sum += n
	}
	return sum
}

func productOf(list []int) int {
	product := 1
	for _, n := range list {
		product *= n
	}
	return product
}

// fitYearsWhen tells by trying all of them the fit years in which a condition holds.
func fitYearsWhen(list []int, holds func(then []int) bool) []int {
	var found []int
	for years := -yearsTried; years <= yearsTried; years++ {
		if then, fit := agesThen(list, years); fit && holds(then) {
			found = append(found, years)
		}
	}
	return found
}
