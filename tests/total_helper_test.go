package tests

import (
	"math"
	"reflect"
	"slices"
	"testing"

	"loop.example/g01369/impl"
)

// A listCall is one function behind one face: a list, such as ages, if it takes one, so many numbers, and results of which the last one is left out.
type listCall struct {
	name    string
	numbers int
	run     func(list []int, n []int) (bool, []any)
}

func results(ok bool, list ...any) (bool, []any) { return ok, list }

// oddNumbers are those at the limits, beside them, and at the ends of an int.
func oddNumbers() []int {
	return ages(math.MinInt, math.MinInt+1, -impl.MaxAge-1, -impl.MaxAge, -1, 0, 1, 2, 3, 8, 9, 10, 20, 27, 99, 100, 101, impl.MaxAge, impl.MaxAge+1, 1990, impl.MaxBirth, impl.MaxBirth+1, impl.MaxYear, impl.MaxYear+1, 10000, 10001, math.MaxInt-1, math.MaxInt)
}

// rowsOf are all rows with one out of each column, in order.
func rowsOf[T any](columns ...[]T) [][]T {
	rows := [][]T{{}}
	for _, column := range columns {
		var longer [][]T
		for _, row := range rows {
			for _, one := range column {
				longer = append(longer, append(slices.Clone(row), one))
			}
		}
		rows = longer
	}
	return rows
}

// numberRows are all rows of so many of the odd numbers.
func numberRows(count int) [][]int { return rowsOf(slices.Repeat([][]int{oddNumbers()}, count)...) }

const spareMark = 777777

// withSpare is a copy of a list with room behind it, full of marks, that nobody may touch.
func withSpare[T any](list []T, mark T) []T {
	whole := append(slices.Clone(list), slices.Repeat([]T{mark}, 20)...)
	return whole[:len(list)]
}

func whole[T any](list []T) []T { return list[:cap(list)] }

func areZero(list []any) bool {
	for _, r := range list {
		v := reflect.ValueOf(r)
		if v.Kind() == reflect.Slice && v.Len() > 0 || v.Kind() != reflect.Slice && !v.IsZero() {
			return false
		}
	}
	return true
}

// slicesOf are all slices of numbers among some results.
func slicesOf(list []any) [][]int {
	var found [][]int
	for _, r := range list {
		switch x := r.(type) {
		case []int:
			found = append(found, x)
		case [][]int:
			found = append(found, x...)
		}
	}
	return found
}

func listsForCalls() [][]int {
	return append(badAges(), ages(0), ages(120), ages(20), ages(40, 12, 9), ages(0, 120), ages(7, 7, 3, 7), ages(1985, 1990), manyAges(impl.MaxPeople, 0), manyAges(impl.MaxPeople, impl.MaxAge), manyAges(impl.MaxPeople, 5))
}

// holdTotal holds each call against promise 11: it does not panic, changes no argument, and fails with zero results.
func holdTotal(t *testing.T, calls []listCall) {
	t.Helper()
	for _, list := range listsForCalls() {
		holdTotalOf(t, calls, list)
	}
}

func holdTotalOf(t *testing.T, calls []listCall, list []int) {
	t.Helper()
	for _, call := range calls {
		for _, numbers := range numberRows(call.numbers) {
			holdTotalRun(t, call.name, numbers, list, spareMark, func(given []int) (bool, []any) { return call.run(given, numbers) })
		}
	}
}

// holdTotalRun holds one run against promise 11, in which a function takes a list; what else it is told is there for the message.
func holdTotalRun[T comparable](t *testing.T, name string, told any, list []T, mark T, run func([]T) (bool, []any)) {
	t.Helper()
	given := withSpare(list, mark)
	before := slices.Clone(whole(given))
	ok, got := run(given)
	if !slices.Equal(before, whole(given)) {
		t.Fatalf("%s of %v and %v changed its argument", name, list, told)
	}
	if !ok && !areZero(got) {
		t.Fatalf("%s of %v and %v fails with %v", name, list, told, got)
	}
}

func holdInvalidAgesFail(t *testing.T, call listCall) {
	t.Helper()
	for _, list := range badAges() {
		for _, numbers := range numberRows(call.numbers) {
			if ok, got := call.run(list, numbers); ok {
				t.Fatalf("%s of %v and %v is %v", call.name, list, numbers, got)
			}
		}
	}
}

// holdOwnMemory holds each call against promise 11: no two slices, of results or arguments, share memory.
func holdOwnMemory(t *testing.T, calls []listCall) {
	t.Helper()
	lists := [][]int{{40, 12, 9}, {20}, {7, 7, 3, 7}, {60, 20, 20, 20}, {41, 14}, manyAges(impl.MaxPeople, 5), {1880, 1960}}
	for _, call := range calls {
		for _, list := range lists {
			for _, numbers := range numberRows(min(call.numbers, 2)) {
				if call.numbers > len(numbers) {
					numbers = append(numbers, 2)
				}
				holdOwnMemoryOf(t, call, list, numbers)
			}
		}
	}
}

func holdOwnMemoryOf(t *testing.T, call listCall, list []int, numbers []int) {
	t.Helper()
	holdOwnMemoryRun(t, call.name, numbers, list, spareMark, func(given []int) (bool, []any) { return call.run(given, numbers) })
}

// holdOwnMemoryRun writes all over each slice of a result, with the room behind it, and looks for the marks elsewhere.
func holdOwnMemoryRun[T comparable](t *testing.T, name string, told any, list []T, mark T, run func([]T) (bool, []any)) {
	t.Helper()
	given := withSpare(list, mark)
	before := slices.Clone(whole(given))
	_, got := run(given)
	_, again := run(given)
	if !reflect.DeepEqual(got, again) {
		t.Fatalf("%s of %v and %v is %v, and then %v", name, list, told, got, again)
	}
	parts := slicesOf(got)
	for i, part := range parts {
		others := slices.Concat(slices.Delete(slices.Clone(parts), i, i+1)...)
		for k := range whole(part) {
			whole(part)[k] = -spareMark
		}
		if !slices.Equal(others, slices.Concat(slices.Delete(slices.Clone(parts), i, i+1)...)) {
			t.Fatalf("%s of %v and %v: two results share memory", name, list, told)
		}
	}
	if !slices.Equal(before, whole(given)) {
		t.Fatalf("%s of %v and %v: a result shares memory with an argument", name, list, told)
	}
	if _, after := run(given); !reflect.DeepEqual(after, again) {
		t.Fatalf("%s of %v and %v: a result shares memory with a later one", name, list, told)
	}
}
