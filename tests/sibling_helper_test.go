package tests

import (
	"math"
	"slices"
	"testing"
)

// The limits stand here, and below, as numbers of their own, so that a changed one is noticed.
const (
	greatestProduct = 160000
	greatestSum     = 80
)

// allLists are all lists of so many numbers from one to another one, in order.
func allLists(count int, least int, greatest int) [][]int {
	column := numbersWhen(least, greatest, func(int) bool { return true })
	return rowsOf(slices.Repeat([][]int{column}, count)...)
}

// isSet tells by the definition alone whether a list is a set.
func isSet(list []int) bool {
	for i, age := range list {
		if age < 1 || age > 20 || i > 0 && age < list[i-1] {
			return false
		}
	}
	return 1 <= len(list) && len(list) <= 4
}

// allSets are all sets of so many children, in order.
func allSets(children int) [][]int {
	return rowsWhen(allLists(children, 1, 20), isSet)
}

func rowsWhen(rows [][]int, holds func([]int) bool) [][]int {
	var found [][]int
	for _, row := range rows {
		if holds(row) {
			found = append(found, row)
		}
	}
	return found
}

func setsByNumber(sets [][]int, number func([]int) int) map[int][][]int {
	byNumber := map[int][][]int{}
	for _, set := range sets {
		byNumber[number(set)] = append(byNumber[number(set)], set)
	}
	return byNumber
}

// numbersOnce are numbers of sets, each once, increasing.
func numbersOnce(sets [][]int, number func([]int) int) []int {
	var found []int
	for _, set := range sets {
		if n := number(set); !slices.Contains(found, n) {
			found = append(found, n)
		}
	}
	slices.Sort(found)
	return found
}

func setsOfSum(sets [][]int, sum int) [][]int {
	return rowsWhen(sets, func(set []int) bool { return sumOf(set) == sum })
}

// hasOldest tells by the definition alone whether a child is older than each other one.
func hasOldest(set []int) bool {
	return isSomebody(set, func(age int, other int) bool { return age > other })
}

func hasYoungest(set []int) bool {
	return isSomebody(set, func(age int, other int) bool { return age < other })
}

func isSomebody(set []int, holds func(age int, other int) bool) bool {
	for i, age := range set {
		others := slices.Delete(slices.Clone(set), i, i+1)
		if !slices.ContainsFunc(others, func(other int) bool { return !holds(age, other) }) {
			return true
		}
	}
	return false
}

// openSums are those that two sets, or more, of all with a product have.
func openSums(sets [][]int) []int {
	return numbersWhen(1, greatestSum, func(sum int) bool { return len(setsOfSum(sets, sum)) >= 2 })
}

// toldSets goes from open sum to open sum, and then puts the sets in order.
func toldSets(sets [][]int, has func([]int) bool) [][]int {
	var told [][]int
	for _, sum := range openSums(sets) {
		if with := rowsWhen(setsOfSum(sets, sum), has); len(with) == 1 {
			told = append(told, with...)
		}
	}
	slices.SortFunc(told, slices.Compare[[]int])
	return told
}

func badChildren() []int {
	return ages(math.MinInt, math.MinInt+1, -4, -1, 0, 5, 6, 20, 1000000, math.MaxInt-1, math.MaxInt)
}

func badProducts() []int {
	return ages(math.MinInt, math.MinInt+1, math.MinInt+1000, -1000, -36, -1, 0, greatestProduct+1, greatestProduct+1000, math.MaxInt-1000, math.MaxInt-1, math.MaxInt)
}

func badSums() []int {
	return ages(math.MinInt, math.MinInt+1, -13, -1, 0, greatestSum+1, greatestSum+2, 1000000, math.MaxInt-1, math.MaxInt)
}

func badAparts() []int {
	return ages(math.MinInt, math.MinInt+1, -20, -1, 21, 22, 1000000, math.MaxInt-1, math.MaxInt)
}

// badProductRanges go down, are too long, or begin or end with what is no product.
func badProductRanges() [][]int {
	ranges := [][]int{{2, 1}, {37, 36}, {greatestProduct, 1}, {greatestProduct, greatestProduct - 1}, {1, 1002}, {1, 1003}, {1, greatestProduct}, {100, 1101}, {greatestProduct - 1001, greatestProduct}}
	for _, bad := range badProducts() {
		ranges = append(ranges, ages(bad, 1), ages(1, bad), ages(bad, 36), ages(36, bad), ages(bad, greatestProduct), ages(greatestProduct, bad), ages(bad, bad))
	}
	return append(ranges, ages(math.MinInt, math.MaxInt), ages(math.MaxInt, math.MinInt), ages(0, 1000), ages(greatestProduct-999, greatestProduct+1))
}

func goodSets() [][]int {
	return [][]int{
		{1}, {7}, {20}, {1, 1}, {1, 20}, {19, 20}, {20, 20}, {1, 1, 1}, {1, 6, 6}, {2, 2, 9}, {2, 3, 6}, {1, 6, 20}, {20, 20, 20},
		{1, 1, 1, 1}, {1, 1, 2, 2}, {1, 1, 2, 3}, {1, 2, 2, 3}, {1, 2, 3, 3}, {1, 2, 3, 4}, {3, 3, 3, 4}, {3, 4, 4, 4}, {5, 10, 15, 20}, {1, 20, 20, 20}, {20, 20, 20, 20},
	}
}

// badSets are lists of numbers that are no sets.
func badSets() [][]int {
	return [][]int{
		nil, {}, {0}, {-1}, {21}, {100}, {math.MinInt}, {math.MaxInt},
		{2, 1}, {20, 1}, {20, 19}, {0, 1}, {0, 0}, {1, 21}, {21, 21}, {-1, 1}, {math.MinInt, 1}, {1, math.MaxInt}, {math.MinInt, math.MaxInt}, {math.MaxInt, math.MinInt},
		{1, 3, 2}, {2, 1, 3}, {3, 2, 1}, {0, 6, 6}, {1, 6, 21}, {9, 2, 2}, {1, 2, 0}, {1, 2, math.MinInt},
		{1, 2, 4, 3}, {1, 3, 2, 4}, {2, 1, 3, 4}, {4, 3, 2, 1}, {0, 1, 2, 3}, {1, 2, 3, 21}, {20, 20, 20, 21}, {0, 0, 0, 0},
		{1, 1, 1, 1, 1}, {1, 2, 3, 4, 5}, {20, 20, 20, 20, 20}, manyAges(1000, 1),
	}
}

func wantNoBool(t *testing.T, call string, got bool, ok bool) {
	t.Helper()
	if ok || got {
		t.Errorf("%s is %v, %v, not a failure", call, got, ok)
	}
}
