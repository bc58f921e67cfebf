package tests

import (
	"strings"
	"testing"

	"loop.example/g01369/impl"
)

// A toldCall is one function of chapter 4 that takes numbers alone. Told has a letter for each of them: c for children, p for a product, s for a sum, a for apart.
type toldCall struct {
	name string
	told string
	run  func(n []int) (bool, []any)
}

func toldCalls() []toldCall {
	return []toldCall{
		{"SetsOfProduct", "cp", func(n []int) (bool, []any) { r, ok := impl.SetsOfProduct(n[0], n[1]); return results(ok, r) }},
		{"CountSets", "cp", func(n []int) (bool, []any) { r, ok := impl.CountSets(n[0], n[1]); return results(ok, r) }},
		{"SumsOfProduct", "cp", func(n []int) (bool, []any) { r, ok := impl.SumsOfProduct(n[0], n[1]); return results(ok, r) }},
		{"SetsOfBoth", "cps", func(n []int) (bool, []any) { r, ok := impl.SetsOfBoth(n[0], n[1], n[2]); return results(ok, r) }},
		{"DoesTell", "cps", func(n []int) (bool, []any) { r, ok := impl.DoesTell(n[0], n[1], n[2]); return results(ok, r) }},
		{"OpenSums", "cp", func(n []int) (bool, []any) { r, ok := impl.OpenSums(n[0], n[1]); return results(ok, r) }},
		{"ToldByOldest", "cp", func(n []int) (bool, []any) { r, ok := impl.ToldByOldest(n[0], n[1]); return results(ok, r) }},
		{"ToldByYoungest", "cp", func(n []int) (bool, []any) { r, ok := impl.ToldByYoungest(n[0], n[1]); return results(ok, r) }},
		{"OneByOldest", "cpp", func(n []int) (bool, []any) { r, ok := impl.OneByOldest(n[0], n[1], n[2]); return results(ok, r) }},
		{"MostSets", "cpp", func(n []int) (bool, []any) { r, s, ok := impl.MostSets(n[0], n[1], n[2]); return results(ok, r, s) }},
		{"ProductsOfSum", "cs", func(n []int) (bool, []any) { r, ok := impl.ProductsOfSum(n[0], n[1]); return results(ok, r) }},
		{"GreatestProduct", "cs", func(n []int) (bool, []any) { r, ok := impl.GreatestProduct(n[0], n[1]); return results(ok, r) }},
		{"SetsApart", "csa", func(n []int) (bool, []any) { r, ok := impl.SetsApart(n[0], n[1], n[2]); return results(ok, r) }},
		{"CountBySum", "cs", func(n []int) (bool, []any) { r, ok := impl.CountBySum(n[0], n[1]); return results(ok, r) }},
	}
}

// setCalls are those that take a set.
func setCalls() []listCall {
	return []listCall{
		{"IsSet", 0, func(set []int, n []int) (bool, []any) { return results(impl.IsSet(set)) }},
		{"HasOldest", 0, func(set []int, n []int) (bool, []any) { r, ok := impl.HasOldest(set); return results(ok, r) }},
		{"HasYoungest", 0, func(set []int, n []int) (bool, []any) { r, ok := impl.HasYoungest(set); return results(ok, r) }},
		{"TwinsIn", 0, func(set []int, n []int) (bool, []any) { r, ok := impl.TwinsIn(set); return results(ok, r) }},
		{"NextSet", 0, func(set []int, n []int) (bool, []any) { r, ok := impl.NextSet(set); return results(ok, r) }},
		{"LaterSet", 1, func(set []int, n []int) (bool, []any) { r, ok := impl.LaterSet(set, n[0]); return results(ok, r) }},
	}
}

func goodTold(letter byte) []int {
	switch letter {
	case 'c':
		return ages(1, 2, 3, 4)
	case 'p':
		return ages(1, 20, 23, 36, 144, 216, 288, 1001, 1440, 8000, 159000, greatestProduct-1, greatestProduct)
	case 's':
		return ages(1, 3, 4, 10, 13, 17, 20, 40, 60, greatestSum-1, greatestSum)
	}
	return ages(0, 1, 2, 9, 19, 20)
}

func badTold(letter byte) []int {
	switch letter {
	case 'c':
		return badChildren()
	case 'p':
		return badProducts()
	case 's':
		return badSums()
	}
	return badAparts()
}

func allTold(letter byte) []int { return append(goodTold(letter), badTold(letter)...) }

// toldRows are all rows of numbers for some letters.
func toldRows(letters string, numbers func(letter byte) []int) [][]int {
	var columns [][]int
	for i := range len(letters) {
		columns = append(columns, numbers(letters[i]))
	}
	return rowsOf(columns...)
}

func TestPromise11SiblingsAreTotal(t *testing.T) {
	for _, call := range toldCalls() {
		for _, row := range toldRows(call.told, allTold) {
			holdTotalRun(t, call.name, row, nil, spareMark, func([]int) (bool, []any) { return call.run(row) })
		}
	}
	for _, set := range append(goodSets(), badSets()...) {
		holdTotalOf(t, setCalls(), set)
	}
}

func TestPromise11InvalidSetsFail(t *testing.T) {
	for _, call := range setCalls() {
		for _, list := range badSets() {
			for _, numbers := range numberRows(call.numbers) {
				if ok, got := call.run(list, numbers); ok {
					t.Fatalf("%s of %v and %v is %v", call.name, list, numbers, got)
				}
			}
		}
	}
}

func TestPromise11InvalidToldNumbersFail(t *testing.T) {
	for _, call := range toldCalls() {
		for place := range len(call.told) {
			for _, row := range toldRows(call.told, goodTold) {
				for _, row[place] = range badTold(call.told[place]) {
					if ok, got := call.run(row); ok {
						t.Fatalf("%s of %v is %v", call.name, row, got)
					}
				}
			}
		}
	}
}

func TestPromise11ValidToldNumbersSucceed(t *testing.T) {
	for _, call := range toldCalls() {
		// These two fail as well where no set is told, and ranges where they go down or are too long.
		if call.name == "DoesTell" || call.name == "GreatestProduct" || strings.Contains(call.told, "pp") {
			continue
		}
		for _, row := range toldRows(call.told, goodTold) {
			if ok, _ := call.run(row); !ok {
				t.Fatalf("%s of %v fails", call.name, row)
			}
		}
	}
}

func TestPromise11SiblingsShareNoMemory(t *testing.T) {
	for _, call := range toldCalls() {
		for _, row := range toldRows(call.told, goodTold) {
			holdOwnMemoryRun(t, call.name, row, nil, spareMark, func([]int) (bool, []any) { return call.run(row) })
		}
	}
	for _, call := range setCalls() {
		for _, set := range goodSets() {
			for _, years := range ages(-20, -1, 0, 1, 20) {
				holdOwnMemoryOf(t, call, set, ages(years))
			}
		}
	}
}
