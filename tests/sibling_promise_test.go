package tests

import (
	"slices"
	"testing"

	"loop.example/g01369/impl"
)

// The tests of this file hold each function against the document's definitions, by going through all sets.

func TestPromise4IsSet(t *testing.T) {
	for count := 0; count <= 3; count++ {
		for _, list := range allLists(count, -1, 22) {
			if impl.IsSet(list) != isSet(list) {
				t.Errorf("IsSet %v is %v", list, !isSet(list))
			}
		}
	}
	for _, count := range ages(4, 5) {
		for _, first := range ages(0, 1, 18) {
			for _, list := range allLists(count, first, first+3) {
				if impl.IsSet(list) != isSet(list) {
					t.Errorf("IsSet %v is %v", list, !isSet(list))
				}
			}
		}
	}
}

func TestPromise4SetsHaveTheToldProducts(t *testing.T) {
	for children := 1; children <= 4; children++ {
		byProduct := setsByNumber(allSets(children), productOf)
		for product := 1; product <= greatestProduct; product++ {
			sets := byProduct[product]
			rows, ok := impl.SetsOfProduct(children, product)
			wantRows(t, "SetsOfProduct", rows, ok, sets...)
			n, ok := impl.CountSets(children, product)
			wantInt(t, "CountSets", n, ok, len(sets))
			list, ok := impl.SumsOfProduct(children, product)
			wantInts(t, "SumsOfProduct", list, ok, numbersOnce(sets, sumOf)...)
			if t.Failed() {
				t.Fatalf("of %d children with the product %d", children, product)
			}
		}
	}
}

func TestPromise4SetsHaveTheToldSums(t *testing.T) {
	for children := 1; children <= 4; children++ {
		bySum := setsByNumber(allSets(children), sumOf)
		for sum := 1; sum <= greatestSum; sum++ {
			sets := bySum[sum]
			n, ok := impl.CountBySum(children, sum)
			wantInt(t, "CountBySum", n, ok, len(sets))
			products := numbersOnce(sets, productOf)
			list, ok := impl.ProductsOfSum(children, sum)
			wantInts(t, "ProductsOfSum", list, ok, products...)
			n, ok = impl.GreatestProduct(children, sum)
			if len(products) == 0 {
				wantNoInt(t, "GreatestProduct of no set", n, ok)
			} else {
				wantInt(t, "GreatestProduct", n, ok, slices.Max(products))
			}
			if t.Failed() {
				t.Fatalf("of %d children with the sum %d", children, sum)
			}
		}
	}
}

func TestPromise4SetsHaveBoth(t *testing.T) {
	for children := 1; children <= 4; children++ {
		byProduct := setsByNumber(allSets(children), productOf)
		for product := 1; product <= greatestProduct; product++ {
			// Most products have no set, and few of them are enough.
			if len(byProduct[product]) == 0 && product%1009 != 0 {
				continue
			}
			bySum := setsByNumber(byProduct[product], sumOf)
			for sum := 1; sum <= greatestSum; sum++ {
				rows, ok := impl.SetsOfBoth(children, product, sum)
				wantRows(t, "SetsOfBoth", rows, ok, bySum[sum]...)
				is, ok := impl.DoesTell(children, product, sum)
				if len(bySum[sum]) == 0 {
					wantNoBool(t, "DoesTell of no set", is, ok)
				} else {
					wantBool(t, "DoesTell", is, ok, len(bySum[sum]) == 1)
				}
			}
			if t.Failed() {
				t.Fatalf("of %d children with the product %d", children, product)
			}
		}
	}
}

func TestPromise4AnOldestChildTellsOneWithAnOpenSum(t *testing.T) {
	for children := 1; children <= 4; children++ {
		for product, sets := range setsByNumber(allSets(children), productOf) {
			list, ok := impl.OpenSums(children, product)
			wantInts(t, "OpenSums", list, ok, openSums(sets)...)
			rows, ok := impl.ToldByOldest(children, product)
			wantRows(t, "ToldByOldest", rows, ok, toldSets(sets, hasOldest)...)
			rows, ok = impl.ToldByYoungest(children, product)
			wantRows(t, "ToldByYoungest", rows, ok, toldSets(sets, hasYoungest)...)
			if t.Failed() {
				t.Fatalf("of %d children with the product %d", children, product)
			}
		}
	}
}

func TestPromise4ProductRanges(t *testing.T) {
	for children := 1; children <= 4; children++ {
		byProduct := setsByNumber(allSets(children), productOf)
		one := map[int]bool{}
		for product, sets := range byProduct {
			one[product] = len(toldSets(sets, hasOldest)) == 1
		}
		for from := 1; from <= greatestProduct; from += 1597 {
			for _, length := range ages(0, 1, 2, 50, 999, 1000) {
				to := min(from+length, greatestProduct)
				list, ok := impl.OneByOldest(children, from, to)
				wantInts(t, "OneByOldest", list, ok, numbersWhen(from, to, func(product int) bool { return one[product] })...)
				best := from
				for product := from; product <= to; product++ {
					if len(byProduct[product]) > len(byProduct[best]) {
						best = product
					}
				}
				product, count, ok := impl.MostSets(children, from, to)
				wantTwo(t, "MostSets", product, count, ok, best, len(byProduct[best]))
				if t.Failed() {
					t.Fatalf("of %d children with the products %d to %d", children, from, to)
				}
			}
		}
	}
}

func TestPromise4OldestYoungestAndTwins(t *testing.T) {
	for children := 1; children <= 4; children++ {
		for _, set := range allSets(children) {
			is, ok := impl.HasOldest(set)
			wantBool(t, "HasOldest", is, ok, hasOldest(set))
			is, ok = impl.HasYoungest(set)
			wantBool(t, "HasYoungest", is, ok, hasYoungest(set))
			pairs := 0
			for i := range set {
				pairs += len(numbersWhen(i+1, len(set)-1, func(k int) bool { return set[i] == set[k] }))
			}
			n, ok := impl.TwinsIn(set)
			wantInt(t, "TwinsIn", n, ok, pairs)
			if t.Failed() {
				t.Fatalf("of %v", set)
			}
		}
	}
}

func TestPromise4SetsApart(t *testing.T) {
	for children := 1; children <= 4; children++ {
		for apart := 0; apart <= 20; apart++ {
			bySum := setsByNumber(rowsWhen(allSets(children), func(set []int) bool { return areApart(set, apart) }), sumOf)
			for sum := 1; sum <= greatestSum; sum++ {
				rows, ok := impl.SetsApart(children, sum, apart)
				wantRows(t, "SetsApart", rows, ok, bySum[sum]...)
			}
		}
	}
}

func areApart(set []int, apart int) bool {
	return len(numbersWhen(1, len(set)-1, func(i int) bool { return set[i]-set[i-1] < apart })) == 0
}

func TestPromise4NextSet(t *testing.T) {
	for children := 1; children <= 4; children++ {
		sets := allSets(children)
		for i := range len(sets) - 1 {
			list, ok := impl.NextSet(sets[i])
			wantInts(t, "NextSet", list, ok, sets[i+1]...)
		}
		list, ok := impl.NextSet(sets[len(sets)-1])
		wantNone(t, "NextSet of the last set", list, ok)
	}
}

func TestPromise4LaterSet(t *testing.T) {
	for children := 1; children <= 4; children++ {
		for _, set := range allSets(children) {
			for years := -22; years <= 22; years++ {
				later := slices.Clone(set)
				for i := range later {
					later[i] += years
				}
				list, ok := impl.LaterSet(set, years)
				if isSet(later) {
					wantInts(t, "LaterSet", list, ok, later...)
				} else {
					wantNone(t, "LaterSet that is none", list, ok)
				}
			}
		}
	}
}
