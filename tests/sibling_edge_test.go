package tests

import (
	"math"
	"slices"
	"testing"

	"loop.example/g01369/impl"
)

func TestIsSet(t *testing.T) {
	for _, set := range goodSets() {
		if !impl.IsSet(set) {
			t.Errorf("%v is a set", set)
		}
	}
	for _, list := range badSets() {
		if impl.IsSet(list) {
			t.Errorf("%v is no set", list)
		}
	}
}

func TestSetsOfProductEdges(t *testing.T) {
	for _, c := range []struct {
		children, product int
		want              [][]int
	}{
		{1, 1, [][]int{{1}}}, {1, 7, [][]int{{7}}}, {1, 20, [][]int{{20}}}, {1, 21, nil}, {1, 36, nil}, {1, greatestProduct, nil},
		{2, 1, [][]int{{1, 1}}}, {2, 36, [][]int{{2, 18}, {3, 12}, {4, 9}, {6, 6}}}, {2, 400, [][]int{{20, 20}}}, {2, 23, nil}, {2, 401, nil},
		{3, 1, [][]int{{1, 1, 1}}}, {3, 8, [][]int{{1, 1, 8}, {1, 2, 4}, {2, 2, 2}}}, {3, 23, nil}, {3, 7999, nil}, {3, 8000, [][]int{{20, 20, 20}}}, {3, 8001, nil},
		{4, 1, [][]int{{1, 1, 1, 1}}}, {4, 7, [][]int{{1, 1, 1, 7}}}, {4, 16, [][]int{{1, 1, 1, 16}, {1, 1, 2, 8}, {1, 1, 4, 4}, {1, 2, 2, 4}, {2, 2, 2, 2}}},
		{4, 23, nil}, {4, 152000, [][]int{{19, 20, 20, 20}}}, {4, greatestProduct - 1, nil}, {4, greatestProduct, [][]int{{20, 20, 20, 20}}},
	} {
		rows, ok := impl.SetsOfProduct(c.children, c.product)
		wantRows(t, "SetsOfProduct", rows, ok, c.want...)
		n, ok := impl.CountSets(c.children, c.product)
		wantInt(t, "CountSets", n, ok, len(c.want))
		list, ok := impl.SumsOfProduct(c.children, c.product)
		wantInts(t, "SumsOfProduct", list, ok, numbersOnce(c.want, sumOf)...)
	}
}

func TestSumsOfProductEdges(t *testing.T) {
	list, ok := impl.SumsOfProduct(3, 36)
	wantInts(t, "SumsOfProduct of which one comes twice", list, ok, 10, 11, 13, 14, 16, 21)
	list, ok = impl.SumsOfProduct(4, 144)
	wantInts(t, "SumsOfProduct of MaxChildren", list, ok, 14, 15, 16, 17, 18, 19, 20, 21, 23, 24, 25, 26, 27, 28)
	list, ok = impl.SumsOfProduct(4, greatestProduct)
	wantInts(t, "SumsOfProduct of MaxProduct", list, ok, greatestSum)
	list, ok = impl.SumsOfProduct(1, 1)
	wantInts(t, "SumsOfProduct of one child", list, ok, 1)
	list, ok = impl.SumsOfProduct(4, 23)
	wantInts(t, "SumsOfProduct of no set", list, ok)
}

func TestSetsOfBothEdges(t *testing.T) {
	for _, c := range []struct {
		children, product, sum int
		want                   [][]int
	}{
		{1, 1, 1, [][]int{{1}}}, {1, 20, 20, [][]int{{20}}}, {1, 7, 8, nil}, {1, 21, 21, nil}, {1, 1, greatestSum, nil},
		{2, 36, 12, [][]int{{6, 6}}}, {2, 36, 14, nil}, {2, 36, 1, nil}, {3, 36, 10, [][]int{{3, 3, 4}}}, {3, 36, 12, nil}, {3, 36, 38, nil},
		{3, 40, 14, [][]int{{1, 5, 8}, {2, 2, 10}}}, {3, 144, 19, [][]int{{2, 8, 9}, {3, 4, 12}}},
		{4, 1, 4, [][]int{{1, 1, 1, 1}}}, {4, 1, 3, nil}, {4, 1, 1, nil}, {4, greatestProduct, greatestSum, [][]int{{20, 20, 20, 20}}}, {4, greatestProduct, 79, nil}, {4, 144, 17, [][]int{{1, 4, 6, 6}, {2, 2, 4, 9}}}, {4, 23, 26, nil},
	} {
		rows, ok := impl.SetsOfBoth(c.children, c.product, c.sum)
		wantRows(t, "SetsOfBoth", rows, ok, c.want...)
		is, ok := impl.DoesTell(c.children, c.product, c.sum)
		if len(c.want) == 0 {
			wantNoBool(t, "DoesTell of no set", is, ok)
		} else {
			wantBool(t, "DoesTell", is, ok, len(c.want) == 1)
		}
	}
}

func TestOpenSumsEdges(t *testing.T) {
	for _, c := range []struct{ children, product int }{{1, 1}, {1, 20}, {1, 36}, {2, 1}, {2, 36}, {2, 60}, {3, 1}, {3, 12}, {3, 23}, {3, 8000}, {4, 1}, {4, 23}, {4, greatestProduct}} {
		list, ok := impl.OpenSums(c.children, c.product)
		wantInts(t, "OpenSums where each sum tells", list, ok)
		rows, ok := impl.ToldByOldest(c.children, c.product)
		wantRows(t, "ToldByOldest without an open sum", rows, ok)
		rows, ok = impl.ToldByYoungest(c.children, c.product)
		wantRows(t, "ToldByYoungest without an open sum", rows, ok)
	}
	list, ok := impl.OpenSums(3, 72)
	wantInts(t, "OpenSums 3 72", list, ok, 14)
	list, ok = impl.OpenSums(4, 144)
	wantInts(t, "OpenSums of which one has three sets", list, ok, 16, 17, 18, 20)
	list, ok = impl.OpenSums(4, 1440)
	wantInts(t, "OpenSums 4 1440", list, ok, 26, 27, 29, 30, 31, 32, 33, 34, 35, 36, 37, 38)
}

func TestToldEdges(t *testing.T) {
	for _, c := range []struct {
		children, product int
		oldest, youngest  [][]int
	}{
		{3, 72, [][]int{{3, 3, 8}}, [][]int{{2, 6, 6}}},
		{3, 40, nil, [][]int{{1, 5, 8}}},
		{3, 168, nil, nil},
		{4, 144, [][]int{{2, 2, 4, 9}, {2, 3, 3, 8}}, [][]int{{1, 4, 6, 6}, {2, 3, 3, 8}}},
		{4, 216, [][]int{{2, 2, 6, 9}, {3, 3, 3, 8}}, [][]int{{1, 6, 6, 6}, {2, 3, 6, 6}}},
		// Here the first set has the greater sum.
		{4, 288, [][]int{{1, 4, 4, 18}, {3, 3, 4, 8}}, [][]int{{1, 3, 6, 16}, {1, 4, 8, 9}, {2, 4, 6, 6}}},
		{4, 900, [][]int{{1, 5, 9, 20}, {1, 5, 10, 18}, {2, 5, 9, 10}}, [][]int{{1, 5, 10, 18}, {2, 5, 9, 10}}},
	} {
		rows, ok := impl.ToldByOldest(c.children, c.product)
		wantRows(t, "ToldByOldest", rows, ok, c.oldest...)
		rows, ok = impl.ToldByYoungest(c.children, c.product)
		wantRows(t, "ToldByYoungest", rows, ok, c.youngest...)
	}
}

func TestOldestAndYoungestEdges(t *testing.T) {
	for _, c := range []struct {
		set              []int
		oldest, youngest bool
		twins            int
	}{
		{ages(1), true, true, 0}, {ages(20), true, true, 0}, {ages(1, 20), true, true, 0}, {ages(1, 1), false, false, 1}, {ages(20, 20), false, false, 1},
		{ages(1, 6, 6), false, true, 1}, {ages(2, 2, 9), true, false, 1}, {ages(2, 3, 6), true, true, 0}, {ages(5, 5, 5), false, false, 3},
		{ages(1, 2, 3, 4), true, true, 0}, {ages(1, 2, 2, 3), true, true, 1}, {ages(1, 1, 2, 3), true, false, 1}, {ages(1, 2, 3, 3), false, true, 1}, {ages(1, 1, 2, 2), false, false, 2},
		{ages(1, 1, 1, 2), true, false, 3}, {ages(1, 2, 2, 2), false, true, 3}, {ages(1, 1, 1, 1), false, false, 6}, {ages(20, 20, 20, 20), false, false, 6},
	} {
		is, ok := impl.HasOldest(c.set)
		wantBool(t, "HasOldest", is, ok, c.oldest)
		is, ok = impl.HasYoungest(c.set)
		wantBool(t, "HasYoungest", is, ok, c.youngest)
		n, ok := impl.TwinsIn(c.set)
		wantInt(t, "TwinsIn", n, ok, c.twins)
	}
}

func TestOneByOldestEdges(t *testing.T) {
	for _, c := range []struct {
		children, from, to int
		want               []int
	}{
		{1, 1, 1001, nil}, {2, 1, 1001, nil}, {3, 1, 1001, ages(36, 72, 288, 576, 720, 900)}, {3, 1, 35, nil}, {3, 36, 36, ages(36)}, {3, 35, 37, ages(36)}, {3, 37, 72, ages(72)}, {3, 37, 71, nil},
		{3, 900, 1800, ages(900, 1008, 1800)}, {3, 800, 1800, ages(900, 1008, 1800)}, {3, 8001, 9001, nil},
		{4, 1, 360, ages(36, 48, 108, 192, 300, 320, 324, 360)}, {4, 144, 144, nil}, {4, 57600, 58600, ages(57600)}, {4, greatestProduct - 1000, greatestProduct, nil}, {4, greatestProduct, greatestProduct, nil}, {4, 1, 1, nil},
	} {
		list, ok := impl.OneByOldest(c.children, c.from, c.to)
		wantInts(t, "OneByOldest", list, ok, c.want...)
	}
}

func TestMostSetsEdges(t *testing.T) {
	for _, c := range []struct{ children, from, to, product, count int }{
		{1, 1, 1001, 1, 1}, {1, 20, 1020, 20, 1}, {2, 1, 1001, 36, 4}, {2, 37, 60, 60, 4}, {2, 1, 35, 12, 3}, {3, 1, 1001, 360, 13}, {3, 361, 1001, 720, 13}, {3, 36, 36, 36, 7}, {3, 30, 40, 36, 7},
		{4, 1, 1001, 720, 34}, {4, 440, 1440, 1440, 37}, {4, 439, 1439, 720, 34}, {4, 1, 1, 1, 1}, {4, greatestProduct - 1000, greatestProduct, greatestProduct, 1}, {4, greatestProduct, greatestProduct, greatestProduct, 1},
		{1, 21, 1021, 21, 0}, {3, 8001, 9001, 8001, 0}, {4, 23, 23, 23, 0}, {4, 159000, 159999, 159000, 0},
	} {
		product, count, ok := impl.MostSets(c.children, c.from, c.to)
		wantTwo(t, "MostSets", product, count, ok, c.product, c.count)
	}
}

func TestProductRangesThatAreNone(t *testing.T) {
	for _, r := range badProductRanges() {
		for children := 1; children <= 4; children++ {
			list, ok := impl.OneByOldest(children, r[0], r[1])
			wantNone(t, "OneByOldest of a range that is none", list, ok)
			product, count, ok := impl.MostSets(children, r[0], r[1])
			wantNoTwo(t, "MostSets of a range that is none", product, count, ok)
		}
	}
}

func TestProductsOfSumEdges(t *testing.T) {
	for _, c := range []struct {
		children, sum, count int
		want                 []int
	}{
		{1, 1, 1, ages(1)}, {1, 20, 1, ages(20)}, {1, 21, 0, nil}, {1, greatestSum, 0, nil}, {2, 1, 0, nil}, {2, 2, 1, ages(1)}, {2, 5, 2, ages(4, 6)}, {2, 40, 1, ages(400)}, {2, 41, 0, nil},
		{3, 2, 0, nil}, {3, 3, 1, ages(1)}, {3, 10, 8, ages(8, 14, 18, 20, 24, 30, 32, 36)}, {3, 13, 14, ages(11, 20, 27, 32, 35, 36, 48, 56, 60, 63, 72, 75, 80)}, {3, 60, 1, ages(8000)}, {3, 61, 0, nil},
		{4, 1, 0, nil}, {4, 3, 0, nil}, {4, 4, 1, ages(1)}, {4, 8, 5, ages(5, 8, 9, 12, 16)}, {4, 79, 1, ages(152000)}, {4, greatestSum, 1, ages(greatestProduct)},
	} {
		n, ok := impl.CountBySum(c.children, c.sum)
		wantInt(t, "CountBySum", n, ok, c.count)
		list, ok := impl.ProductsOfSum(c.children, c.sum)
		wantInts(t, "ProductsOfSum", list, ok, c.want...)
		n, ok = impl.GreatestProduct(c.children, c.sum)
		if len(c.want) == 0 {
			wantNoInt(t, "GreatestProduct of no set", n, ok)
		} else {
			wantInt(t, "GreatestProduct", n, ok, slices.Max(c.want))
		}
	}
}

func TestSetsApartEdges(t *testing.T) {
	for _, c := range []struct {
		children, sum, apart int
		want                 [][]int
	}{
		{1, 1, 0, [][]int{{1}}}, {1, 20, 20, [][]int{{20}}}, {1, 21, 0, nil}, {1, greatestSum, 20, nil},
		{2, 2, 0, [][]int{{1, 1}}}, {2, 2, 1, nil}, {2, 21, 19, [][]int{{1, 20}}}, {2, 21, 20, nil}, {2, 22, 20, nil}, {2, 21, 17, [][]int{{1, 20}, {2, 19}}}, {2, 21, 18, [][]int{{1, 20}}},
		{3, 10, 0, [][]int{{1, 1, 8}, {1, 2, 7}, {1, 3, 6}, {1, 4, 5}, {2, 2, 6}, {2, 3, 5}, {2, 4, 4}, {3, 3, 4}}},
		{3, 10, 1, [][]int{{1, 2, 7}, {1, 3, 6}, {1, 4, 5}, {2, 3, 5}}}, {3, 10, 3, nil}, {3, 30, 9, [][]int{{1, 10, 19}}}, {3, 31, 9, [][]int{{1, 10, 20}}}, {3, 30, 10, nil},
		{4, 4, 0, [][]int{{1, 1, 1, 1}}}, {4, 4, 1, nil}, {4, 10, 1, [][]int{{1, 2, 3, 4}}}, {4, 9, 1, nil}, {4, 40, 6, [][]int{{1, 7, 13, 19}}}, {4, 41, 6, [][]int{{1, 7, 13, 20}}}, {4, 44, 6, [][]int{{2, 8, 14, 20}}}, {4, 45, 6, nil},
		{4, greatestSum, 0, [][]int{{20, 20, 20, 20}}}, {4, greatestSum, 1, nil}, {4, 40, 20, nil}, {4, 3, 0, nil}, {4, 1, 20, nil},
	} {
		rows, ok := impl.SetsApart(c.children, c.sum, c.apart)
		wantRows(t, "SetsApart", rows, ok, c.want...)
	}
}

func TestNextSetEdges(t *testing.T) {
	for _, c := range []struct{ set, want []int }{
		{ages(1), ages(2)}, {ages(19), ages(20)}, {ages(1, 1), ages(1, 2)}, {ages(1, 19), ages(1, 20)}, {ages(1, 20), ages(2, 2)}, {ages(19, 20), ages(20, 20)}, {ages(19, 19), ages(19, 20)},
		{ages(2, 20, 20), ages(3, 3, 3)}, {ages(19, 20, 20), ages(20, 20, 20)}, {ages(1, 1, 1, 1), ages(1, 1, 1, 2)}, {ages(1, 1, 1, 20), ages(1, 1, 2, 2)}, {ages(1, 1, 20, 20), ages(1, 2, 2, 2)}, {ages(1, 20, 20, 20), ages(2, 2, 2, 2)}, {ages(5, 6, 7, 8), ages(5, 6, 7, 9)},
	} {
		list, ok := impl.NextSet(c.set)
		wantInts(t, "NextSet", list, ok, c.want...)
	}
	for children := 1; children <= 4; children++ {
		list, ok := impl.NextSet(manyAges(children, 20))
		wantNone(t, "NextSet of the last set", list, ok)
	}
}

func TestLaterSetEdges(t *testing.T) {
	for _, c := range []struct {
		set   []int
		years int
		want  []int
	}{
		{ages(2, 2, 9), 0, ages(2, 2, 9)}, {ages(2, 2, 9), 3, ages(5, 5, 12)}, {ages(2, 2, 9), 11, ages(13, 13, 20)}, {ages(2, 2, 9), -1, ages(1, 1, 8)}, {ages(1), 19, ages(20)}, {ages(20), -19, ages(1)},
		{ages(1, 20), 0, ages(1, 20)}, {ages(1, 1, 1, 1), 19, ages(20, 20, 20, 20)}, {ages(20, 20, 20, 20), -19, ages(1, 1, 1, 1)}, {ages(3, 5, 5, 17), 3, ages(6, 8, 8, 20)}, {ages(3, 5, 5, 17), -2, ages(1, 3, 3, 15)},
	} {
		list, ok := impl.LaterSet(c.set, c.years)
		wantInts(t, "LaterSet", list, ok, c.want...)
	}
	for _, c := range []struct {
		set   []int
		years int
	}{
		{ages(2, 2, 9), 12}, {ages(2, 2, 9), -2}, {ages(2, 2, 9), -9}, {ages(1), 20}, {ages(1), -1}, {ages(20), 1}, {ages(20), -20}, {ages(1, 20), 1}, {ages(1, 20), -1}, {ages(3, 5, 5, 17), 4}, {ages(3, 5, 5, 17), -3},
	} {
		list, ok := impl.LaterSet(c.set, c.years)
		wantNone(t, "LaterSet just beyond", list, ok)
	}
	for _, set := range goodSets() {
		for _, years := range ages(math.MinInt, math.MinInt+1, math.MinInt+19, -1000000, -21, -20, 20, 21, 1000000, math.MaxInt-20, math.MaxInt-1, math.MaxInt) {
			list, ok := impl.LaterSet(set, years)
			wantNone(t, "LaterSet of years that are too many", list, ok)
		}
	}
}
