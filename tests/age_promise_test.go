package tests

import (
	"slices"
	"testing"

	"loop.example/g01369/impl"
)

// The tests of this file hold each function against the document's definitions, by trying all years.

func TestPromise1AgesInOtherYears(t *testing.T) {
	for _, list := range goodAges() {
		fit := fitYearsWhen(list, func([]int) bool { return true })
		least, greatest, ok := impl.YearsRange(list)
		wantTwo(t, "YearsRange", least, greatest, ok, fit[0], fit[len(fit)-1])
		for years := -yearsTried; years <= yearsTried; years++ {
			then, isFit := agesThen(list, years)
			got, ok := impl.AgesIn(list, years)
			sum, sumOK := impl.SumIn(list, years)
			product, productOK := impl.ProductIn(list, years)
			if !isFit {
				wantNone(t, "AgesIn", got, ok)
				wantNoInt(t, "SumIn", sum, sumOK)
				wantNoInt(t, "ProductIn", product, productOK)
				continue
			}
			wantInts(t, "AgesIn", got, ok, then...)
			wantInt(t, "SumIn", sum, sumOK, sumOf(then))
			wantInt(t, "ProductIn", product, productOK, productOf(then))
		}
	}
}

func TestPromise1YearsOfSumsAndProducts(t *testing.T) {
	for _, list := range goodAges() {
		for sum := -3; sum <= len(list)*impl.MaxAge+3; sum++ {
			want := fitYearsWhen(list, func(then []int) bool { return sumOf(then) == sum })
			n, ok := impl.YearsToSum(list, sum)
			holdYears(t, "YearsToSum", n, ok, want, 0)
		}
		for _, product := range ages(0, 1, 2, 119, 120, 121, 1000, 14399, 14400, 1000000) {
			want := fitYearsWhen(list, func(then []int) bool { return productOf(then) <= product })
			n, ok := impl.YearsToProduct(list, product)
			holdYears(t, "YearsToProduct", n, ok, want, len(want)-1)
		}
	}
}

func TestPromise1YearsOfMeans(t *testing.T) {
	for _, list := range goodAges() {
		for den := 1; den <= 9; den++ {
			for num := 0; num <= impl.MaxAge*den+1; num += 1 + num/50 {
				want := fitYearsWhen(list, func(then []int) bool { return sumOf(then)*den == num*len(then) })
				n, ok := impl.YearsToMean(list, num, den)
				holdYears(t, "YearsToMean", n, ok, want, 0)
			}
		}
		num, den, ok := impl.MeanAge(list)
		if !ok || num*len(list) != sumOf(list)*den || !areLowestTerms(num, den) {
			t.Errorf("MeanAge of %v is %d / %d", list, num, den)
		}
	}
}

func TestPromise1Multiples(t *testing.T) {
	for _, list := range goodAges() {
		for a := range list {
			for b := range list {
				holdMultiples(t, list, a, b)
				num, den, ok := impl.TimesOlder(list, a, b)
				if list[b] == 0 {
					wantNoTwo(t, "TimesOlder", num, den, ok)
				} else if !ok || num*list[b] != list[a]*den || !areLowestTerms(num, den) {
					t.Errorf("TimesOlder of %v, %d and %d is %d / %d", list, a, b, num, den)
				}
			}
		}
	}
}

func holdMultiples(t *testing.T, list []int, a int, b int) {
	t.Helper()
	rows, ok := impl.AllMultiples(list, a, b)
	if a == b {
		wantNone(t, "AllMultiples of the same one", rows, ok)
		n, ok := impl.YearsOfMultiple(list, a, b, 2)
		wantNoInt(t, "YearsOfMultiple of the same one", n, ok)
		return
	}
	var want [][]int
	for times := 2; times <= impl.MaxAge+1; times++ {
		years := fitYearsWhen(list, func(then []int) bool { return then[b] >= 1 && then[a] == times*then[b] })
		n, ok := impl.YearsOfMultiple(list, a, b, times)
		holdYears(t, "YearsOfMultiple", n, ok, years, 0)
		for _, y := range years {
			want = append(want, ages(y, times))
		}
	}
	slices.SortFunc(want, slices.Compare[[]int])
	wantRows(t, "AllMultiples", rows, ok, want...)
}

func TestPromise1YearsAsSum(t *testing.T) {
	for _, list := range goodAges() {
		for who := range list {
			want := fitYearsWhen(list, func(then []int) bool { return len(then) > 1 && then[who]*2 == sumOf(then) })
			n, ok := impl.YearsAsSum(list, who)
			holdYears(t, "YearsAsSum", n, ok, want, 0)
		}
	}
}

func TestPromise1Order(t *testing.T) {
	for _, list := range goodAges() {
		order, ok := impl.OrderOfAges(list)
		gaps, gapsOK := impl.GapsOfAges(list)
		if !ok || !gapsOK || len(order) != len(list) || len(gaps) != len(list)-1 {
			t.Fatalf("of %v the order is %v, the gaps are %v", list, order, gaps)
		}
		for i, gap := range gaps {
			a, b := order[i], order[i+1]
			if gap != list[a]-list[b] || gap < 0 || gap == 0 && a >= b {
				t.Errorf("of %v the order is %v, the gaps are %v", list, order, gaps)
			}
		}
		var want [][]int
		for a := range list {
			for b := range list {
				if a < b && list[a] == list[b] {
					want = append(want, ages(a, b))
				}
			}
		}
		rows, ok := impl.AlikePairs(list)
		wantRows(t, "AlikePairs", rows, ok, want...)
	}
}

func TestPromise1RoundTrips(t *testing.T) {
	for _, list := range goodAges() {
		text, ok := impl.AgesText(list)
		back, backOK := impl.ParseAges(text)
		wantInts(t, "ParseAges of AgesText "+text, back, ok && backOK, list...)
		for _, year := range ages(impl.MaxAge, 2000, impl.MaxYear) {
			births, ok := impl.BirthYears(list, year)
			back, backOK := impl.AgesOfBirths(births, year)
			wantInts(t, "AgesOfBirths of BirthYears", back, ok && backOK, list...)
		}
		if len(list) == impl.MaxPeople {
			continue
		}
		more, ok := impl.AddAge(list, 77)
		back, backOK = impl.DropAge(more, len(list))
		wantInts(t, "DropAge of AddAge", back, ok && backOK && more[len(list)] == 77, list...)
	}
}

// holdYears holds what a call returned against the one of all years that it should, or against a failure.
func holdYears(t *testing.T, call string, got int, ok bool, want []int, which int) {
	t.Helper()
	if len(want) == 0 {
		wantNoInt(t, call, got, ok)
		return
	}
	wantInt(t, call, got, ok, want[which])
}

func areLowestTerms(num int, den int) bool {
	if den < 1 || num == 0 {
		return den == 1
	}
	for d := 2; d <= den; d++ {
		if num%d == 0 && den%d == 0 {
			return false
		}
	}
	return true
}
