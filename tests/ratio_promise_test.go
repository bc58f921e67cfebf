package tests

import (
	"math/big"
	"slices"
	"testing"

	"loop.example/g01369/impl"
)

// The tests of this file hold each function against the document's definitions. A ratio of two ages that are different goes from far away on one side of 1 ever nearer to it, and so it comes just once, and only on the side of the older one.

func TestPromise7IsRatio(t *testing.T) {
	for num := -3; num <= 105; num++ {
		for den := -3; den <= 105; den++ {
			want := 1 <= num && num <= 100 && 1 <= den && den <= 100
			if impl.IsRatio(ratio(num, den)) != want {
				t.Errorf("IsRatio %d %d is %v", num, den, !want)
			}
		}
	}
}

func TestPromise7RatiosComeInTheToldYears(t *testing.T) {
	for _, r := range append(goodRatios(), allRatios(6)...) {
		for _, row := range allLists(2, 0, 120) {
			a, b := row[0], row[1]
			num, den, ok := impl.YearsUntilRatio(a, b, r)
			if a > b && r.Num > r.Den || a < b && r.Num < r.Den {
				first, second := a*den+num, b*den+num
				if !ok || !fitsIn(first, second, den, 0, r) || greatestShared(num, den) != 1 {
					t.Fatalf("YearsUntilRatio %d %d %v is %d, %d, %v", a, b, r, num, den, ok)
				}
			} else {
				wantNoTwo(t, "YearsUntilRatio that does not come", num, den, ok)
			}
		}
	}
}

func TestPromise7AgesOfSumsAndGaps(t *testing.T) {
	for _, r := range allRatios(100) {
		for _, sum := range ages(1, 2, 7, 60, 101, 999, 1000) {
			holdSum(t, sum, r)
		}
		for _, gap := range ages(-120, -119, -7, -1, 0, 1, 28, 120) {
			holdGap(t, gap, r)
		}
	}
	for _, r := range goodRatios() {
		for sum := 1; sum <= 1000; sum++ {
			holdSum(t, sum, r)
		}
		for gap := -120; gap <= 120; gap++ {
			holdGap(t, gap, r)
		}
	}
}

func holdSum(t *testing.T, sum int, r impl.Ratio) {
	t.Helper()
	a, b, by, ok := impl.AgesFromSum(sum, r)
	if !ok || a+b != sum*by || !fitsIn(a, b, by, 0, r) || !isLeastBy(a, b, by) {
		t.Fatalf("AgesFromSum %d %v is %d, %d, %d, %v", sum, r, a, b, by, ok)
	}
}

func holdGap(t *testing.T, gap int, r impl.Ratio) {
	t.Helper()
	a, b, by, ok := impl.AgesFromGap(gap, r)
	if gap > 0 && r.Num > r.Den || gap < 0 && r.Num < r.Den {
		if !ok || a-b != gap*by || !fitsIn(a, b, by, 0, r) || !isLeastBy(a, b, by) {
			t.Fatalf("AgesFromGap %d %v is %d, %d, %d, %v", gap, r, a, b, by, ok)
		}
		return
	}
	wantNoThree(t, "AgesFromGap of none", a, b, by, ok)
}

func TestPromise7AgesOfTwoRatios(t *testing.T) {
	for _, first := range append(goodRatios(), allRatios(5)...) {
		for _, second := range append(goodRatios(), allRatios(5)...) {
			nearer, farther := isNearerToOne(second, first), isNearerToOne(first, second)
			for years := -120; years <= 120; years++ {
				a, b, by, ok := impl.AgesFromTwo(first, second, years)
				if years > 0 && nearer || years < 0 && farther {
					if !ok || !fitsIn(a, b, by, 0, first) || !fitsIn(a, b, by, years, second) || !isLeastBy(a, b, by) {
						t.Fatalf("AgesFromTwo %v %v %d is %d, %d, %d, %v", first, second, years, a, b, by, ok)
					}
				} else {
					wantNoThree(t, "AgesFromTwo of none or of many", a, b, by, ok)
				}
			}
			for _, ago := range ages(1, 2, 5, 59, 60, 118, 119) {
				for _, years := range ages(1, 2, 10, 59, 60, 61, 118, 119, 120) {
					a, b, by, ok := impl.AgesFromThen(first, second, ago, years)
					if nearer && ago+years <= 120 {
						if !ok || !fitsIn(a, b, by, -ago, first) || !fitsIn(a, b, by, years, second) || !isLeastBy(a, b, by) {
							t.Fatalf("AgesFromThen %v %v %d %d is %d, %d, %d, %v", first, second, ago, years, a, b, by, ok)
						}
					} else {
						wantNoThree(t, "AgesFromThen of none or of many", a, b, by, ok)
					}
				}
			}
		}
	}
}

func TestPromise7RatiosInYears(t *testing.T) {
	lowest := map[[2]int]impl.Ratio{}
	for _, row := range allLists(2, 1, 140) {
		lowest[[2]int(row)] = lowestRatio(row[0], row[1])
	}
	for _, row := range allLists(2, 0, 120) {
		var want []impl.Ratio
		fails := false
		for years := 0; years <= 20; years++ {
			r := lowest[[2]int{row[0] + years, row[1] + years}]
			want = append(want, r)
			// The zero ratio stands for ages that are not greater than 0.
			fails = fails || r.Num < 1 || r.Num > 100 || r.Den < 1 || r.Den > 100
			list, ok := impl.RatiosInYears(row[0], row[1], years)
			if fails {
				wantNone(t, "RatiosInYears that leave 1..MaxPart", list, ok)
			} else {
				wantRatios(t, "RatiosInYears", list, ok, want)
			}
		}
	}
}

func TestPromise7WholeRatioYears(t *testing.T) {
	for _, row := range allLists(2, 0, 120) {
		older, younger := slices.Max(row), slices.Min(row)
		list, ok := impl.WholeRatioYears(row[0], row[1])
		if older == younger {
			wantNone(t, "WholeRatioYears of equal ages", list, ok)
			continue
		}
		wantInts(t, "WholeRatioYears", list, ok, numbersWhen(1-younger, 120, func(years int) bool { return share(older+years, younger+years).IsInt() })...)
	}
}

func TestPromise7NearestYear(t *testing.T) {
	for _, row := range rowsOf(ages(0, 1, 2, 3, 7, 12, 40, 60, 119, 120), ages(0, 1, 2, 5, 12, 29, 40, 118, 119, 120)) {
		a, b := row[0], row[1]
		for _, r := range append(goodRatios(), ratiosOf("11:2,14:8,5:14,29:2,50:1,1:50")...) {
			n, ok := impl.NearestYear(a, b, r)
			if a == b {
				wantNoInt(t, "NearestYear of equal ages", n, ok)
				continue
			}
			best, nearest := 0, share(1000, 1)
			for years := 120; years >= 1-min(a, b); years-- {
				apart := share(a+years, b+years)
				apart.Abs(apart.Sub(apart, shareOf(r)))
				if apart.Cmp(nearest) <= 0 {
					best, nearest = years, apart
				}
			}
			wantInt(t, "NearestYear", n, ok, best)
		}
	}
}

// triedChains are all chains of up to 2 small ratios, and some longer ones.
func triedChains() [][]impl.Ratio {
	var chains [][]impl.Ratio
	for _, first := range allRatios(6) {
		chains = append(chains, ratioList(first))
		for _, second := range allRatios(6) {
			chains = append(chains, ratioList(first, second))
		}
	}
	for i, row := range rowsOf(slices.Repeat([][]impl.Ratio{ratiosOf("1:1,2:1,1:2,2:4,3:2,4:3,5:6")}, 4)...) {
		if i%11 == 0 {
			chains = append(chains, row, slices.Concat(row, row[:2]))
		}
	}
	return append(chains, goodChains()...)
}

func TestPromise7LeastChain(t *testing.T) {
	for _, chain := range triedChains() {
		list, ok := impl.LeastChain(chain)
		if !ok || !areInChain(list, chain) {
			t.Fatalf("LeastChain %v is %v, %v", chain, list, ok)
		}
		shared := 0
		for _, age := range list {
			shared = greatestShared(shared, age)
		}
		if shared != 1 {
			t.Fatalf("LeastChain %v is %v, which all are multiples of %d", chain, list, shared)
		}
	}
}

func TestPromise7AgesOfChain(t *testing.T) {
	for _, chain := range triedChains() {
		bySum := map[int][]int{}
		for last := 1; last <= 1000; last++ {
			if list, ok := agesUpChain(chain, last); ok {
				bySum[sumOf(list)] = list
			}
		}
		for sum := 1; sum <= 1000; sum++ {
			list, ok := impl.AgesOfChain(chain, sum)
			if want := bySum[sum]; want != nil {
				wantInts(t, "AgesOfChain", list, ok, want...)
			} else {
				wantNone(t, "AgesOfChain that are not whole", list, ok)
			}
		}
		if t.Failed() {
			t.Fatalf("of %v", chain)
		}
	}
}

func TestPromise7LivesAreTheirPartsAndYears(t *testing.T) {
	for _, parts := range append(triedChains(), manyParts()...) {
		if !leaveSomething(parts) {
			num, den, ok := impl.LifeOf(parts, 1)
			wantNoTwo(t, "LifeOf parts of a life or more", num, den, ok)
			num, den, ok = impl.YearsOfPart(parts, 1, 0)
			wantNoTwo(t, "YearsOfPart of a life or more", num, den, ok)
			list, ok := impl.WholeLives(parts)
			wantNone(t, "WholeLives of a life or more", list, ok)
			continue
		}
		for _, years := range ages(1, 2, 3, 9, 77, 100, 199, 200) {
			holdLife(t, parts, years)
		}
		list, ok := impl.WholeLives(parts)
		wantInts(t, "WholeLives", list, ok, numbersWhen(1, 200, func(life int) bool { return areWholePartsOf(parts, life) })...)
		if t.Failed() {
			t.Fatalf("of %v", parts)
		}
	}
}

// manyParts are all parts of two, and some of six, that the chains leave out: these are more than a life mostly.
func manyParts() [][]impl.Ratio {
	lists := rowsOf(ratiosOf("1:2,1:3,2:5,3:7,5:9,1:12,49:98,1:100"), ratiosOf("1:2,1:4,2:5,4:7,4:9,1:12,3:99,99:100"))
	for _, den := range ages(7, 8, 12, 50, 99, 100) {
		lists = append(lists, manyRatios(longestChain, ratio(1, den)), slices.Concat(manyRatios(longestChain-1, ratio(1, den)), ratioList(ratio(2, den))))
	}
	return lists
}

// holdLife puts all parts and the years together, which must be the life.
func holdLife(t *testing.T, parts []impl.Ratio, years int) {
	t.Helper()
	life := lifeWith(parts, years)
	num, den, ok := impl.LifeOf(parts, years)
	if !ok || !isShare(num, den, life) {
		t.Errorf("LifeOf %v %d is %d, %d, %v, not %v", parts, years, num, den, ok, life)
	}
	together := share(years, 1)
	for k, part := range parts {
		num, den, ok := impl.YearsOfPart(parts, years, k)
		want := new(big.Rat).Mul(life, shareOf(part))
		if !ok || !isShare(num, den, want) {
			t.Fatalf("YearsOfPart %v %d %d is %d, %d, %v, not %v", parts, years, k, num, den, ok, want)
		}
		together.Add(together, share(num, den))
	}
	if together.Cmp(life) != 0 {
		t.Errorf("%v and %d years are %v, not %v", parts, years, together, life)
	}
}

func areWholePartsOf(parts []impl.Ratio, life int) bool {
	return !slices.ContainsFunc(parts, func(part impl.Ratio) bool { return life*part.Num%part.Den != 0 })
}

// Years in which the gaps lead to the same ratio are whole parts of the difference of these gaps, and at most 9*9 with ages up to 9.
func TestPromise7SameRatioYearOfSmallAges(t *testing.T) {
	for _, row := range allLists(4, 0, 9) {
		num, den, ok := impl.SameRatioYear(row[0], row[1], row[2], row[3])
		wantNum, wantDen, found := sameRatioBySearch(row)
		if !found {
			wantNoTwo(t, "SameRatioYear that does not come", num, den, ok)
		} else {
			wantTwo(t, "SameRatioYear", num, den, ok, wantNum, wantDen)
		}
		if t.Failed() {
			t.Fatalf("of %v", row)
		}
	}
}

// sameRatioBySearch tries all years in question. It fails if none fits, or all of them.
func sameRatioBySearch(row []int) (int, int, bool) {
	a, b, c, d := row[0], row[1], row[2], row[3]
	by := max(a-b-c+d, b+c-a-d)
	if by == 0 {
		return 0, 0, false
	}
	var fit []int
	for years := 1 - slices.Min(row)*by; years <= 81*by; years++ {
		if (a*by+years)*(d*by+years) == (b*by+years)*(c*by+years) {
			fit = append(fit, years)
		}
	}
	if len(fit) != 1 {
		return 0, 0, false
	}
	shared := greatestShared(fit[0], by)
	return fit[0] / shared, by / shared, true
}

func TestPromise7SameRatioYearOfAnyAges(t *testing.T) {
	for _, row := range rowsOf(slices.Repeat([][]int{ages(0, 1, 2, 5, 12, 29, 30, 40, 59, 60, 61, 100, 118, 119, 120)}, 4)...) {
		num, den, ok := impl.SameRatioYear(row[0], row[1], row[2], row[3])
		if !ok {
			wantNoTwo(t, "SameRatioYear that does not come", num, den, ok)
			continue
		}
		a, b, c, d := row[0]*den+num, row[1]*den+num, row[2]*den+num, row[3]*den+num
		if den < 1 || greatestShared(num, den) != 1 || min(a, b, c, d) <= 0 || a*d != b*c {
			t.Fatalf("SameRatioYear %v is %d, %d", row, num, den)
		}
		// The same is told of both pairs in either order.
		turnedNum, turnedDen, ok := impl.SameRatioYear(row[3], row[2], row[1], row[0])
		wantTwo(t, "SameRatioYear turned", turnedNum, turnedDen, ok, num, den)
		// It is just then that their ratio comes.
		if r := lowestRatio(a, b); max(r.Num, r.Den) <= greatestPart {
			years, by, ok := impl.YearsUntilRatio(row[0], row[1], r)
			wantTwo(t, "YearsUntilRatio of the first two", years, by, ok, num, den)
			years, by, ok = impl.YearsUntilRatio(row[2], row[3], r)
			wantTwo(t, "YearsUntilRatio of the others", years, by, ok, num, den)
		}
	}
}

func TestPromise7BothMultiples(t *testing.T) {
	for _, row := range append(allLists(3, 0, 24), rowsOf(slices.Repeat([][]int{ages(0, 1, 6, 19, 30, 42, 48, 60, 72, 90, 112, 118, 119, 120)}, 3)...)...) {
		list, ok := impl.BothMultiples(row[0], row[1], row[2])
		wantInts(t, "BothMultiples", list, ok, numbersWhen(1-slices.Min(row), 120, func(years int) bool {
			return isSomeTimes(row[0]+years, row[1]+years) && isSomeTimes(row[1]+years, row[2]+years)
		})...)
	}
}

// isSomeTimes tries all multiples of at least 2.
func isSomeTimes(age int, other int) bool {
	for many := 2 * other; many <= age; many += other {
		if many == age {
			return true
		}
	}
	return false
}

func TestPromise7TurnedRatios(t *testing.T) {
	for _, r := range allRatios(100) {
		turned, ok := impl.TurnRatio(r)
		wantRatio(t, "TurnRatio", turned, ok, ratio(r.Den, r.Num))
	}
}

func TestPromise7Texts(t *testing.T) {
	for _, list := range append(triedChains(), manyParts()...) {
		text, ok := impl.RatiosText(list)
		wantText(t, "RatiosText", text, ok, textOfRatios(list))
		again, ok := impl.ParseRatios(text)
		wantRatios(t, "ParseRatios", again, ok, list)
	}
	for _, r := range allRatios(100) {
		text, ok := impl.RatiosText(ratioList(r))
		wantText(t, "RatiosText", text, ok, textOfRatios(ratioList(r)))
		again, ok := impl.ParseRatios(text)
		wantRatios(t, "ParseRatios", again, ok, ratioList(r))
	}
}
