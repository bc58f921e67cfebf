package tests

import (
	"testing"

	"loop.example/g01369/impl"
)

func TestRatioExample(t *testing.T) {
	num, den, ok := impl.YearsUntilRatio(40, 12, ratio(3, 1))
	wantTwo(t, "YearsUntilRatio 40 12 3:1", num, den, ok, 2, 1)
	num, den, ok = impl.YearsUntilRatio(40, 12, ratio(5, 2))
	wantTwo(t, "YearsUntilRatio 40 12 5:2", num, den, ok, 20, 3)
	a, b, by, ok := impl.AgesFromSum(60, ratio(3, 1))
	wantThree(t, "AgesFromSum 60 3:1", a, b, by, ok, 45, 15, 1)
	a, b, by, ok = impl.AgesFromGap(28, ratio(3, 1))
	wantThree(t, "AgesFromGap 28 3:1", a, b, by, ok, 42, 14, 1)
	a, b, by, ok = impl.AgesFromTwo(ratio(3, 1), ratio(2, 1), 10)
	wantThree(t, "AgesFromTwo 3:1 2:1 10", a, b, by, ok, 30, 10, 1)
	a, b, by, ok = impl.AgesFromThen(ratio(4, 1), ratio(2, 1), 5, 10)
	wantThree(t, "AgesFromThen 4:1 2:1 5 10", a, b, by, ok, 70, 25, 2)
	list, ok := impl.WholeRatioYears(40, 12)
	wantInts(t, "WholeRatioYears 40 12", list, ok, -11, -10, -8, -5, 2, 16)
	n, ok := impl.NearestYear(40, 12, ratio(5, 2))
	wantInt(t, "NearestYear 40 12 5:2", n, ok, 7)
	list, ok = impl.LeastChain(ratiosOf("3:2,2:1"))
	wantInts(t, "LeastChain 3:2 2:1", list, ok, 3, 2, 1)
	list, ok = impl.AgesOfChain(ratiosOf("3:2,2:1"), 60)
	wantInts(t, "AgesOfChain 3:2 2:1 60", list, ok, 30, 20, 10)
	num, den, ok = impl.LifeOf(ratiosOf(exampleParts), 9)
	wantTwo(t, "LifeOf "+exampleParts, num, den, ok, 84, 1)
	list, ok = impl.WholeLives(ratiosOf(exampleParts))
	wantInts(t, "WholeLives "+exampleParts, list, ok, 84, 168)
	num, den, ok = impl.SameRatioYear(40, 12, 20, 2)
	wantTwo(t, "SameRatioYear 40 12 20 2", num, den, ok, 16, 1)
	list, ok = impl.BothMultiples(40, 19, 5)
	wantInts(t, "BothMultiples 40 19 5", list, ok, 2)
}

func TestRatioConstants(t *testing.T) {
	if impl.MaxPart != greatestPart || impl.MaxChain != longestChain || impl.MaxLife != greatestLife {
		t.Error("a limit of chapter 7 has changed")
	}
}
