package tests

import (
	"math"
	"strings"
	"testing"

	"loop.example/g01369/impl"
)

func TestIsTalk(t *testing.T) {
	for _, talk := range append(goodTalks(), allStatements()...) {
		if !impl.IsTalk(talk) {
			t.Errorf("%q is a talk", talk)
		}
	}
	for _, text := range badTalks() {
		if impl.IsTalk(text) {
			t.Errorf("%q is no talk", text)
		}
	}
}

func TestPairsOfSumEdges(t *testing.T) {
	for _, c := range []struct {
		most, sum int
		want      [][]int
	}{
		{2, 0, nil}, {2, 1, nil}, {2, 2, [][]int{{1, 1}}}, {2, 3, [][]int{{1, 2}}}, {2, 4, [][]int{{2, 2}}}, {2, 5, nil},
		{4, 5, [][]int{{1, 4}, {2, 3}}}, {4, 6, [][]int{{2, 4}, {3, 3}}}, {4, 8, [][]int{{4, 4}}}, {4, 9, nil}, {5, 6, [][]int{{1, 5}, {2, 4}, {3, 3}}},
		{40, 0, nil}, {40, 1, nil}, {40, 2, [][]int{{1, 1}}}, {40, 78, [][]int{{38, 40}, {39, 39}}}, {40, 80, [][]int{{40, 40}}}, {40, 81, nil}, {40, 1600, nil}, {40, math.MaxInt, nil},
	} {
		rows, ok := impl.PairsOfSum(c.most, c.sum)
		wantRows(t, "PairsOfSum", rows, ok, c.want...)
	}
}

func TestPairsOfProductEdges(t *testing.T) {
	for _, c := range []struct {
		most, product int
		want          [][]int
	}{
		{2, 0, nil}, {2, 1, [][]int{{1, 1}}}, {2, 2, [][]int{{1, 2}}}, {2, 3, nil}, {2, 4, [][]int{{2, 2}}}, {2, 5, nil},
		{4, 5, nil}, {5, 5, [][]int{{1, 5}}}, {4, 16, [][]int{{4, 4}}}, {4, 17, nil}, {5, 4, [][]int{{1, 4}, {2, 2}}}, {3, 4, [][]int{{2, 2}}},
		{40, 0, nil}, {40, 1, [][]int{{1, 1}}}, {40, 36, [][]int{{1, 36}, {2, 18}, {3, 12}, {4, 9}, {6, 6}}}, {35, 36, [][]int{{2, 18}, {3, 12}, {4, 9}, {6, 6}}}, {40, 41, nil}, {40, 1600, [][]int{{40, 40}}}, {40, 1601, nil}, {40, math.MaxInt, nil},
	} {
		rows, ok := impl.PairsOfProduct(c.most, c.product)
		wantRows(t, "PairsOfProduct", rows, ok, c.want...)
	}
}

func TestTalksOfWhichNoPairIsLeft(t *testing.T) {
	for _, c := range []struct {
		most int
		talk string
	}{
		{2, "s-"}, {2, "p-"}, {2, "s!"}, {2, "p!"}, {3, "p-"}, {3, "s!"}, {4, "s!"}, {4, "p-s-"}, {4, "s-p-s-"}, {5, "s!p+s+"}, {10, "p-s!p+"}, {9, strings.Repeat("s!", 12)}, {40, "s+s-"}, {40, "p-p+"}, {40, "p-s!p+s+"},
		{40, strings.Repeat("s!", 12)}, {40, strings.Repeat("s-p-", 5) + "s-p+"}, {2, strings.Repeat("s-p-", 6)},
	} {
		rows, ok := impl.PairsLeft(c.most, c.talk)
		wantRows(t, "PairsLeft of which none is", rows, ok)
		n, ok := impl.CountLeft(c.most, c.talk)
		wantInt(t, "CountLeft of which none is", n, ok, 0)
		a, b, ok := impl.FirstLeft(c.most, c.talk)
		wantNoTwo(t, "FirstLeft of which none is", a, b, ok)
		list, ok := impl.SumsAlone(c.most, c.talk)
		wantInts(t, "SumsAlone of which none is", list, ok)
		list, ok = impl.ProductsAlone(c.most, c.talk)
		wantInts(t, "ProductsAlone of which none is", list, ok)
		texts, ok := impl.NextStatements(c.most, c.talk)
		wantTexts(t, "NextStatements where no pair is left", texts, ok)
		is, ok := impl.IsToldByTalk(c.most, c.talk)
		wantBool(t, "IsToldByTalk where no pair is left", is, ok, false)
		is, ok = impl.IsTrueTalk(c.most, 1, 2, c.talk)
		wantBool(t, "IsTrueTalk where no pair is left", is, ok, false)
	}
}

func TestPairsLeftEdges(t *testing.T) {
	last := strings.Repeat("s-p-", 5) + "s-p+"
	for _, c := range []struct {
		most int
		talk string
		want [][]int
		next string
	}{
		{2, "", [][]int{{1, 1}, {1, 2}, {2, 2}}, "s+ p+"}, {2, "s+", [][]int{{1, 1}, {1, 2}, {2, 2}}, "s+ p+"}, {2, strings.Repeat("p+", 12), [][]int{{1, 1}, {1, 2}, {2, 2}}, "s+ p+"},
		{3, "", [][]int{{1, 1}, {1, 2}, {1, 3}, {2, 2}, {2, 3}, {3, 3}}, "s- s+ p+ p!"}, {3, "s-", [][]int{{1, 3}, {2, 2}}, "s- p+ p!"}, {3, "s+", [][]int{{1, 1}, {1, 2}, {2, 3}, {3, 3}}, "s+ p+"}, {3, "p!", [][]int{{1, 3}, {2, 2}}, "s- p+ p!"},
		{4, "p-", [][]int{{1, 4}, {2, 2}}, "s+ s! p-"}, {4, "p!", [][]int{{1, 3}, {1, 4}, {2, 2}, {2, 3}, {2, 4}, {3, 3}}, "s- p- p+ p!"}, {4, "s-p+", [][]int{{1, 3}, {2, 3}, {2, 4}, {3, 3}}, "s- s+ p+ p!"}, {4, "s-p+s+", [][]int{{1, 3}, {2, 3}}, "s+ p+"}, {4, "s-p-s+", [][]int{{1, 4}, {2, 2}}, "s+ s! p-"}, {4, strings.Repeat("s+", 12), [][]int{{1, 1}, {1, 2}, {3, 4}, {4, 4}}, "s+ p+"},
		{9, strings.Repeat("s-p-", 6), [][]int{{1, 8}, {1, 9}, {2, 4}, {2, 9}, {3, 3}, {3, 6}, {3, 8}, {4, 6}}, "s- s! p- p!"},
		{10, "s!", [][]int{{1, 4}, {1, 6}, {2, 3}, {2, 5}, {3, 4}}, "s- p- p+ p!"}, {10, "s!p+", [][]int{{1, 4}, {2, 5}, {3, 4}}, "s- s+ p+ p!"}, {10, "s!p+s+", [][]int{{1, 4}}, "s+ p+"}, {10, "p-s+", [][]int{{2, 2}, {4, 10}}, "s+ p+"}, {10, strings.Repeat("s!p-", 6), [][]int{{1, 6}, {2, 3}}, "s+ s! p-"},
		{36, last, [][]int{{27, 28}}, "s+ p+"}, {38, last, [][]int{{27, 28}}, "s+ p+"}, {40, strings.Repeat("s+", 12), [][]int{{1, 1}, {1, 2}, {39, 40}, {40, 40}}, "s+ p+"}, {40, "s!p+s+", [][]int{{1, 4}, {4, 7}, {5, 8}}, "s+ p+"}, {40, "p-s+", [][]int{{2, 2}, {24, 39}, {24, 40}, {28, 40}, {30, 36}}, "s+ p+"},
	} {
		rows, ok := impl.PairsLeft(c.most, c.talk)
		wantRows(t, "PairsLeft", rows, ok, c.want...)
		n, ok := impl.CountLeft(c.most, c.talk)
		wantInt(t, "CountLeft", n, ok, len(c.want))
		a, b, ok := impl.FirstLeft(c.most, c.talk)
		wantTwo(t, "FirstLeft", a, b, ok, c.want[0][0], c.want[0][1])
		is, ok := impl.IsToldByTalk(c.most, c.talk)
		wantBool(t, "IsToldByTalk", is, ok, len(c.want) == 1)
		texts, ok := impl.NextStatements(c.most, c.talk)
		wantTexts(t, "NextStatements", texts, ok, strings.Fields(c.next)...)
	}
}

func TestCountLeftEdges(t *testing.T) {
	for _, c := range []struct {
		most int
		talk string
		want int
	}{
		{40, "", 820}, {40, "s-", 816}, {40, "s+", 4}, {40, "s!", 60}, {40, "p-", 498}, {40, "p+", 322}, {40, "p!", 816}, {40, "p-s-", 493}, {40, "s!p+", 28}, {40, strings.Repeat("s-p-", 6), 486}, {40, strings.Repeat("p!", 12), 816}, {40, strings.Repeat("s!p-", 6), 32},
		{36, strings.Repeat("s-p-", 6), 381}, {36, strings.Repeat("p-s-", 6), 380}, {38, strings.Repeat("s-p-", 6), 421}, {39, "", 780}, {2, "", 3},
	} {
		n, ok := impl.CountLeft(c.most, c.talk)
		wantInt(t, "CountLeft of "+c.talk, n, ok, c.want)
	}
}

func TestAloneEdges(t *testing.T) {
	for _, c := range []struct {
		most           int
		talk           string
		sums, products []int
	}{
		{2, "", ages(2, 3, 4), ages(1, 2, 4)}, {3, "", ages(2, 3, 5, 6), ages(1, 2, 3, 4, 6, 9)}, {4, "", ages(2, 3, 7, 8), ages(1, 2, 3, 6, 8, 9, 12, 16)},
		{3, "s-", nil, ages(3, 4)}, {4, "p-", ages(4, 5), nil}, {4, "s-", nil, ages(3, 6, 8, 9)}, {4, "p+", ages(2, 3, 4, 5, 7, 8), ages(1, 2, 3, 6, 8, 9, 12, 16)},
		{9, strings.Repeat("s-p-", 6), nil, nil}, {10, "s!p+s+", ages(5), ages(4)}, {36, strings.Repeat("s-p-", 6), ages(55), nil}, {36, strings.Repeat("p-s-", 6), nil, ages(700)}, {40, strings.Repeat("s+", 12), ages(2, 3, 79, 80), ages(1, 2, 1560, 1600)}, {40, "p+s+", ages(2, 3, 4, 6, 8, 12, 16, 21, 25, 27, 29, 79, 80), ages(1, 2, 3, 5, 7, 11, 46, 55, 92, 98, 138, 1560, 1600)},
	} {
		list, ok := impl.SumsAlone(c.most, c.talk)
		wantInts(t, "SumsAlone of "+c.talk, list, ok, c.sums...)
		list, ok = impl.ProductsAlone(c.most, c.talk)
		wantInts(t, "ProductsAlone of "+c.talk, list, ok, c.products...)
	}
}

func TestIsTrueTalkEdges(t *testing.T) {
	for _, c := range []struct {
		most, a, b int
		talk       string
		want       bool
	}{
		{2, 1, 1, "", true}, {2, 1, 1, "s+", true}, {2, 1, 1, "s-", false}, {2, 2, 2, "p+s+", true}, {2, 1, 2, "p!", false}, {4, 2, 2, "p-", true}, {4, 2, 2, "p-s+", true}, {4, 2, 2, "p-s-", false}, {4, 2, 2, "s+", false}, {4, 1, 4, "p-", true}, {4, 4, 4, "p-", false}, {4, 1, 3, "p!", true}, {4, 1, 3, "p!p+", true}, {4, 1, 3, "p!s+", false},
		{10, 1, 4, "s!p+s+", true}, {10, 2, 5, "s!p+s+", false}, {10, 3, 4, "s!p+", true}, {36, 27, 28, strings.Repeat("s-p-", 5) + "s-p+", true}, {36, 25, 28, strings.Repeat("s-p-", 6), true}, {36, 25, 28, strings.Repeat("s-p-", 5) + "s-p+", false},
		{40, 40, 40, "", true}, {40, 40, 40, "s+", true}, {40, 40, 40, "s-", false}, {40, 1, 40, strings.Repeat("s-p-", 6), true}, {40, 1, 40, "p+", false}, {40, 20, 20, strings.Repeat("p-s-", 6), true},
	} {
		is, ok := impl.IsTrueTalk(c.most, c.a, c.b, c.talk)
		wantBool(t, "IsTrueTalk of "+c.talk, is, ok, c.want)
	}
}

func TestTrueTalkEdges(t *testing.T) {
	silent := strings.Repeat("s-p-", 6)
	silentFromP := strings.Repeat("p-s-", 6)
	for _, c := range []struct {
		most, a, b   int
		fromS, fromP string
		s, p         int
	}{
		{2, 1, 1, "s+", "p+", 1, 1}, {2, 1, 2, "s+", "p+", 1, 1}, {2, 2, 2, "s+", "p+", 1, 1}, {3, 1, 3, "s-p+", "p+", 2, 1}, {3, 2, 2, "s-p+", "p+", 2, 1}, {4, 2, 2, "s-p-s+", "p-s+", 3, 2}, {4, 1, 4, "s-p-s+", "p-s+", 3, 2}, {4, 4, 4, "s+", "p+", 1, 1},
		{9, 2, 8, "s-p-s-p-s-p-s-p-s-p+", "p-s-p-s-p-s-p-s-p+", 10, 9}, {10, 1, 6, "s-p-s-p-s-p+", "p-s-p-s-p+", 6, 5}, {10, 5, 5, "s-p+", "p+", 2, 1},
		// Here somebody knows with the last statement that there may be, just behind it, and later.
		{38, 27, 28, strings.Repeat("s-p-", 5) + "s-p+", strings.Repeat("p-s-", 5) + "p+", 12, 11}, {36, 20, 35, silent, strings.Repeat("p-s-", 5) + "p-s+", 13, 12}, {36, 25, 28, silent, silentFromP, 14, 13}, {37, 25, 28, silent, silentFromP, 14, 13},
		// Here nobody ever knows.
		{9, 1, 9, silent, silentFromP, 0, 0}, {10, 1, 8, silent, silentFromP, 0, 0}, {40, 1, 40, silent, silentFromP, 0, 0}, {40, 20, 20, silent, silentFromP, 0, 0},
		{40, 1, 1, "s+", "p+", 1, 1}, {40, 40, 40, "s+", "p+", 1, 1},
	} {
		text, ok := impl.TrueTalk(c.most, c.a, c.b, "s")
		wantText(t, "TrueTalk from s", text, ok, c.fromS)
		text, ok = impl.TrueTalk(c.most, c.a, c.b, "p")
		wantText(t, "TrueTalk from p", text, ok, c.fromP)
		fromS, okS := impl.KnownAfter(c.most, c.a, c.b, "s")
		fromP, okP := impl.KnownAfter(c.most, c.a, c.b, "p")
		if c.s == 0 {
			wantNoInt(t, "KnownAfter from s, never", fromS, okS)
			wantNoInt(t, "KnownAfter from p, never", fromP, okP)
		} else {
			wantInt(t, "KnownAfter from s", fromS, okS, c.s)
			wantInt(t, "KnownAfter from p", fromP, okP, c.p)
		}
	}
}

func TestLongestTalkEdges(t *testing.T) {
	for _, c := range []struct {
		most, a, b, s, p, never int
	}{
		{2, 1, 1, 1, 1, 0}, {4, 1, 4, 3, 2, 0}, {6, 1, 6, 5, 4, 0}, {8, 2, 6, 7, 6, 0}, {firstLimitOfNever - 1, 2, 6, 7, 6, 0}, {firstLimitOfNever, 2, 8, 10, 9, 8}, {10, 1, 6, 6, 5, 20}, {13, 6, 8, 8, 7, 24}, {25, 12, 22, 10, 9, 154},
		{36, 25, 28, greatestKnown, greatestKnown - 1, 379}, {38, 27, 28, 12, 11, 421}, {40, 1, 6, 6, 5, 486},
	} {
		a, b, n, ok := impl.LongestTalk(c.most, "s")
		wantThree(t, "LongestTalk from s", a, b, n, ok, c.a, c.b, c.s)
		a, b, n, ok = impl.LongestTalk(c.most, "p")
		wantThree(t, "LongestTalk from p", a, b, n, ok, c.a, c.b, c.p)
		for _, who := range goodWho() {
			n, ok = impl.CountNeverKnown(c.most, who)
			wantInt(t, "CountNeverKnown from "+who, n, ok, c.never)
		}
	}
	// Who begins decides here: the product tells each pair at once.
	a, b, n, ok := impl.LongestTalk(3, "s")
	wantThree(t, "LongestTalk 3 s", a, b, n, ok, 1, 3, 2)
	a, b, n, ok = impl.LongestTalk(3, "p")
	wantThree(t, "LongestTalk 3 p", a, b, n, ok, 1, 1, 1)
}

func TestLimitsEdges(t *testing.T) {
	limitsFrom := func(least int) []int { return numbersWhen(least, greatestLimit, func(int) bool { return true }) }
	for _, c := range []struct {
		a, b int
		talk string
		want []int
	}{
		// Of none.
		{1, 1, "s-", nil}, {1, 2, "s-", nil}, {1, 5, "p-", nil}, {2, 2, strings.Repeat("s!", 12), nil}, {4, 13, "p-s!p+s+", nil}, {40, 40, "s-", nil}, {2, 3, "s+s-", nil},
		// Of one.
		{2, 3, "s+", ages(3)}, {3, 3, "s+", ages(3)}, {2, 8, "s-p-s-p-s-p-s-p-s-p+", ages(9)}, {40, 40, "", ages(40)}, {1, 40, "", ages(40)}, {39, 40, "p+", ages(40)}, {40, 40, "s+", ages(40)},
		// Of several.
		{12, 12, "p+", ages(12, 13, 14, 15)}, {6, 8, "s-p-s-p-s-p-s-p+", ages(12, 13)}, {27, 28, strings.Repeat("s-p-", 5) + "s-p+", ages(36, 37, 38)}, {5, 8, "s!p+s+", ages(38, 39, 40)}, {25, 28, strings.Repeat("s-p-", 6), ages(36, 37, 38, 39, 40)},
		{1, 1, "", limitsFrom(2)}, {1, 2, "", limitsFrom(2)}, {2, 2, "p+s+", ages(2)}, {1, 1, "p+s+", limitsFrom(2)}, {1, 3, "", limitsFrom(3)}, {2, 2, "p-", limitsFrom(4)}, {2, 2, "p-s+", limitsFrom(4)}, {1, 6, "s!", limitsFrom(10)}, {4, 7, "s!p+s+", limitsFrom(25)}, {1, 5, "p+", limitsFrom(5)}, {1, 3, "p!p+", limitsFrom(3)},
	} {
		list, ok := impl.LimitsOf(c.a, c.b, c.talk)
		wantInts(t, "LimitsOf", list, ok, c.want...)
		n, ok := impl.LeastLimit(c.a, c.b, c.talk)
		if len(c.want) == 0 {
			wantNoInt(t, "LeastLimit of none", n, ok)
		} else {
			wantInt(t, "LeastLimit", n, ok, c.want[0])
		}
	}
}

func TestPairsThatAreNone(t *testing.T) {
	for most := leastLimit; most <= greatestLimit; most++ {
		for _, bad := range badPairs(most) {
			for _, talk := range []string{"", "s-", "p+s!"} {
				is, ok := impl.IsTrueTalk(most, bad[0], bad[1], talk)
				wantNoBool(t, "IsTrueTalk of no pair", is, ok)
			}
			for _, who := range goodWho() {
				text, ok := impl.TrueTalk(most, bad[0], bad[1], who)
				wantNoText(t, "TrueTalk of no pair", text, ok)
				n, ok := impl.KnownAfter(most, bad[0], bad[1], who)
				wantNoInt(t, "KnownAfter of no pair", n, ok)
			}
			if t.Failed() {
				t.Fatalf("of the limit %d and %v", most, bad)
			}
		}
	}
	for _, bad := range badPairs(greatestLimit) {
		for _, talk := range []string{"", "s-", "p+"} {
			list, ok := impl.LimitsOf(bad[0], bad[1], talk)
			wantNone(t, "LimitsOf no pair", list, ok)
			n, ok := impl.LeastLimit(bad[0], bad[1], talk)
			wantNoInt(t, "LeastLimit of no pair", n, ok)
		}
	}
}
