package tests

import (
	"math"
	"slices"
	"testing"

	"loop.example/g01369/impl"
)

func TestIsRatioEdges(t *testing.T) {
	for _, r := range goodRatios() {
		if !impl.IsRatio(r) {
			t.Errorf("%v is a ratio", r)
		}
	}
	for _, r := range badRatios() {
		if impl.IsRatio(r) {
			t.Errorf("%v is no ratio", r)
		}
	}
}

func TestYearsUntilRatioEdges(t *testing.T) {
	for _, c := range []struct {
		a, b     int
		r        string
		num, den int
	}{
		{40, 12, "6:2", 2, 1}, {40, 12, "10:4", 20, 3}, {12, 40, "1:3", 2, 1}, {12, 40, "2:5", 20, 3},
		// It is so now.
		{40, 12, "10:3", 0, 1}, {40, 12, "20:6", 0, 1}, {12, 40, "3:10", 0, 1}, {120, 60, "2:1", 0, 1}, {1, 100, "1:100", 0, 1}, {100, 1, "100:1", 0, 1}, {120, 119, "100:99", -20, 1},
		// It was so years ago.
		{40, 12, "5:1", -5, 1}, {40, 12, "8:1", -8, 1}, {40, 12, "9:2", -4, 1}, {40, 12, "7:2", -4, 5}, {12, 40, "2:7", -4, 5}, {120, 119, "2:1", -118, 1}, {120, 119, "100:1", -11780, 99}, {119, 120, "1:100", -11780, 99},
		{120, 0, "2:1", 120, 1}, {120, 0, "100:99", 11880, 1}, {0, 120, "99:100", 11880, 1}, {120, 0, "100:1", 40, 33}, {0, 120, "1:100", 40, 33}, {1, 0, "100:99", 99, 1}, {1, 0, "2:1", 1, 1}, {0, 1, "1:2", 1, 1},
	} {
		num, den, ok := impl.YearsUntilRatio(c.a, c.b, ratioOf(c.r))
		wantTwo(t, "YearsUntilRatio "+c.r, num, den, ok, c.num, c.den)
	}
	for _, c := range []struct {
		a, b int
		r    string
	}{
		// Never.
		{40, 12, "1:1"}, {12, 40, "1:1"}, {40, 12, "100:100"}, {120, 119, "7:7"}, {0, 1, "1:1"}, {1, 0, "1:1"},
		// Always.
		{20, 20, "1:1"}, {0, 0, "1:1"}, {120, 120, "100:100"}, {1, 1, "2:2"},
		// Both are 0 then.
		{20, 20, "2:1"}, {20, 20, "1:2"}, {0, 0, "3:1"}, {120, 120, "100:99"}, {1, 1, "1:100"},
		// They are less than 0 then.
		{40, 12, "1:2"}, {12, 40, "2:1"}, {120, 0, "1:100"}, {0, 120, "100:1"}, {1, 0, "1:2"}, {1, 0, "99:100"}, {119, 120, "100:99"},
	} {
		num, den, ok := impl.YearsUntilRatio(c.a, c.b, ratioOf(c.r))
		wantNoTwo(t, "YearsUntilRatio "+c.r+" that does not come", num, den, ok)
	}
}

func TestAgesFromSumEdges(t *testing.T) {
	for _, c := range []struct {
		sum      int
		r        string
		a, b, by int
	}{
		{60, "6:2", 45, 15, 1}, {60, "1:3", 15, 45, 1}, {6, "2:4", 2, 4, 1}, {7, "5:2", 5, 2, 1}, {1000, "2:3", 400, 600, 1}, {999, "2:1", 666, 333, 1}, {1000, "99:1", 990, 10, 1}, {101, "100:1", 100, 1, 1}, {101, "1:100", 1, 100, 1}, {1000, "1:1", 500, 500, 1}, {1000, "100:100", 500, 500, 1},
		// These are not whole.
		{1, "1:1", 1, 1, 2}, {1, "100:100", 1, 1, 2}, {999, "1:1", 999, 999, 2}, {10, "5:2", 50, 20, 7}, {10, "10:4", 50, 20, 7}, {5, "1:3", 5, 15, 4}, {10, "1:3", 5, 15, 2}, {1, "100:1", 100, 1, 101}, {1, "1:100", 1, 100, 101}, {1, "100:99", 100, 99, 199}, {1000, "100:1", 100000, 1000, 101}, {1000, "97:89", 48500, 44500, 93},
	} {
		a, b, by, ok := impl.AgesFromSum(c.sum, ratioOf(c.r))
		wantThree(t, "AgesFromSum "+c.r, a, b, by, ok, c.a, c.b, c.by)
	}
}

func TestAgesFromGapEdges(t *testing.T) {
	for _, c := range []struct {
		gap      int
		r        string
		a, b, by int
	}{
		{28, "6:2", 42, 14, 1}, {-28, "1:3", 14, 42, 1}, {1, "2:1", 2, 1, 1}, {6, "10:4", 10, 4, 1}, {9, "10:4", 15, 6, 1}, {3, "100:98", 150, 147, 1}, {120, "2:1", 240, 120, 1}, {-120, "1:2", 120, 240, 1}, {120, "100:99", 12000, 11880, 1}, {-120, "99:100", 11880, 12000, 1}, {-119, "50:100", 119, 238, 1},
		// These are not whole.
		{1, "3:1", 3, 1, 2}, {-1, "1:3", 1, 3, 2}, {7, "9:4", 63, 28, 5}, {119, "100:2", 850, 17, 7}, {120, "100:1", 4000, 40, 33}, {-1, "1:100", 1, 100, 99},
	} {
		a, b, by, ok := impl.AgesFromGap(c.gap, ratioOf(c.r))
		wantThree(t, "AgesFromGap "+c.r, a, b, by, ok, c.a, c.b, c.by)
	}
	for _, c := range []struct {
		gap int
		r   string
	}{
		{0, "1:1"}, {0, "2:1"}, {0, "1:2"}, {0, "100:100"}, {1, "1:1"}, {-1, "1:1"}, {120, "100:100"}, {-120, "3:3"}, {28, "1:3"}, {-28, "3:1"}, {1, "99:100"}, {-1, "100:99"}, {120, "1:100"}, {-120, "100:1"},
	} {
		a, b, by, ok := impl.AgesFromGap(c.gap, ratioOf(c.r))
		wantNoThree(t, "AgesFromGap "+c.r+" of none", a, b, by, ok)
	}
}

func TestAgesFromTwoEdges(t *testing.T) {
	for _, c := range []struct {
		now, then string
		years     int
		a, b, by  int
	}{
		{"6:2", "4:2", 10, 30, 10, 1}, {"1:3", "1:2", 10, 10, 30, 1}, {"3:1", "2:1", 1, 3, 1, 1}, {"3:1", "2:1", 120, 360, 120, 1}, {"100:1", "99:1", 1, 9800, 98, 1}, {"1:100", "1:99", 120, 11760, 1176000, 1},
		{"2:1", "3:1", -10, 40, 20, 1}, {"2:1", "3:1", -1, 4, 2, 1}, {"2:1", "3:1", -120, 480, 240, 1}, {"1:2", "1:3", -10, 20, 40, 1},
		// These are not whole.
		{"4:1", "2:1", 15, 60, 15, 2}, {"5:2", "7:4", 3, 15, 6, 2}, {"7:4", "5:2", -3, 21, 12, 2}, {"100:1", "2:1", 120, 6000, 60, 49}, {"100:99", "100:98", -1, 100, 99, 50}, {"100:98", "100:99", 1, 50, 49, 50},
	} {
		a, b, by, ok := impl.AgesFromTwo(ratioOf(c.now), ratioOf(c.then), c.years)
		wantThree(t, "AgesFromTwo "+c.now+" "+c.then, a, b, by, ok, c.a, c.b, c.by)
	}
	for _, c := range []struct {
		now, then string
		years     int
	}{
		{"3:1", "2:1", 0}, {"2:1", "3:1", 0}, {"1:1", "1:1", 0}, {"3:1", "3:1", 0},
		// Many ages are always 1:1, and none stay at another ratio.
		{"1:1", "1:1", 10}, {"1:1", "2:2", -5}, {"100:100", "3:3", 120}, {"3:1", "3:1", 10}, {"3:1", "6:2", 10}, {"1:2", "50:100", -10},
		// A ratio goes nearer to 1, and never over it.
		{"3:1", "2:1", -10}, {"2:1", "3:1", 10}, {"1:2", "1:3", 10}, {"1:3", "1:2", -10}, {"1:1", "2:1", 10}, {"2:1", "1:1", 10}, {"2:1", "1:1", -10}, {"1:1", "1:2", 10}, {"2:1", "1:2", 10}, {"1:2", "2:1", 10},
		// Here the ages are greater than 0 now, but not then.
		{"1:1", "2:1", -10}, {"1:1", "1:2", -10}, {"2:1", "1:2", -10}, {"1:2", "2:1", -10}, {"100:1", "1:100", -120},
	} {
		a, b, by, ok := impl.AgesFromTwo(ratioOf(c.now), ratioOf(c.then), c.years)
		wantNoThree(t, "AgesFromTwo "+c.now+" "+c.then+" that none or many fit", a, b, by, ok)
	}
}

func TestAgesFromThenEdges(t *testing.T) {
	for _, c := range []struct {
		before, after string
		ago, years    int
		a, b, by      int
	}{
		{"8:2", "6:3", 5, 10, 70, 25, 2}, {"1:4", "1:2", 5, 10, 25, 70, 2}, {"3:1", "2:1", 5, 5, 35, 15, 1}, {"3:1", "2:1", 1, 1, 7, 3, 1}, {"3:1", "2:1", 1, 119, 361, 121, 1}, {"3:1", "2:1", 119, 1, 479, 239, 1}, {"3:1", "2:1", 60, 60, 420, 180, 1}, {"100:1", "99:1", 1, 119, 1176001, 11761, 1},
		{"5:2", "7:4", 2, 1, 19, 10, 2}, {"100:1", "2:1", 60, 60, 8940, 3000, 49}, {"100:1", "2:1", 1, 1, 149, 50, 49}, {"100:98", "100:99", 119, 1, 1195, 1183, 5},
	} {
		a, b, by, ok := impl.AgesFromThen(ratioOf(c.before), ratioOf(c.after), c.ago, c.years)
		wantThree(t, "AgesFromThen "+c.before+" "+c.after, a, b, by, ok, c.a, c.b, c.by)
	}
	for _, c := range []struct {
		before, after string
		ago, years    int
	}{
		// Many fit, or none.
		{"1:1", "1:1", 5, 10}, {"2:2", "100:100", 60, 60}, {"3:1", "3:1", 5, 10}, {"3:1", "6:2", 5, 10}, {"2:1", "4:1", 5, 10}, {"1:2", "1:4", 5, 10}, {"1:1", "2:1", 5, 10}, {"2:1", "1:2", 5, 10},
		// Here the ages are greater than 0 now and in years, but were not so years ago.
		{"1:2", "2:1", 12, 3}, {"2:1", "1:2", 12, 3}, {"2:1", "1:1", 5, 10}, {"1:2", "1:1", 119, 1},
		// Both together are more than MaxAge.
		{"4:1", "2:1", 1, 120}, {"4:1", "2:1", 120, 1}, {"4:1", "2:1", 61, 60}, {"4:1", "2:1", 60, 61}, {"4:1", "2:1", 120, 120},
		{"4:1", "2:1", 0, 10}, {"4:1", "2:1", 5, 0}, {"4:1", "2:1", 0, 0}, {"4:1", "2:1", -5, 10}, {"4:1", "2:1", 5, -10}, {"2:1", "4:1", -5, -10}, {"4:1", "2:1", math.MaxInt, math.MaxInt}, {"4:1", "2:1", math.MinInt, math.MaxInt}, {"4:1", "2:1", math.MinInt, math.MinInt},
	} {
		a, b, by, ok := impl.AgesFromThen(ratioOf(c.before), ratioOf(c.after), c.ago, c.years)
		wantNoThree(t, "AgesFromThen "+c.before+" "+c.after+" that none or many fit", a, b, by, ok)
	}
}

func TestRatiosInYearsEdges(t *testing.T) {
	for _, c := range []struct {
		a, b, years int
		want        string
	}{
		{40, 12, 0, "10:3"}, {40, 12, 2, "10:3,41:13,3:1"}, {12, 40, 2, "3:10,13:41,1:3"}, {1, 1, 0, "1:1"}, {120, 120, 0, "1:1"}, {1, 100, 0, "1:100"}, {100, 1, 0, "100:1"}, {2, 120, 0, "1:60"}, {120, 60, 0, "2:1"}, {120, 1, 0, ""}, {1, 120, 0, ""}, {101, 1, 0, ""}, {1, 101, 0, ""}, {120, 119, 0, ""},
		{99, 1, 1, "99:1,50:1"}, {100, 1, 1, ""}, {1, 100, 1, ""}, {2, 120, 1, ""}, {100, 99, 0, "100:99"}, {100, 99, 1, ""}, {120, 118, 0, "60:59"}, {120, 118, 1, ""},
		// In 1 year it leaves 1..MaxPart, and comes back.
		{120, 60, 1, ""}, {120, 60, 2, ""}, {110, 100, 0, "11:10"}, {110, 100, 5, ""},
		{0, 12, 0, ""}, {12, 0, 0, ""}, {0, 0, 0, ""}, {0, 12, 1, ""}, {12, 0, 20, ""}, {0, 0, 20, ""},
		{80, 79, 20, "80:79,81:80,82:81,83:82,84:83,85:84,86:85,87:86,88:87,89:88,90:89,91:90,92:91,93:92,94:93,95:94,96:95,97:96,98:97,99:98,100:99"}, {81, 80, 20, ""}, {80, 81, 20, ""},
		{1, 2, 20, "1:2,2:3,3:4,4:5,5:6,6:7,7:8,8:9,9:10,10:11,11:12,12:13,13:14,14:15,15:16,16:17,17:18,18:19,19:20,20:21,21:22"},
	} {
		list, ok := impl.RatiosInYears(c.a, c.b, c.years)
		if c.want == "" {
			wantNone(t, "RatiosInYears that leave 1..MaxPart", list, ok)
		} else {
			wantRatios(t, "RatiosInYears", list, ok, ratiosOf(c.want))
		}
	}
	for _, age := range ages(1, 60, 120) {
		list, ok := impl.RatiosInYears(age, age, 20)
		wantRatios(t, "RatiosInYears of equal ages", list, ok, manyRatios(21, ratio(1, 1)))
	}
}

func TestWholeRatioYearsEdges(t *testing.T) {
	for _, c := range []struct {
		a, b int
		want []int
	}{
		{1, 0, ages(1)}, {120, 119, ages(-118)}, {7, 0, ages(1, 7)}, {13, 2, ages(-1, 9)}, {120, 1, ages(0, 6, 16, 118)}, {60, 0, ages(1, 2, 3, 4, 5, 6, 10, 12, 15, 20, 30, 60)},
		{120, 0, ages(1, 2, 3, 4, 5, 6, 8, 10, 12, 15, 20, 24, 30, 40, 60, 120)}, {120, 60, ages(-59, -58, -57, -56, -55, -54, -50, -48, -45, -40, -30, 0)}, {40, 12, ages(-11, -10, -8, -5, 2, 16)},
	} {
		list, ok := impl.WholeRatioYears(c.a, c.b)
		wantInts(t, "WholeRatioYears", list, ok, c.want...)
		list, ok = impl.WholeRatioYears(c.b, c.a)
		wantInts(t, "WholeRatioYears of the younger one first", list, ok, c.want...)
	}
	for _, age := range ages(0, 1, 60, 120) {
		list, ok := impl.WholeRatioYears(age, age)
		wantNone(t, "WholeRatioYears of equal ages", list, ok)
	}
}

func TestNearestYearEdges(t *testing.T) {
	for _, c := range []struct {
		a, b int
		r    string
		want int
	}{
		{40, 12, "3:1", 2}, {40, 12, "6:2", 2}, {40, 12, "28:10", 4}, {12, 40, "2:5", 7}, {12, 40, "5:14", 4}, {120, 0, "50:1", 3}, {0, 120, "1:50", 2},
		// The nearest one is the first or the last one of the range.
		{40, 12, "1:1", 120}, {40, 12, "1:100", 120}, {40, 12, "100:1", -11}, {12, 40, "1:100", -11}, {12, 40, "5:1", 120}, {120, 0, "1:1", 120}, {120, 0, "2:1", 120}, {120, 0, "100:1", 1}, {1, 0, "1:100", 120}, {0, 1, "1:100", 1}, {0, 1, "100:100", 120}, {0, 120, "1:1", 120}, {120, 119, "100:1", -118}, {119, 120, "1:100", -118},
		// Two years are equally near.
		{1, 0, "7:4", 1}, {2, 1, "7:4", 0}, {120, 119, "7:4", -118}, {0, 1, "7:12", 1}, {1, 2, "7:12", 0}, {119, 120, "7:12", -118}, {3, 1, "5:2", 0}, {6, 0, "11:2", 1}, {6, 0, "22:4", 1}, {7, 1, "11:2", 0},
	} {
		n, ok := impl.NearestYear(c.a, c.b, ratioOf(c.r))
		wantInt(t, "NearestYear "+c.r, n, ok, c.want)
	}
	for _, age := range ages(0, 1, 60, 120) {
		n, ok := impl.NearestYear(age, age, ratio(1, 1))
		wantNoInt(t, "NearestYear of equal ages", n, ok)
	}
}

func TestAgesOfChainEdges(t *testing.T) {
	for _, c := range []struct {
		chain string
		sum   int
		want  []int
	}{
		{"3:2,2:1", 6, ages(3, 2, 1)}, {"3:2", 1000, ages(600, 400)}, {"6:4", 5, ages(3, 2)}, {"2:4", 3, ages(1, 2)}, {"2:1,1:2", 5, ages(2, 1, 2)}, {"1:2,2:1", 4, ages(1, 2, 1)}, {"3:2,4:3", 13, ages(6, 4, 3)}, {"3:2,4:3", 26, ages(12, 8, 6)},
		{"1:1", 2, ages(1, 1)}, {"100:100", 1000, ages(500, 500)}, {"100:1", 101, ages(100, 1)}, {"1:100", 101, ages(1, 100)}, {"100:1", 909, ages(900, 9)}, {"99:1", 1000, ages(990, 10)},
		{"1:1,1:1,1:1,1:1,1:1,1:1", 7, ages(1, 1, 1, 1, 1, 1, 1)}, {"1:1,1:1,1:1,1:1,1:1,1:1", 994, manyAges(7, 142)}, {"2:1,2:1,2:1,2:1,2:1,2:1", 127, ages(64, 32, 16, 8, 4, 2, 1)}, {"1:2,1:2,1:2,1:2,1:2,1:2", 889, ages(7, 14, 28, 56, 112, 224, 448)},
	} {
		list, ok := impl.AgesOfChain(ratiosOf(c.chain), c.sum)
		wantInts(t, "AgesOfChain "+c.chain, list, ok, c.want...)
	}
	for _, c := range []struct {
		chain string
		sum   int
	}{
		{"3:2,2:1", 1}, {"3:2,2:1", 3}, {"3:2,2:1", 5}, {"3:2,2:1", 7}, {"3:2,2:1", 1000}, {"1:1", 1}, {"1:1", 999}, {"2:4", 1}, {"2:4", 4}, {"2:4", 1000}, {"100:1", 100}, {"100:1", 102}, {"100:1", 1000}, {"1:1,1:1,1:1,1:1,1:1,1:1", 1}, {"1:1,1:1,1:1,1:1,1:1,1:1", 6}, {"1:1,1:1,1:1,1:1,1:1,1:1", 1000}, {"100:1,100:1", 1000}, {"100:1,100:1,100:1,100:1,100:1,100:1", 1000}, {"2:1,2:1,2:1,2:1,2:1,2:1", 126},
	} {
		list, ok := impl.AgesOfChain(ratiosOf(c.chain), c.sum)
		wantNone(t, "AgesOfChain "+c.chain+" of ages that are not whole", list, ok)
	}
}

func TestLeastChainEdges(t *testing.T) {
	for _, c := range []struct {
		chain string
		want  []int
	}{
		{"1:1", ages(1, 1)}, {"100:100", ages(1, 1)}, {"100:1", ages(100, 1)}, {"1:100", ages(1, 100)}, {"2:4", ages(1, 2)}, {"50:100", ages(1, 2)}, {"98:100", ages(49, 50)}, {"3:2,4:3", ages(6, 4, 3)}, {"2:1,1:2", ages(2, 1, 2)}, {"1:2,1:2", ages(1, 2, 4)}, {"6:4,4:2", ages(3, 2, 1)}, {"5:2,7:3", ages(35, 14, 6)}, {"100:99,99:100", ages(100, 99, 100)},
		{"100:1,100:1,100:1,100:1,100:1,100:1", ages(1000000000000, 10000000000, 100000000, 1000000, 10000, 100, 1)}, {"1:100,1:100,1:100,1:100,1:100,1:100", ages(1, 100, 10000, 1000000, 100000000, 10000000000, 1000000000000)},
		{"100:99,100:99,100:99,100:99,100:99,100:99", ages(1000000000000, 990000000000, 980100000000, 970299000000, 960596010000, 950990049900, 941480149401)}, {"1:1,1:1,1:1,1:1,1:1,1:1", manyAges(7, 1)}, {"100:50,100:50,100:50,100:50,100:50,100:50", ages(64, 32, 16, 8, 4, 2, 1)},
	} {
		list, ok := impl.LeastChain(ratiosOf(c.chain))
		wantInts(t, "LeastChain "+c.chain, list, ok, c.want...)
	}
}

func TestLifeOfEdges(t *testing.T) {
	for _, c := range []struct {
		parts    string
		years    int
		num, den int
	}{
		{"1:2", 1, 2, 1}, {"2:4", 1, 2, 1}, {"2:4,2:8", 3, 12, 1}, {"1:2,1:3", 1, 6, 1}, {"1:2,1:3,1:7", 1, 42, 1}, {"1:7,1:7,1:7,1:7,1:7,1:7", 1, 7, 1}, {"99:100", 1, 100, 1},
		// A life of just MaxLife, and of more.
		{"1:2", 100, 200, 1}, {"99:100", 2, 200, 1}, {"1:2", 101, 202, 1}, {"1:2", 200, 400, 1}, {"99:100", 3, 300, 1}, {"99:100", 200, 20000, 1}, {"1:2,1:3,1:7,1:43", 1, 1806, 1}, {"1:2,1:3,1:7,1:43", 200, 361200, 1},
		// These are not whole.
		{"1:3", 1, 3, 2}, {"3:7", 9, 63, 4}, {"1:100", 1, 100, 99}, {"1:100,1:100,1:100,1:100,1:100,1:100", 200, 10000, 47}, {"1:97,1:89,1:83,1:79,1:73,1:71", 200, 2347135274584, 10866828023},
	} {
		num, den, ok := impl.LifeOf(ratiosOf(c.parts), c.years)
		wantTwo(t, "LifeOf "+c.parts, num, den, ok, c.num, c.den)
	}
}

func TestYearsOfPartEdges(t *testing.T) {
	for _, c := range []struct {
		parts    string
		years, k int
		num, den int
	}{
		{exampleParts, 9, 0, 14, 1}, {exampleParts, 9, 1, 7, 1}, {exampleParts, 9, 2, 12, 1}, {exampleParts, 9, 3, 42, 1}, {"2:4,2:8", 3, 0, 6, 1}, {"2:4,2:8", 3, 1, 3, 1}, {"1:2", 1, 0, 1, 1}, {"99:100", 200, 0, 19800, 1}, {"1:2,1:3,1:7,1:43", 200, 3, 8400, 1},
		{"3:7", 9, 0, 27, 4}, {"1:3", 1, 0, 1, 2}, {"1:100,1:100,1:100,1:100,1:100,1:100", 200, 5, 100, 47}, {"1:97,1:89,1:83,1:79,1:73,1:71", 200, 0, 24197270872, 10866828023}, {"1:97,1:89,1:83,1:79,1:73,1:71", 200, 5, 33058243304, 10866828023},
	} {
		num, den, ok := impl.YearsOfPart(ratiosOf(c.parts), c.years, c.k)
		wantTwo(t, "YearsOfPart "+c.parts, num, den, ok, c.num, c.den)
	}
	for _, parts := range []string{"1:2", exampleParts, "1:7,1:7,1:7,1:7,1:7,1:7"} {
		list := ratiosOf(parts)
		for _, k := range ages(math.MinInt, -len(list), -2, -1, len(list), len(list)+1, 6, 7, math.MaxInt) {
			num, den, ok := impl.YearsOfPart(list, 9, k)
			wantNoTwo(t, "YearsOfPart "+parts+" of a part that there is not", num, den, ok)
		}
	}
}

func TestWholeLivesEdges(t *testing.T) {
	for _, c := range []struct {
		parts string
		want  []int
	}{
		{"1:100", ages(100, 200)}, {"99:100", ages(100, 200)}, {"1:97", ages(97, 194)}, {"3:99,7:99", ages(99, 198)}, {"1:3,1:66", ages(66, 132, 198)}, {"1:8,1:25", ages(200)}, {"1:2,1:3,1:7", ages(42, 84, 126, 168)},
		{"1:97,1:89", nil}, {"1:3,1:67", nil}, {"1:2,1:3,1:7,1:43", nil}, {"1:97,1:89,1:83,1:79,1:73,1:71", nil},
	} {
		list, ok := impl.WholeLives(ratiosOf(c.parts))
		wantInts(t, "WholeLives "+c.parts, list, ok, c.want...)
	}
	for parts, step := range map[string]int{"1:2": 2, "2:4": 2, "50:100": 2, "34:51": 3, "1:4,2:4": 4, "1:7,1:7,1:7,1:7,1:7,1:7": 7} {
		list, ok := impl.WholeLives(ratiosOf(parts))
		wantInts(t, "WholeLives "+parts, list, ok, numbersWhen(1, greatestLife, func(life int) bool { return life%step == 0 })...)
	}
}

func TestPartsOfAllOfALifeOrMoreFail(t *testing.T) {
	for _, text := range []string{"1:1", "100:100", "2:1", "100:1", "1:2,1:2", "2:4,50:100", "1:2,1:3,1:6", "1:3,1:3,1:3", "99:100,1:100", "100:99", "1:6,1:6,1:6,1:6,1:6,1:6", "100:1,100:1,100:1,100:1,100:1,100:1", "1:2,1:3,1:7,1:42", "1:2,1:3,1:7,1:41", "1:100,1:1", "1:2,2:3", "2:1,1:2", "5:1,1:100,1:100,1:100,1:100,1:100"} {
		parts := ratiosOf(text)
		num, den, ok := impl.LifeOf(parts, 9)
		wantNoTwo(t, "LifeOf "+text, num, den, ok)
		for k := -1; k <= len(parts); k++ {
			num, den, ok = impl.YearsOfPart(parts, 9, k)
			wantNoTwo(t, "YearsOfPart "+text, num, den, ok)
		}
		list, ok := impl.WholeLives(parts)
		wantNone(t, "WholeLives "+text, list, ok)
	}
}

func TestSameRatioYearEdges(t *testing.T) {
	for _, c := range []struct{ a, b, c, d, num, den int }{
		{20, 2, 40, 12, 16, 1}, {12, 40, 2, 20, 16, 1}, {40, 12, 21, 2, 172, 9}, {100, 50, 61, 30, 50, 19}, {120, 118, 1, 0, 118, 1}, {1, 120, 0, 118, 118, 1}, {40, 20, 20, 10, 0, 1}, {120, 60, 2, 1, 0, 1}, {41, 21, 21, 11, -1, 1}, {100, 52, 60, 32, -4, 1}, {100, 52, 61, 32, -28, 19},
	} {
		num, den, ok := impl.SameRatioYear(c.a, c.b, c.c, c.d)
		wantTwo(t, "SameRatioYear", num, den, ok, c.num, c.den)
	}
	for _, four := range [][]int{
		// Never.
		{40, 12, 30, 2}, {12, 40, 2, 30}, {120, 119, 1, 0}, {0, 1, 119, 120},
		// Always.
		{40, 12, 40, 12}, {20, 20, 30, 30}, {0, 0, 0, 0}, {0, 0, 120, 120}, {120, 120, 120, 120}, {0, 120, 0, 120},
		// Somebody is 0 then.
		{20, 20, 30, 10}, {30, 10, 20, 20}, {120, 119, 120, 118}, {2, 0, 1, 0}, {0, 2, 0, 1}, {120, 0, 1, 0}, {0, 0, 2, 1}, {40, 12, 40, 20}, {40, 40, 12, 30}, {12, 30, 40, 40},
		// Somebody is less than 0 then.
		{40, 12, 12, 40}, {119, 120, 0, 2}, {120, 0, 119, 1}, {30, 20, 40, 10},
	} {
		num, den, ok := impl.SameRatioYear(four[0], four[1], four[2], four[3])
		wantNoTwo(t, "SameRatioYear that does not come", num, den, ok)
	}
}

func TestBothMultiplesEdges(t *testing.T) {
	for _, c := range []struct {
		a, b, c int
		want    []int
	}{
		{4, 2, 1, ages(0)}, {7, 3, 1, ages(1)}, {9, 3, 1, ages(0)}, {120, 60, 30, ages(0)}, {118, 2, 0, ages(2)}, {60, 5, 1, ages(0)}, {78, 6, 0, ages(2, 3, 6)}, {84, 12, 6, ages(-4, -3, 0)}, {120, 48, 42, ages(-40, -39, -36)},
		{120, 119, 118, nil}, {120, 1, 0, nil}, {120, 2, 0, nil}, {1, 2, 3, nil}, {1, 2, 4, nil}, {2, 4, 1, nil}, {4, 1, 2, nil}, {2, 1, 4, nil}, {19, 40, 5, nil}, {0, 60, 120, nil},
		// Those who are as old as each other are not at least 2 times as old.
		{20, 20, 10, nil}, {20, 10, 10, nil}, {10, 20, 10, nil}, {20, 20, 20, nil}, {0, 0, 0, nil}, {1, 0, 0, nil}, {120, 120, 120, nil}, {120, 0, 0, nil}, {120, 120, 0, nil},
	} {
		list, ok := impl.BothMultiples(c.a, c.b, c.c)
		wantInts(t, "BothMultiples", list, ok, c.want...)
	}
}

func TestTurnRatioEdges(t *testing.T) {
	for text, want := range map[string]string{"3:1": "1:3", "1:1": "1:1", "2:4": "4:2", "100:1": "1:100", "1:100": "100:1", "100:100": "100:100", "50:100": "100:50"} {
		r, ok := impl.TurnRatio(ratioOf(text))
		wantRatio(t, "TurnRatio "+text, r, ok, ratioOf(want))
	}
	for _, bad := range badRatios() {
		r, ok := impl.TurnRatio(bad)
		if ok || r != ratio(0, 0) {
			t.Errorf("TurnRatio of %v is %v, %v, not a failure", bad, r, ok)
		}
	}
}

func TestRatiosTextEdges(t *testing.T) {
	for _, c := range []struct {
		list []impl.Ratio
		want string
	}{
		{ratioList(ratio(1, 1)), "1:1"}, {ratioList(ratio(2, 4)), "2:4"}, {ratioList(ratio(100, 1)), "100:1"}, {ratioList(ratio(1, 100)), "1:100"}, {ratioList(ratio(3, 2), ratio(2, 1)), "3:2,2:1"}, {ratioList(ratio(2, 1), ratio(3, 2)), "2:1,3:2"}, {manyRatios(longestChain, ratio(100, 100)), "100:100,100:100,100:100,100:100,100:100,100:100"},
	} {
		text, ok := impl.RatiosText(c.list)
		wantText(t, "RatiosText", text, ok, c.want)
		list, ok := impl.ParseRatios(c.want)
		wantRatios(t, "ParseRatios "+c.want, list, ok, c.list)
	}
	for _, list := range badChains() {
		text, ok := impl.RatiosText(list)
		wantNoText(t, "RatiosText of no ratios", text, ok)
	}
}

func TestParseRatiosEdges(t *testing.T) {
	for _, text := range goodTextsOfRatios() {
		list, ok := impl.ParseRatios(text)
		wantRatios(t, "ParseRatios "+text, list, ok, ratiosOf(text))
	}
	for _, text := range badTextsOfRatios() {
		if list, ok := impl.ParseRatios(text); ok || len(list) != 0 {
			t.Errorf("ParseRatios %q is %v, %v, not a failure", text, list, ok)
		}
	}
}

// Bounds are held by the numbers at them and beside them, other arguments being good.
func TestBoundsOfRatioCalls(t *testing.T) {
	for _, sum := range ages(1, 2, 999, 1000) {
		if _, _, _, ok := impl.AgesFromSum(sum, ratio(3, 1)); !ok {
			t.Errorf("AgesFromSum of %d fails", sum)
		}
	}
	for _, gap := range ages(-120, -119, -1, 1, 119, 120) {
		r := ratio(3, 1)
		if gap < 0 {
			r = ratio(1, 3)
		}
		if _, _, _, ok := impl.AgesFromGap(gap, r); !ok {
			t.Errorf("AgesFromGap of %d fails", gap)
		}
	}
	for _, years := range ages(-120, -119, -1, 1, 119, 120) {
		pair := ratioList(ratio(3, 1), ratio(2, 1))
		if years < 0 {
			slices.Reverse(pair)
		}
		if _, _, _, ok := impl.AgesFromTwo(pair[0], pair[1], years); !ok {
			t.Errorf("AgesFromTwo of %d fails", years)
		}
	}
	for _, years := range ages(1, 2, 199, 200) {
		if _, _, ok := impl.LifeOf(ratiosOf("1:2"), years); !ok {
			t.Errorf("LifeOf %d fails", years)
		}
		if _, _, ok := impl.YearsOfPart(ratiosOf("1:2"), years, 0); !ok {
			t.Errorf("YearsOfPart of %d fails", years)
		}
	}
}
