package tests

import (
	"math"
	"math/big"
	"slices"
	"strconv"
	"strings"
	"testing"

	"loop.example/g01369/impl"
)

// The limits stand here, and below, as numbers of their own, so that a changed one is noticed.
const (
	greatestPart     = 100
	longestChain     = 6
	greatestLife     = 200
	greatestRatioSum = 1000
)

const exampleParts = "1:6,1:12,1:7,1:2"

func ratio(num int, den int) impl.Ratio { return impl.Ratio{Num: num, Den: den} }

func ratioList(list ...impl.Ratio) []impl.Ratio { return list }

func manyRatios(count int, r impl.Ratio) []impl.Ratio { return slices.Repeat(ratioList(r), count) }

// ratiosOf reads a text that is known to be right.
func ratiosOf(text string) []impl.Ratio {
	var list []impl.Ratio
	for _, word := range strings.Split(text, ",") {
		list = append(list, ratioOf(word))
	}
	return list
}

func ratioOf(text string) impl.Ratio {
	first, second, _ := strings.Cut(text, ":")
	num, _ := strconv.Atoi(first)
	den, _ := strconv.Atoi(second)
	return ratio(num, den)
}

// textOfRatios tells by the definition alone the text of a list.
func textOfRatios(list []impl.Ratio) string {
	var text strings.Builder
	for i, r := range list {
		if i > 0 {
			text.WriteString(",")
		}
		text.WriteString(strconv.Itoa(r.Num) + ":" + strconv.Itoa(r.Den))
	}
	return text.String()
}

// allRatios are all ratios with numbers up to a greatest one.
func allRatios(greatest int) []impl.Ratio {
	var list []impl.Ratio
	for _, row := range allLists(2, 1, greatest) {
		list = append(list, ratio(row[0], row[1]))
	}
	return list
}

// goodRatios are ratios of 1, of MaxPart, in lowest terms and not.
func goodRatios() []impl.Ratio {
	return ratiosOf("1:1,2:2,100:100,1:2,2:1,2:4,4:2,3:1,1:3,3:2,2:3,5:2,4:1,7:4,7:12,10:3,33:34,49:98,50:100,99:1,100:1,1:100,99:100,100:99,98:100,97:89")
}

func badRatios() []impl.Ratio {
	list := ratioList(ratio(0, 0), ratio(math.MinInt, math.MaxInt), ratio(math.MaxInt, math.MinInt), ratio(-3, -1))
	for _, bad := range badParts() {
		list = append(list, ratio(bad, 1), ratio(1, bad), ratio(bad, greatestPart), ratio(greatestPart, bad), ratio(bad, bad))
	}
	return list
}

func badParts() []int {
	return ages(math.MinInt, math.MinInt+1, -1000000, -100, -2, -1, 0, greatestPart+1, greatestPart+2, 200, 1000000, math.MaxInt-1, math.MaxInt)
}

// goodChains are lists of 1 to MaxChain ratios, of which some are parts of a life and some are none.
func goodChains() [][]impl.Ratio {
	lists := [][]impl.Ratio{}
	for _, r := range goodRatios() {
		lists = append(lists, ratioList(r), manyRatios(longestChain, r))
	}
	for _, text := range []string{exampleParts, "3:2,2:1", "2:1,3:2", "1:2,1:3", "1:2,1:3,1:6", "1:2,1:3,1:7", "1:7,1:7,1:7,1:7,1:7,1:7", "1:6,1:6,1:6,1:6,1:6,1:6", "1:2,1:3,1:7,1:43", "1:3,1:67", "1:97,1:89,1:83,1:79,1:73,1:71", "100:99,99:100", "2:4,3:9,5:100", "100:1,1:100,100:1"} {
		lists = append(lists, ratiosOf(text))
	}
	return lists
}

// badChains are lists that are too short or too long, or have in each place once what is no ratio.
func badChains() [][]impl.Ratio {
	lists := [][]impl.Ratio{nil, {}, manyRatios(longestChain+1, ratio(1, 1)), manyRatios(longestChain+1, ratio(1, 100)), manyRatios(longestChain+2, ratio(2, 1)), manyRatios(1000, ratio(1, 100))}
	for _, bad := range badRatios() {
		lists = append(lists, ratioList(bad), ratioList(bad, ratio(1, 3)), ratioList(ratio(1, 3), bad))
	}
	for place := range longestChain {
		for _, bad := range ratioList(ratio(0, 1), ratio(1, 0), ratio(-1, 10), ratio(1, greatestPart+1)) {
			list := manyRatios(longestChain, ratio(1, 10))
			list[place] = bad
			lists = append(lists, list)
		}
	}
	return lists
}

func goodTextsOfRatios() []string {
	return []string{"1:1", "1:100", "100:1", "100:100", "3:2,2:1", exampleParts, "2:4", "2:4,50:100", "1:1,1:1", "10:10", "9:99", "1:2,3:4,5:6,7:8,9:10,11:12", "100:100,100:100,100:100,100:100,100:100,100:100"}
}

func badTextsOfRatios() []string {
	texts := []string{
		"", ":", ",", "::", ",,", ":,", ",:", " ", "1", "1:", ":1", "1::2", "1:2:", ":1:2", "1:2:3", "1,2", "1,2:3", "1:2,3", "1:2,", ",1:2", "1:2,,3:4", ",1:2,3:4", "1:2,3:4,", "1:2,:", "1:2,3:", "1:2,:4", "1:2,3:4:", "1:2,3::4", "1:2:3:4",
		"1:2;3:4", "1:2.3:4", "1:2-3:4", "1:2 3:4", "1:2|3:4", "1/2", "1-2", "1.2", "1;2", "1 2", "1:2/3:4",
		"01:2", "1:02", "001:2", "1:2,03:4", "1:2,3:04", "00:1", "1:00", "0:1", "1:0", "0:0", "-0:1", "1:-0", "+1:2", "1:+2", "-1:2", "1:-2", "-1:-2", "1:2,+3:4", "1:2,3:-4", "101:1", "1:101", "1:2,101:1", "1:2,1:101", "1000:1", "0100:1",
		" 1:2", "1:2 ", "1 :2", "1: 2", "1:2, 3:4", "1:2 ,3:4", "1:2,3:4 ", "1:2,3 :4", "1:2,3: 4", "\t1:2", "1:2\t", "1:2\n", "\n1:2", "1:2\r\n", "1:2\x00", "\x001:2",
		"x", "x:1", "1:x", "1x:2", "1:2x", "a:b", "none", "1:2,x", "1:2,x:4", "1:2,3:x", "1.0:2", "1:2.0", "1e1:2", "0x1:2", "1_0:2", "1:1_0", "０:１", "１:２", "1：2", "1:2，3:4", "\xff", "1:\xff", "\xff:1", "1:2,\xff",
		"9223372036854775807:1", "1:9223372036854775807", "-9223372036854775808:1", "99999999999999999999:1", "1:99999999999999999999", "18446744073709551617:1", "1:18446744073709551617", "4294967297:1", "-99999999999999999999:1",
		"1:1,1:1,1:1,1:1,1:1,1:1,1:1", "1:2,3:4,5:6,7:8,9:10,11:12,", ",1:2,3:4,5:6,7:8,9:10,11:12", "1:2,3:4,5:6,7:8,9:10,11:12,13:14", "1:2,3:4,5:6,7:8,9:10,11", "1:2,3:4,5:6,7:8,9:10,", "1:2,3:4,5:6,7:8,9:10,11:0", "1:2,3:4,5:6,7:8,9:10,11:101",
	}
	for sign := range 256 {
		s := string([]byte{byte(sign)})
		if sign < '0' || sign > '9' {
			texts = append(texts, s+"1:2", "1:2"+s)
		}
		if sign != ':' && (sign < '0' || sign > '9') {
			texts = append(texts, "1"+s+"2", "1:2,3"+s+"4")
		}
		if sign != ',' && (sign < '0' || sign > '9') {
			texts = append(texts, "1:2"+s+"3:4")
		}
	}
	return texts
}

// greatestShared is the greatest number that divides both.
func greatestShared(a int, b int) int {
	if b == 0 {
		return max(a, -a)
	}
	return greatestShared(b, a%b)
}

func share(num int, den int) *big.Rat { return big.NewRat(int64(num), int64(den)) }

func shareOf(r impl.Ratio) *big.Rat { return share(r.Num, r.Den) }

// lowestRatio is the ratio in lowest terms of two numbers of at least 1.
func lowestRatio(a int, b int) impl.Ratio {
	exact := share(a, b)
	return ratio(int(exact.Num().Int64()), int(exact.Denom().Int64()))
}

func isShare(num int, den int, want *big.Rat) bool {
	return want.Num().Cmp(big.NewInt(int64(num))) == 0 && want.Denom().Cmp(big.NewInt(int64(den))) == 0
}

// fitsIn tells whether two ages, both multiplied by a number, are greater than 0 in some years, and have a ratio then.
func fitsIn(a int, b int, by int, years int, r impl.Ratio) bool {
	first, second := a+years*by, b+years*by
	return by >= 1 && first > 0 && second > 0 && first*r.Den == second*r.Num
}

func isLeastBy(a int, b int, by int) bool { return greatestShared(greatestShared(a, b), by) == 1 }

// isNearerToOne tells whether a ratio is on the same side of 1 as another one, and nearer to it, as ages that go on always lead to.
func isNearerToOne(later impl.Ratio, earlier impl.Ratio) bool {
	l, e, one := shareOf(later), shareOf(earlier), share(1, 1)
	return e.Cmp(l) > 0 && l.Cmp(one) > 0 || e.Cmp(l) < 0 && l.Cmp(one) < 0
}

// partsTogether are all parts together.
func partsTogether(parts []impl.Ratio) *big.Rat {
	sum := share(0, 1)
	for _, part := range parts {
		sum.Add(sum, shareOf(part))
	}
	return sum
}

// leaveSomething tells whether parts are less than a life.
func leaveSomething(parts []impl.Ratio) bool { return partsTogether(parts).Cmp(share(1, 1)) < 0 }

// lifeWith is the life of which all but the parts are so many years.
func lifeWith(parts []impl.Ratio, years int) *big.Rat {
	rest := share(1, 1)
	return new(big.Rat).Quo(share(years, 1), rest.Sub(rest, partsTogether(parts)))
}

// areInChain tells whether ages are those of a chain.
func areInChain(list []int, chain []impl.Ratio) bool {
	if len(list) != len(chain)+1 || slices.Min(list) < 1 {
		return false
	}
	for i, r := range chain {
		if share(list[i], list[i+1]).Cmp(shareOf(r)) != 0 {
			return false
		}
	}
	return true
}

// agesUpChain goes from the last age up to the first one. It fails if one of them is not whole.
func agesUpChain(chain []impl.Ratio, last int) ([]int, bool) {
	list := ages(last)
	for i := len(chain) - 1; i >= 0; i-- {
		many := list[0] * chain[i].Num
		if many%chain[i].Den != 0 {
			return nil, false
		}
		list = slices.Insert(list, 0, many/chain[i].Den)
	}
	return list, true
}

func wantRatios(t *testing.T, call string, got []impl.Ratio, ok bool, want []impl.Ratio) {
	t.Helper()
	if !ok || !slices.Equal(got, want) {
		t.Errorf("%s is %v, %v, not %v", call, got, ok, want)
	}
}

func wantRatio(t *testing.T, call string, got impl.Ratio, ok bool, want impl.Ratio) {
	t.Helper()
	if !ok || got != want {
		t.Errorf("%s is %v, %v, not %v", call, got, ok, want)
	}
}
