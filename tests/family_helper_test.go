package tests

import (
	"cmp"
	"math"
	"slices"
	"strconv"
	"strings"
	"testing"

	"loop.example/g01369/impl"
)

// The limits stand here, and below, as numbers of their own, so that a changed one is noticed.
const (
	greatestKin  = 14
	leastParent  = 14
	greatestYear = 3000
)

const exampleFamily = "1920;1925;1950.0.1;1952.0.1;1955;1980.2.4;1978.3"

// wideFamily has each of the relations: 2 and 3 are half siblings, 4 and 5 cousins, 6 and 7 the children of these, and 8 is alone.
const wideFamily = "1900;1902;1925.0.1;1927.0;1950.2;1952.3;1975.4;1977.5;1960"

func kin(born int, first int, other int) impl.Kin {
	return impl.Kin{Born: born, First: first, Other: other}
}

func kinList(list ...impl.Kin) []impl.Kin { return list }

func alone(born int) impl.Kin { return kin(born, -1, -1) }

func manyKin(count int, k impl.Kin) []impl.Kin { return slices.Repeat(kinList(k), count) }

// familyOf reads a text that is known to be right.
func familyOf(text string) []impl.Kin {
	var list []impl.Kin
	for _, word := range strings.Split(text, ";") {
		numbers := ages()
		for _, part := range strings.Split(word+".-1.-1", ".") {
			n, _ := strconv.Atoi(part)
			numbers = append(numbers, n)
		}
		list = append(list, kin(numbers[0], numbers[1], numbers[2]))
	}
	return list
}

// textOf tells by the definition alone the text of a family.
func textOf(family []impl.Kin) string {
	var text strings.Builder
	for i, k := range family {
		if i > 0 {
			text.WriteString(";")
		}
		text.WriteString(strconv.Itoa(k.Born))
		if k.First != -1 {
			text.WriteString("." + strconv.Itoa(k.First))
		}
		if k.Other != -1 {
			text.WriteString("." + strconv.Itoa(k.Other))
		}
	}
	return text.String()
}

// chainOfKin are so many kin, each one the only parent of the next one.
func chainOfKin(count int) []impl.Kin {
	var list []impl.Kin
	for i := range count {
		list = append(list, kin(leastParent*i, i-1, -1))
	}
	return list
}

// closeKin are so many kin, each one the child of the two before it.
func closeKin(count int) []impl.Kin {
	list := kinList(alone(0), alone(0))
	for i := 2; i < count; i++ {
		list = append(list, kin(leastParent*(i-1), i-2, i-1))
	}
	return list
}

// goodTextsOfFamilies are texts of families in which several relations hold at once, lines are as long as each other, and so on.
func goodTextsOfFamilies() []string {
	return []string{
		exampleFamily, wideFamily, "0", "1500", "3000", "0;0", "3000;0", "0;14.0", "0;3000.0", "2986;3000.0", "0;0;14.0.1", "2986;2986;3000.0.1", "100;100;100;100;114.0;114.0.1;114.1.2;114.2.3;114.3",
		"0;14.0;28.0.1", "0;14.0;14.0;28.0.1", "0;14.0;14.0;0;28.1.3;28.2.3", "0;14.0;14.0;28.1.2;28.1.2", "0;14.0;28.0.1;42.2", "0;14.0;28.1;42.0.2", "0;0;14.1;14.0;28.0.2;28.1.3",
		"0;14.0;14.0;28.1;28.1;42.2.4", "0;14.0;14.0;28.1;42.3;56.2.4", "0;14.0;14.0;28.1;42.3;56.4;70.2.5", "0;14.0;14.0;28.1.2", "0;14.0;28.1;14.0;42.2.3", "0;14.0;14.0;28.2;28.1;42.3.4",
		"0;20.0;20.0;50.1.2;60.0;60.0;90.4.5", "10;10;30.0;30.1;30.1;60.2.3;60.2.4;60.3.4", "1000;2000;3000", "1;15.0;1;15.2;1;15.4;1;15.6",
	}
}

func goodFamilies() [][]impl.Kin {
	lists := [][]impl.Kin{manyKin(greatestKin, alone(0)), manyKin(greatestKin, alone(greatestYear)), chainOfKin(greatestKin), closeKin(greatestKin), append(manyKin(1, alone(0)), manyKin(greatestKin-1, kin(leastParent, 0, -1))...)}
	for _, text := range goodTextsOfFamilies() {
		lists = append(lists, familyOf(text))
	}
	return lists
}

// badKin can stand behind no family of 1 to 3 kin born in 1900.
func badKin() []impl.Kin {
	list := kinList(
		alone(-1), alone(greatestYear+1), alone(math.MinInt), alone(math.MaxInt), kin(-1, 0, -1), kin(greatestYear+1, 0, -1), kin(math.MinInt, 0, -1), kin(math.MaxInt, 0, -1),
		kin(1913, 0, -1), kin(1900, 0, -1), kin(1899, 0, -1), kin(0, 0, -1), kin(1950, 3, -1), kin(1950, 4, -1), kin(1950, 13, -1), kin(1950, 14, -1), kin(1950, -2, -1),
		kin(1950, -1, 0), kin(1950, -1, 1), kin(1950, 0, 0), kin(1950, 1, 1), kin(1950, 1, 0), kin(1950, 2, 0), kin(1950, 0, 3), kin(1950, 3, 4), kin(1950, 3, 0), kin(1950, 0, -2), kin(1950, -2, 0), kin(1950, -2, -2), kin(1950, -3, -2), kin(1950, -1, -2), kin(1950, -2, -1),
	)
	for _, number := range ages(math.MinInt, math.MinInt+1, math.MaxInt-1, math.MaxInt) {
		list = append(list, kin(1950, number, -1), kin(1950, 0, number), kin(1950, -1, number), kin(1950, number, 0), kin(1950, number, number), kin(number, number, number))
	}
	return list
}

// badFamilies are none, too many, or have one of the kin that cannot stand there.
func badFamilies() [][]impl.Kin {
	lists := [][]impl.Kin{
		nil, {}, {{}}, {{}, {}}, manyKin(greatestKin+1, alone(1900)), manyKin(greatestKin+1, alone(0)), chainOfKin(greatestKin + 1), closeKin(greatestKin + 1), manyKin(1000, alone(0)),
		kinList(kin(1900, 0, -1)), kinList(kin(1900, 0, 1)), kinList(kin(1900, 1, -1), alone(1880)), kinList(alone(1900), kin(1950, 1, -1)), kinList(alone(1900), kin(1950, 0, 1)), kinList(alone(1900), kin(1950, 0, 2), alone(1900)), kinList(kin(1950, 1, 2), alone(1900), alone(1900)),
		kinList(alone(1900), alone(1901), kin(1914, 0, 1)), kinList(alone(1901), alone(1900), kin(1914, 0, 1)), kinList(alone(1900), alone(1914), kin(1920, 0, 1)), kinList(alone(0), kin(13, 0, -1)), kinList(alone(2987), kin(greatestYear, 0, -1)), kinList(alone(greatestYear), kin(greatestYear+leastParent, 0, -1)),
	}
	for _, bad := range badKin() {
		lists = append(lists, kinList(bad), kinList(alone(1900), bad), kinList(alone(1900), alone(1900), alone(1900), bad), kinList(bad, alone(1900)), append(manyKin(3, alone(1900)), bad, alone(1900)))
	}
	return lists
}

// badTextsOfFamilies are no FamilyText.
func badTextsOfFamilies() []string {
	texts := []string{
		"", ";", ".", ";;", "..", " ", "x", "-1", "-0", "+0", "+1900", "01900", "00", "3001", "1900;", ";1900", "1900;;1900", "1900.", "1900..", ".0", ".0.1", "..0", "1900. ", "1900 ", " 1900", "19 00", "1900; 1900", "1900 ;1900", "1900;1950 .0", "1900;1950. 0", "1900;1950.0 ", "1900,1950.0", "1900:1950", "1900;1950,0", "1900;1950:0", "1900-1950",
		"1900;1950.", "1900;1950.0.", "1900;1950..0", "1900;1950.0.;1900", "1900;.0", "1900;1950.0;", ";1900;1950.0", "1900;1950.00", "1900;1950.+0", "1900;1950.-0", "1900;1950.-1", "1900;1950.-1.-1", "1900;1950.0.-1", "1900;1950.-1.0", "1900;01950.0", "1900;+1950.0", "1900;1950.x", "1900;1950.0.x", "1900;1950.1", "1900;1950.2", "1900;1950.0.0", "1900;1950.0.1", "1900;1913.0", "1900.0", "1900.1;1880",
		"1900;1900;1950.1.0", "1900;1900;1950.0.1.", "1900;1900;1950.0..1", "1900;1900;1950..0.1", "1900;1900;1950.0.1.2", "1900;1900;1900;1950.0.1.2", "1900;1900;1950.0.01", "1900;1900;1950.00.1", "1900;1900;1950.0.+1", "1900;1900;1950.0.1x", "1900;1900;1950.0.2", "1900;1900;1950.2", "1900;1900;1950.0 .1", "1900;1900;1950.0. 1",
		"1900\n", "\n1900", "1900;1900\n", "1900\r\n", "1900\x00", "\x001900", "\xff", "1900;\xff", "１９００", "1900；1900", "1900;1950．0", "1e3", "0x10", "1_900", "1900;1_950.0", "1900.5", "99999999999999999999", "-99999999999999999999", "1900;1950.99999999999999999999", "1900;1950.18446744073709551616", "18446744073709553516", "9223372036854775807", "-9223372036854775808", "1900;9223372036854775807.0", "1900;1950.9223372036854775807", "1900;1950.-9223372036854775808", "none",
		strings.Repeat("1900;", 14) + "1900", strings.Repeat("0;", 14) + "14.0", strings.Repeat("1900;", 13), ";" + strings.Repeat("1900;", 13) + "1900", strings.Repeat("1900;", 13) + "x", strings.Repeat("0;", 13) + "13.0", strings.Repeat("0;", 13) + "14.13",
	}
	for sign := range 256 {
		other := string([]byte{byte(sign)})
		if !strings.Contains("0123456789;", other) {
			texts = append(texts, "1900"+other+"1900", "1900;1900"+other)
		}
		if !strings.Contains("0123456789;.", other) {
			texts = append(texts, "0;14"+other+"0", "0;0;14.0"+other+"1", "0;14"+other)
		}
	}
	return texts
}

// badWhoOf are numbers that none of the kin of a family has.
func badWhoOf(family []impl.Kin) []int {
	return ages(math.MinInt, math.MinInt+1, -1000000, -len(family), -2, -1, len(family), len(family)+1, 1000000, math.MaxInt-1, math.MaxInt)
}

func badYears() []int {
	return ages(math.MinInt, math.MinInt+1, -1000000, -2, -1, greatestYear+1, greatestYear+2, 1000000, math.MaxInt-1, math.MaxInt)
}

// isFamily tells by the definition alone whether a list of kin is a family.
func isFamily(list []impl.Kin) bool {
	for i, k := range list {
		if k.Born < 0 || k.Born > greatestYear || k.First == -1 && k.Other != -1 || k.First != -1 && k.First == k.Other || k.Other != -1 && k.Other < k.First {
			return false
		}
		for _, parent := range ages(k.First, k.Other) {
			if parent != -1 && (parent < 0 || parent >= i || list[parent].Born > k.Born-leastParent) {
				return false
			}
		}
	}
	return 1 <= len(list) && len(list) <= greatestKin
}

// kinWhen are the numbers of all kin of whom something holds, increasing.
func kinWhen(family []impl.Kin, holds func(who int) bool) []int {
	return numbersWhen(0, len(family)-1, holds)
}

func isSomeKin(family []impl.Kin, holds func(who int) bool) bool {
	return len(kinWhen(family, holds)) > 0
}

func isParentIn(family []impl.Kin, parent int, child int) bool {
	return parent == family[child].First || parent == family[child].Other
}

// isAncestorIn goes up by the definition: parents, their parents, and so on.
func isAncestorIn(family []impl.Kin, a int, b int) bool {
	return isParentIn(family, a, b) || isSomeKin(family, func(parent int) bool {
		return isParentIn(family, parent, b) && isAncestorIn(family, a, parent)
	})
}

func commonParentsIn(family []impl.Kin, a int, b int) int {
	return len(kinWhen(family, func(p int) bool { return isParentIn(family, p, a) && isParentIn(family, p, b) }))
}

func areSiblingsIn(family []impl.Kin, a int, b int) bool {
	return a != b && commonParentsIn(family, a, b) > 0
}

func areCousinsIn(family []impl.Kin, a int, b int) bool {
	return a != b && !areSiblingsIn(family, a, b) && isSomeKin(family, func(p int) bool {
		return isParentIn(family, p, a) && isSomeKin(family, func(q int) bool { return isParentIn(family, q, b) && areSiblingsIn(family, p, q) })
	})
}

func commonAncestorsIn(family []impl.Kin, a int, b int) []int {
	return kinWhen(family, func(c int) bool { return isAncestorIn(family, c, a) && isAncestorIn(family, c, b) })
}

func generationIn(family []impl.Kin, who int) int {
	generation := 0
	for _, parent := range kinWhen(family, func(p int) bool { return isParentIn(family, p, who) }) {
		generation = max(generation, 1+generationIn(family, parent))
	}
	return generation
}

// relationNames are in the order of the document.
func relationNames() []string {
	return []string{"self", "parent", "child", "sibling", "grandparent", "grandchild", "aunt", "niece", "cousin", "ancestor", "descendant", "kin", "none"}
}

// isRelationIn tells by the definition alone whether a is that to b, whatever else it is.
func isRelationIn(family []impl.Kin, name string, a int, b int) bool {
	switch name {
	case "self":
		return a == b
	case "parent":
		return isParentIn(family, a, b)
	case "child":
		return isParentIn(family, b, a)
	case "sibling":
		return areSiblingsIn(family, a, b)
	case "grandparent":
		return isSomeKin(family, func(c int) bool { return isParentIn(family, a, c) && isParentIn(family, c, b) })
	case "grandchild":
		return isSomeKin(family, func(c int) bool { return isParentIn(family, c, a) && isParentIn(family, b, c) })
	case "aunt":
		return isSomeKin(family, func(c int) bool { return areSiblingsIn(family, a, c) && isParentIn(family, c, b) })
	case "niece":
		return isSomeKin(family, func(c int) bool { return isParentIn(family, c, a) && areSiblingsIn(family, c, b) })
	case "cousin":
		return areCousinsIn(family, a, b)
	case "ancestor":
		return isAncestorIn(family, a, b)
	case "descendant":
		return isAncestorIn(family, b, a)
	case "kin":
		return len(commonAncestorsIn(family, a, b)) > 0
	}
	return true
}

// relationsIn are all names that hold, in order, with none at the end.
func relationsIn(family []impl.Kin, a int, b int) []string {
	return slices.DeleteFunc(relationNames(), func(name string) bool { return !isRelationIn(family, name, a, b) })
}

// linesIn are all lists of kin from a down to b, the shortest ones first, of those as long in their order.
func linesIn(family []impl.Kin, a int, b int) [][]int {
	var lines [][]int
	if a == b {
		lines = append(lines, ages(a))
	}
	for _, child := range kinWhen(family, func(c int) bool { return isParentIn(family, a, c) }) {
		for _, line := range linesIn(family, child, b) {
			lines = append(lines, append(ages(a), line...))
		}
	}
	slices.SortFunc(lines, func(p, q []int) int { return cmp.Or(cmp.Compare(len(p), len(q)), slices.Compare(p, q)) })
	return lines
}

// farApart is more than any number of steps.
const farApart = 1000

// stepsIn tells for all pairs how many steps they are apart, by going over each one in between.
func stepsIn(family []impl.Kin) [][]int {
	rows := make([][]int, len(family))
	for a := range family {
		for b := range family {
			steps := farApart
			if a == b {
				steps = 0
			} else if isParentIn(family, a, b) || isParentIn(family, b, a) {
				steps = 1
			}
			rows[a] = append(rows[a], steps)
		}
	}
	for c := range rows {
		for a := range rows {
			for b := range rows {
				rows[a][b] = min(rows[a][b], rows[a][c]+rows[c][b])
			}
		}
	}
	return rows
}

// allFamiliesOf are all families of so many kin in which each one is as much younger than the one before it as a parent must be.
func allFamiliesOf(count int) [][]impl.Kin {
	families := [][]impl.Kin{nil}
	for i := range count {
		var longer [][]impl.Kin
		for _, family := range families {
			for other := -1; other < i; other++ {
				for first := -1; first < i; first++ {
					k := kin(leastParent*i, first, other)
					if other == -1 || first != -1 && first < other {
						longer = append(longer, append(slices.Clone(family), k))
					}
				}
			}
		}
		families = longer
	}
	return families
}

// mixedFamilies are so many families of 1 to 14 kin each, all years and parents by the rule of a sequence that has no plain order.
func mixedFamilies(count int) [][]impl.Kin {
	var families [][]impl.Kin
	number := 1
	next := func(limit int) int {
		number = (number*1103515245 + 12345) % 2147483648
		return number / 65536 % limit
	}
	for len(families) < count {
		var family []impl.Kin
		for i := range 1 + next(greatestKin) {
			k := alone(100 + 9*i + next(30))
			possible := kinWhen(family, func(p int) bool { return family[p].Born+leastParent <= k.Born })
			if len(possible) > 0 && next(5) > 0 {
				k.First = possible[next(len(possible))]
			}
			if len(possible) > 0 && next(3) > 0 && k.First != -1 {
				second := possible[next(len(possible))]
				if second != k.First {
					k.First, k.Other = min(k.First, second), max(k.First, second)
				}
			}
			family = append(family, k)
		}
		families = append(families, family)
	}
	return families
}

func wantFamily(t *testing.T, call string, got []impl.Kin, ok bool, want []impl.Kin) {
	t.Helper()
	if !ok || !slices.Equal(got, want) {
		t.Errorf("%s is %v, %v, not %v", call, got, ok, want)
	}
}
