package tests

import (
	"math"
	"testing"

	"loop.example/g01369/impl"
)

func TestIsFamily(t *testing.T) {
	for _, family := range goodFamilies() {
		if !impl.IsFamily(family) {
			t.Errorf("%v is a family", family)
		}
	}
	for _, list := range badFamilies() {
		if impl.IsFamily(list) {
			t.Errorf("%v is no family", list)
		}
	}
}

func TestIsFamilyEdges(t *testing.T) {
	for _, c := range []struct {
		name string
		list []impl.Kin
		want bool
	}{
		{"one in the year 0", kinList(alone(0)), true},
		{"one in MaxYear", kinList(alone(3000)), true},
		{"one before the year 0", kinList(alone(-1)), false},
		{"one behind MaxYear", kinList(alone(3001)), false},
		{"14 kin", manyKin(14, alone(7)), true},
		{"15 kin", manyKin(15, alone(7)), false},
		{"no kin", kinList(), false},
		{"First just 14 years older", kinList(alone(1900), kin(1914, 0, -1)), true},
		{"First 13 years older", kinList(alone(1900), kin(1913, 0, -1)), false},
		{"both just 14 years older", kinList(alone(1900), alone(1900), kin(1914, 0, 1)), true},
		{"First 13 years older, Other 14", kinList(alone(1901), alone(1900), kin(1914, 0, 1)), false},
		{"First 14 years older, Other 13", kinList(alone(1900), alone(1901), kin(1914, 0, 1)), false},
		{"a parent as old as the child", kinList(alone(1900), kin(1900, 0, -1)), false},
		{"a parent who is younger", kinList(alone(1900), kin(1880, 0, -1)), false},
		{"a parent of the greatest age", kinList(alone(0), kin(3000, 0, -1)), true},
		{"a parent behind its child", kinList(kin(1950, 1, -1), alone(1900)), false},
		{"Other behind its child", kinList(alone(1900), kin(1950, 0, 2), alone(1900)), false},
		{"one's own First", kinList(alone(1900), kin(1950, 1, -1)), false},
		{"one's own Other", kinList(alone(1900), kin(1950, 0, 1)), false},
		{"First greater than Other", kinList(alone(1900), alone(1900), kin(1950, 1, 0)), false},
		{"First and Other the same", kinList(alone(1900), kin(1950, 0, 0)), false},
		{"Other alone", kinList(alone(1900), kin(1950, -1, 0)), false},
		{"First less than -1", kinList(alone(1900), kin(1950, -2, -1)), false},
		{"First less than -1 and Other known", kinList(alone(1900), kin(1950, -2, 0)), false},
		{"Other less than -1", kinList(alone(1900), kin(1950, 0, -2)), false},
		{"Other less than -1 alone", kinList(alone(1900), kin(1950, -1, -2)), false},
		{"no Other that there is", kinList(alone(1900), kin(1950, 0, math.MaxInt)), false},
		{"no First that there is", kinList(alone(1900), kin(1950, math.MinInt, -1)), false},
	} {
		if impl.IsFamily(c.list) != c.want {
			t.Errorf("IsFamily of %s is %v", c.name, !c.want)
		}
	}
}

func TestAddKinEdges(t *testing.T) {
	for _, c := range []struct {
		family string
		k      impl.Kin
		want   string
	}{
		{"0", alone(0), "0;0"}, {"0", alone(3000), "0;3000"}, {"3000", alone(0), "3000;0"}, {"0", kin(14, 0, -1), "0;14.0"}, {"2986", kin(3000, 0, -1), "2986;3000.0"},
		{"1900;1902", kin(1916, 0, 1), "1900;1902;1916.0.1"}, {"1900;1902", kin(1916, 1, -1), "1900;1902;1916.1"}, {"1900;1920.0", kin(1934, 0, 1), "1900;1920.0;1934.0.1"}, {exampleFamily, kin(2000, 5, 6), exampleFamily + ";2000.5.6"},
	} {
		got, ok := impl.AddKin(familyOf(c.family), c.k)
		wantFamily(t, "AddKin to "+c.family, got, ok, familyOf(c.want))
	}
	got, ok := impl.AddKin(chainOfKin(greatestKin-1), kin(leastParent*13, 12, -1))
	wantFamily(t, "AddKin up to MaxKin", got, ok, chainOfKin(greatestKin))
	for _, k := range kinList(alone(0), alone(1900), kin(1900, 0, -1), kin(1900, 12, 13)) {
		got, ok := impl.AddKin(chainOfKin(greatestKin), k)
		wantNone(t, "AddKin to MaxKin", got, ok)
	}
	for _, k := range badKin() {
		for _, text := range []string{"1900", "1900;1900", "1900;1900;1900"} {
			got, ok := impl.AddKin(familyOf(text), k)
			wantNone(t, "AddKin of one who cannot stand there", got, ok)
		}
	}
	for _, family := range badFamilies() {
		for _, k := range kinList(alone(0), alone(1900), kin(1990, 0, -1), kin(1990, 0, 1)) {
			got, ok := impl.AddKin(family, k)
			wantNone(t, "AddKin to no family", got, ok)
		}
	}
}

func TestParentsAndChildrenEdges(t *testing.T) {
	for _, c := range []struct {
		family            string
		who               int
		parents, children []int
	}{
		{"0", 0, nil, nil}, {"0;0", 1, nil, nil}, {"0;14.0", 0, nil, ages(1)}, {"0;14.0", 1, ages(0), nil}, {"0;0;14.0.1", 1, nil, ages(2)}, {"0;0;14.0.1", 2, ages(0, 1), nil}, {"0;14.0;28.0.1", 0, nil, ages(1, 2)}, {"0;14.0;28.0.1", 1, ages(0), ages(2)}, {"0;14.0;28.0.1", 2, ages(0, 1), nil},
		{"100;100;100;100;114.0;114.0.1;114.1.2;114.2.3;114.3", 0, nil, ages(4, 5)}, {"100;100;100;100;114.0;114.0.1;114.1.2;114.2.3;114.3", 2, nil, ages(6, 7)}, {"100;100;100;100;114.0;114.0.1;114.1.2;114.2.3;114.3", 7, ages(2, 3), nil},
		{wideFamily, 0, nil, ages(2, 3)}, {wideFamily, 2, ages(0, 1), ages(4)}, {wideFamily, 3, ages(0), ages(5)}, {wideFamily, 8, nil, nil}, {exampleFamily, 4, nil, ages(5)}, {exampleFamily, 5, ages(2, 4), nil},
	} {
		list, ok := impl.ParentsOf(familyOf(c.family), c.who)
		wantInts(t, "ParentsOf in "+c.family, list, ok, c.parents...)
		list, ok = impl.ChildrenOf(familyOf(c.family), c.who)
		wantInts(t, "ChildrenOf in "+c.family, list, ok, c.children...)
	}
	list, ok := impl.ChildrenOf(append(kinList(alone(0)), manyKin(greatestKin-1, kin(leastParent, 0, -1))...), 0)
	wantInts(t, "ChildrenOf the parent of all others", list, ok, 1, 2, 3, 4, 5, 6, 7, 8, 9, 10, 11, 12, 13)
}

func TestGenerationEdges(t *testing.T) {
	for _, c := range []struct {
		family string
		rows   [][]int
	}{
		{"0", [][]int{{0}}}, {"0;0", [][]int{{0, 1}}}, {"0;14.0", [][]int{{0}, {1}}}, {"0;0;14.0.1", [][]int{{0, 1}, {2}}}, {"0;14.0;0", [][]int{{0, 2}, {1}}},
		// Here one parent is of a greater generation than the other one, the first one or the second one.
		{"0;14.0;28.0.1", [][]int{{0}, {1}, {2}}}, {"0;14.0;0;28.1.2", [][]int{{0, 2}, {1}, {3}}}, {"0;14.0;28.1;42.0.2;14.0", [][]int{{0}, {1, 4}, {2}, {3}}}, {"0;14.0;28.1;0;42.2.3;14.3", [][]int{{0, 3}, {1, 5}, {2}, {4}}},
		{exampleFamily, [][]int{{0, 1, 4}, {2, 3}, {5, 6}}}, {wideFamily, [][]int{{0, 1, 8}, {2, 3}, {4, 5}, {6, 7}}},
	} {
		rows, ok := impl.GenerationsOf(familyOf(c.family))
		wantRows(t, "GenerationsOf "+c.family, rows, ok, c.rows...)
		for generation, row := range c.rows {
			for _, who := range row {
				n, ok := impl.GenerationOf(familyOf(c.family), who)
				wantInt(t, "GenerationOf in "+c.family, n, ok, generation)
			}
		}
	}
	n, ok := impl.GenerationOf(chainOfKin(greatestKin), greatestKin-1)
	wantInt(t, "GenerationOf the last one of a chain", n, ok, 13)
	rows, ok := impl.GenerationsOf(chainOfKin(greatestKin))
	wantRows(t, "GenerationsOf a chain", rows, ok, [][]int{{0}, {1}, {2}, {3}, {4}, {5}, {6}, {7}, {8}, {9}, {10}, {11}, {12}, {13}}...)
	rows, ok = impl.GenerationsOf(closeKin(greatestKin))
	wantRows(t, "GenerationsOf close kin", rows, ok, [][]int{{0, 1}, {2}, {3}, {4}, {5}, {6}, {7}, {8}, {9}, {10}, {11}, {12}, {13}}...)
	rows, ok = impl.GenerationsOf(manyKin(greatestKin, alone(1900)))
	wantRows(t, "GenerationsOf kin without parents", rows, ok, ages(0, 1, 2, 3, 4, 5, 6, 7, 8, 9, 10, 11, 12, 13))
}

func TestAncestorsAndDescendantsEdges(t *testing.T) {
	for _, c := range []struct {
		family                 string
		who                    int
		ancestors, descendants []int
	}{
		{"0", 0, nil, nil}, {"0;0", 0, nil, nil}, {"0;14.0", 0, nil, ages(1)}, {"0;14.0", 1, ages(0), nil}, {"0;14.0;28.0.1", 2, ages(0, 1), nil}, {"0;14.0;28.0.1", 0, nil, ages(1, 2)}, {"0;14.0;28.1;42.2", 3, ages(0, 1, 2), nil}, {"0;14.0;28.1;42.2", 1, ages(0), ages(2, 3)},
		{exampleFamily, 5, ages(0, 1, 2, 4), nil}, {exampleFamily, 6, ages(0, 1, 3), nil}, {exampleFamily, 1, nil, ages(2, 3, 5, 6)}, {exampleFamily, 4, nil, ages(5)}, {wideFamily, 7, ages(0, 3, 5), nil}, {wideFamily, 1, nil, ages(2, 4, 6)}, {wideFamily, 8, nil, nil},
	} {
		list, ok := impl.AncestorsOf(familyOf(c.family), c.who)
		wantInts(t, "AncestorsOf in "+c.family, list, ok, c.ancestors...)
		list, ok = impl.DescendantsOf(familyOf(c.family), c.who)
		wantInts(t, "DescendantsOf in "+c.family, list, ok, c.descendants...)
	}
	for _, family := range [][]impl.Kin{chainOfKin(greatestKin), closeKin(greatestKin)} {
		list, ok := impl.AncestorsOf(family, greatestKin-1)
		wantInts(t, "AncestorsOf the last one", list, ok, 0, 1, 2, 3, 4, 5, 6, 7, 8, 9, 10, 11, 12)
	}
	list, ok := impl.DescendantsOf(closeKin(greatestKin), 0)
	wantInts(t, "DescendantsOf the first one", list, ok, 2, 3, 4, 5, 6, 7, 8, 9, 10, 11, 12, 13)
}

func TestCommonAncestorsEdges(t *testing.T) {
	for _, c := range []struct {
		family string
		a, b   int
		want   []int
	}{
		{"0", 0, 0, nil}, {"0;14.0", 1, 1, ages(0)}, {"0;14.0", 0, 1, nil}, {"0;14.0;28.1", 1, 2, ages(0)}, {"0;14.0;28.0.1", 1, 2, ages(0)}, {"0;14.0;28.1;42.2", 3, 3, ages(0, 1, 2)}, {"0;0;14.0.1;14.0.1", 2, 3, ages(0, 1)}, {"0;0;0;14.0.1;14.1.2", 3, 4, ages(1)}, {"0;0;14.0;14.1", 2, 3, nil},
		{exampleFamily, 5, 6, ages(0, 1)}, {exampleFamily, 5, 5, ages(0, 1, 2, 4)}, {exampleFamily, 2, 5, ages(0, 1)}, {exampleFamily, 4, 5, nil}, {exampleFamily, 0, 1, nil}, {wideFamily, 6, 7, ages(0)}, {wideFamily, 2, 6, ages(0, 1)}, {wideFamily, 7, 8, nil},
	} {
		list, ok := impl.CommonAncestors(familyOf(c.family), c.a, c.b)
		wantInts(t, "CommonAncestors in "+c.family, list, ok, c.want...)
		list, ok = impl.CommonAncestors(familyOf(c.family), c.b, c.a)
		wantInts(t, "CommonAncestors the other way round in "+c.family, list, ok, c.want...)
	}
}

func TestSiblingsAndCousinsEdges(t *testing.T) {
	for _, c := range []struct {
		name                   string
		family                 string
		a, b                   int
		siblings, half, cousin bool
	}{
		{"one alone", "0", 0, 0, false, false, false}, {"one and the same with one parent", "0;14.0", 1, 1, false, false, false}, {"one and the same with both parents", "0;0;14.0.1", 2, 2, false, false, false}, {"one and the same whose parents are siblings", "0;14.0;14.0;28.1.2", 3, 3, false, false, false},
		{"two without parents", "0;0", 0, 1, false, false, false}, {"parent and child", "0;14.0", 0, 1, false, false, false}, {"two parents of one child", "0;0;14.0.1", 0, 1, false, false, false},
		{"with the same one parent that is known", "0;14.0;14.0", 1, 2, true, true, false}, {"whole ones", "0;0;14.0.1;14.0.1", 2, 3, true, false, false}, {"with the same First", "0;0;0;14.0.1;14.0.2", 3, 4, true, true, false}, {"with the same Other", "0;0;0;14.0.2;14.1.2", 3, 4, true, true, false}, {"First of one is Other of the other one", "0;0;0;14.0.1;14.1.2", 3, 4, true, true, false}, {"First alone is Other of the other one", "0;0;14.0.1;14.1", 2, 3, true, true, false}, {"without a common one", "0;0;14.0;14.1", 2, 3, false, false, false}, {"without a common one of four", "0;0;0;0;14.0.2;14.1.3", 4, 5, false, false, false},
		{"a parent who is a sibling", "0;14.0;28.0.1", 1, 2, true, true, false}, {"a parent's parent who is a sibling", "0;14.0;28.1;42.0.2", 1, 3, true, true, false},
		{"children of whole siblings", "0;0;14.0.1;14.0.1;28.2;28.3", 4, 5, false, false, true}, {"children of half siblings", "0;14.0;14.0;28.1;28.2", 3, 4, false, false, true}, {"children of siblings, as Other ones", "0;0;0;14.0;14.0;28.1.3;28.2.4", 5, 6, false, false, true}, {"First of one and Other of the other one", "0;0;14.0;14.0;28.2;28.1.3", 4, 5, false, false, true},
		{"siblings whose parents are siblings", "0;14.0;14.0;28.1.2;28.1.2", 3, 4, true, false, false}, {"half siblings whose other parents are siblings", "0;14.0;14.0;0;28.1.3;28.2.3", 4, 5, true, true, false}, {"a sibling of a parent, who is no cousin", "0;14.0;14.0;28.1", 2, 3, false, false, false}, {"a sibling of a parent, who is a cousin too", "0;14.0;14.0;28.1;28.1;42.2.4", 3, 5, false, false, true}, {"an ancestor who is a cousin too", "0;14.0;14.0;28.1;42.3;56.4;70.2.5", 3, 6, false, false, true}, {"a parent who is a cousin too", "0;14.0;14.0;28.1;42.2.3", 3, 4, false, false, true},
		{"children of cousins", wideFamily, 6, 7, false, false, false}, {"a cousin and the other one's child", wideFamily, 4, 7, false, false, false}, {"somebody and one who is alone", wideFamily, 6, 8, false, false, false},
	} {
		for _, both := range [][]int{{c.a, c.b}, {c.b, c.a}} {
			is, ok := impl.AreSiblings(familyOf(c.family), both[0], both[1])
			wantBool(t, "AreSiblings of "+c.name, is, ok, c.siblings)
			is, ok = impl.AreHalf(familyOf(c.family), both[0], both[1])
			wantBool(t, "AreHalf of "+c.name, is, ok, c.half)
			is, ok = impl.AreCousins(familyOf(c.family), both[0], both[1])
			wantBool(t, "AreCousins of "+c.name, is, ok, c.cousin)
		}
	}
}

func TestRelationOfEdges(t *testing.T) {
	for _, c := range []struct {
		family     string
		a, b       int
		want, back string
	}{
		{"0", 0, 0, "self", "self"}, {"0;0;14.0.1", 2, 2, "self", "self"}, {"0;0", 0, 1, "none", "none"}, {"0;0;14.0.1", 0, 1, "none", "none"}, {"0;0;14.0.1", 1, 2, "parent", "child"}, {"0;0;14.0.1;14.0.1", 2, 3, "sibling", "sibling"},
		{wideFamily, 0, 2, "parent", "child"}, {wideFamily, 2, 3, "sibling", "sibling"}, {wideFamily, 0, 4, "grandparent", "grandchild"}, {wideFamily, 1, 4, "grandparent", "grandchild"}, {wideFamily, 3, 4, "aunt", "niece"}, {wideFamily, 2, 5, "aunt", "niece"}, {wideFamily, 4, 5, "cousin", "cousin"}, {wideFamily, 0, 6, "ancestor", "descendant"}, {wideFamily, 1, 6, "ancestor", "descendant"}, {wideFamily, 6, 7, "kin", "kin"}, {wideFamily, 3, 6, "kin", "kin"}, {wideFamily, 4, 7, "kin", "kin"}, {wideFamily, 1, 3, "none", "none"}, {wideFamily, 1, 7, "none", "none"}, {wideFamily, 6, 8, "none", "none"}, {wideFamily, 8, 0, "none", "none"},
		// In each of these one relation holds, and a later one as well: parent and grandparent, parent and sibling, parent and cousin, sibling and grandparent, sibling and aunt, siblings whose parents are siblings.
		{"0;14.0;28.0.1", 0, 2, "parent", "child"}, {"0;14.0;28.0.1", 1, 2, "parent", "child"}, {"0;14.0;14.0;28.1;42.2.3", 3, 4, "parent", "child"}, {"0;14.0;28.1;42.0.2", 1, 3, "sibling", "sibling"}, {"0;14.0;14.0;28.0.1", 2, 3, "sibling", "sibling"}, {"0;14.0;14.0;0;28.1.3;28.2.3", 4, 5, "sibling", "sibling"},
		// Grandparent and aunt, grandparent and ancestor by a longer line, aunt and niece at once, aunt and cousin, aunt and ancestor, cousin and ancestor, ancestor and kin.
		{"0;14.0;28.0.1;42.2", 1, 3, "grandparent", "grandchild"}, {"0;14.0;28.1;42.1.2;56.3", 1, 4, "grandparent", "grandchild"}, {"0;0;14.1;14.0;28.0.2;28.1.3", 4, 5, "aunt", "aunt"}, {"0;14.0;14.0;28.1;28.1;42.2.4", 3, 5, "aunt", "niece"}, {"0;14.0;14.0;28.1;42.3;56.2.4", 1, 5, "aunt", "niece"}, {"0;14.0;14.0;28.1;42.3;56.4;70.2.5", 3, 6, "cousin", "cousin"}, {"0;14.0;28.1;42.2;56.3", 1, 4, "ancestor", "descendant"},
	} {
		text, ok := impl.RelationOf(familyOf(c.family), c.a, c.b)
		wantText(t, "RelationOf in "+c.family, text, ok, c.want)
		text, ok = impl.RelationOf(familyOf(c.family), c.b, c.a)
		wantText(t, "RelationOf the other way round in "+c.family, text, ok, c.back)
	}
}

func TestLineDownEdges(t *testing.T) {
	for _, c := range []struct {
		family string
		a, b   int
		want   []int
	}{
		{"0", 0, 0, ages(0)}, {"0;14.0", 1, 1, ages(1)}, {"0;14.0", 0, 1, ages(0, 1)}, {"0;14.0;28.1", 0, 2, ages(0, 1, 2)}, {"0;0;14.0.1", 1, 2, ages(1, 2)}, {exampleFamily, 0, 5, ages(0, 2, 5)}, {exampleFamily, 4, 5, ages(4, 5)}, {wideFamily, 0, 7, ages(0, 3, 5, 7)},
		// Of several lines as long as each other the first list is not always that of the first parents, and a shorter line may come behind longer ones.
		{"0;14.0;14.0;28.1.2", 0, 3, ages(0, 1, 3)}, {"0;14.0;14.0;28.2;28.1;42.3.4", 0, 5, ages(0, 1, 4, 5)}, {"0;14.0;28.0.1", 0, 2, ages(0, 2)}, {"0;14.0;28.1;14.0;42.2.3", 0, 4, ages(0, 3, 4)}, {"0;14.0;28.1;28.1;42.2.3", 0, 4, ages(0, 1, 2, 4)}, {"0;14.0;14.0;28.1.2;28.1.2;42.3.4", 0, 5, ages(0, 1, 3, 5)}, {"0;14.0;14.0;28.2;28.1;42.3.4;56.5", 0, 6, ages(0, 1, 4, 5, 6)},
	} {
		list, ok := impl.LineDown(familyOf(c.family), c.a, c.b)
		wantInts(t, "LineDown in "+c.family, list, ok, c.want...)
	}
	list, ok := impl.LineDown(chainOfKin(greatestKin), 0, 13)
	wantInts(t, "LineDown a whole chain", list, ok, 0, 1, 2, 3, 4, 5, 6, 7, 8, 9, 10, 11, 12, 13)
	list, ok = impl.LineDown(closeKin(greatestKin), 0, 13)
	wantInts(t, "LineDown through close kin from 0", list, ok, 0, 2, 3, 5, 7, 9, 11, 13)
	list, ok = impl.LineDown(closeKin(greatestKin), 1, 13)
	wantInts(t, "LineDown through close kin from 1", list, ok, 1, 3, 5, 7, 9, 11, 13)
	for _, c := range []struct {
		family string
		a, b   int
	}{
		{"0;0", 0, 1}, {"0;14.0", 1, 0}, {"0;14.0;28.1", 2, 0}, {"0;14.0;14.0", 1, 2}, {"0;0;14.0.1", 0, 1}, {exampleFamily, 5, 6}, {exampleFamily, 4, 6}, {exampleFamily, 6, 1}, {wideFamily, 1, 3}, {wideFamily, 3, 6}, {wideFamily, 0, 8},
	} {
		list, ok := impl.LineDown(familyOf(c.family), c.a, c.b)
		wantNone(t, "LineDown where none leads in "+c.family, list, ok)
	}
}

func TestAgeAtBirthEdges(t *testing.T) {
	for _, c := range []struct {
		family        string
		parent, child int
		want          int
	}{
		{"0;14.0", 0, 1, 14}, {"0;3000.0", 0, 1, 3000}, {"1900;1902;1925.0.1", 0, 2, 25}, {"1900;1902;1925.0.1", 1, 2, 23}, {exampleFamily, 1, 2, 25}, {exampleFamily, 3, 6, 26}, {exampleFamily, 4, 5, 25},
	} {
		n, ok := impl.AgeAtBirth(familyOf(c.family), c.parent, c.child)
		wantInt(t, "AgeAtBirth in "+c.family, n, ok, c.want)
	}
	for _, c := range []struct {
		family        string
		parent, child int
	}{
		{"0", 0, 0}, {"0;14.0", 1, 0}, {"0;14.0", 1, 1}, {"0;14.0", 0, 0}, {"0;14", 0, 1}, {"0;14.0;28.1", 0, 2}, {"0;14.0;14.0", 1, 2}, {exampleFamily, 0, 5}, {exampleFamily, 2, 6}, {exampleFamily, 5, 2}, {exampleFamily, 4, 6},
	} {
		n, ok := impl.AgeAtBirth(familyOf(c.family), c.parent, c.child)
		wantNoInt(t, "AgeAtBirth of no parent in "+c.family, n, ok)
	}
}

func TestYoungestParentEdges(t *testing.T) {
	for _, c := range []struct {
		family        string
		parent, child int
	}{
		{"0;14.0", 0, 1}, {"0;3000.0", 0, 1}, {"0;1;20.0.1", 1, 2}, {"1;0;20.0.1", 0, 2}, {"0;14.0;28.0.1", 0, 1}, {"0;15.0;29.0.1", 1, 2}, {"0;30.0;20.0", 0, 2}, {exampleFamily, 1, 2}, {wideFamily, 1, 2},
		// Several are as young: the first parent, and its first child.
		{"0;0;20.0.1", 0, 2}, {"0;20.0;20.0", 0, 1}, {"0;0;20.1;20.0", 0, 3}, {"0;0;25.0;20.1;20.1", 1, 3}, {"0;30.0;20.0;50.1;50.1", 0, 2}, {"0;0;20.1;20.0.1;20.0", 0, 3},
	} {
		parent, child, ok := impl.YoungestParent(familyOf(c.family))
		wantTwo(t, "YoungestParent in "+c.family, parent, child, ok, c.parent, c.child)
	}
	for _, family := range [][]impl.Kin{kinList(alone(0)), kinList(alone(greatestYear)), kinList(alone(0), alone(50)), manyKin(greatestKin, alone(1900))} {
		parent, child, ok := impl.YoungestParent(family)
		wantNoTwo(t, "YoungestParent where nobody has a known parent", parent, child, ok)
	}
}

func TestMostChildrenEdges(t *testing.T) {
	for _, c := range []struct {
		family    string
		who, most int
	}{
		{"0", 0, 0}, {"3000;0", 0, 0}, {"0;14.0", 0, 1}, {"0;0;14.1", 1, 1}, {"0;0;14.0.1", 0, 1}, {"0;0;14.0.1;14.0.1", 0, 2}, {"0;0;14.0;14.1;14.1", 1, 2}, {"0;14.0;28.1;28.1", 1, 2}, {"0;14.0;28.0.1;28.1", 0, 2}, {"0;14.0;28.0.1;28.1;42.2", 0, 2}, {"0;14.0;28.0.1;28.1;28.1", 1, 3}, {exampleFamily, 0, 2}, {wideFamily, 0, 2}, {"10;10;30.0;30.1;30.1;60.2.3;60.2.4;60.3.4", 1, 2},
	} {
		who, most, ok := impl.MostChildren(familyOf(c.family))
		wantTwo(t, "MostChildren in "+c.family, who, most, ok, c.who, c.most)
	}
	who, most, ok := impl.MostChildren(append(manyKin(1, alone(0)), manyKin(greatestKin-1, kin(leastParent, 0, -1))...))
	wantTwo(t, "MostChildren of the parent of all others", who, most, ok, 0, 13)
	who, most, ok = impl.MostChildren(manyKin(greatestKin, alone(1900)))
	wantTwo(t, "MostChildren where nobody has any", who, most, ok, 0, 0)
}

func TestAliveAgesEdges(t *testing.T) {
	for _, c := range []struct {
		family string
		year   int
		want   []int
	}{
		{"0", 0, ages(0)}, {"0", 1, ages(1)}, {"0", 3000, ages(3000)}, {"3000", 3000, ages(0)}, {"3000", 2999, ages(-1)}, {"3000", 0, ages(-1)}, {"1;0", 0, ages(-1, 0)},
		{exampleFamily, 0, manyAges(7, -1)}, {exampleFamily, 1919, manyAges(7, -1)}, {exampleFamily, 1920, ages(0, -1, -1, -1, -1, -1, -1)}, {exampleFamily, 1951, ages(31, 26, 1, -1, -1, -1, -1)}, {exampleFamily, 1979, ages(59, 54, 29, 27, 24, -1, 1)}, {exampleFamily, 1980, ages(60, 55, 30, 28, 25, 0, 2)}, {exampleFamily, 3000, ages(1080, 1075, 1050, 1048, 1045, 1020, 1022)},
	} {
		list, ok := impl.AliveAges(familyOf(c.family), c.year)
		wantInts(t, "AliveAges in "+c.family, list, ok, c.want...)
	}
	for _, year := range badYears() {
		list, ok := impl.AliveAges(familyOf(exampleFamily), year)
		wantNone(t, "AliveAges in no year", list, ok)
	}
}

func TestStepsApartEdges(t *testing.T) {
	for _, c := range []struct {
		family string
		a, b   int
		want   int
	}{
		{"0", 0, 0, 0}, {"0;14.0", 1, 1, 0}, {"0;14.0", 0, 1, 1}, {"0;14.0;14.0", 1, 2, 2}, {"0;0;14.0.1", 0, 1, 2}, {"0;14.0;28.1", 0, 2, 2}, {"0;14.0;28.0.1", 0, 2, 1}, {"0;14.0;28.1;42.0.2", 0, 3, 1}, {"0;14.0;28.1;42.0.2", 1, 3, 2}, {"0;0;0;14.0.1;14.1.2", 0, 2, 4},
		{exampleFamily, 5, 6, 4}, {exampleFamily, 4, 6, 5}, {exampleFamily, 0, 1, 2}, {exampleFamily, 4, 2, 2}, {exampleFamily, 4, 3, 4}, {wideFamily, 6, 7, 6}, {wideFamily, 1, 7, 5}, {"100;100;100;100;114.0;114.0.1;114.1.2;114.2.3;114.3", 4, 8, 8},
	} {
		n, ok := impl.StepsApart(familyOf(c.family), c.a, c.b)
		wantInt(t, "StepsApart in "+c.family, n, ok, c.want)
		n, ok = impl.StepsApart(familyOf(c.family), c.b, c.a)
		wantInt(t, "StepsApart the other way round in "+c.family, n, ok, c.want)
	}
	n, ok := impl.StepsApart(chainOfKin(greatestKin), 13, 0)
	wantInt(t, "StepsApart at both ends of a chain", n, ok, 13)
	for _, c := range []struct {
		family string
		a, b   int
	}{
		{"0;0", 0, 1}, {"0;14.0;0", 1, 2}, {"0;14.0;0;14.2", 1, 3}, {"0;0;14.0;14.1", 2, 3}, {wideFamily, 0, 8}, {wideFamily, 7, 8}, {"1;15.0;1;15.2;1;15.4;1;15.6", 1, 7},
	} {
		n, ok := impl.StepsApart(familyOf(c.family), c.a, c.b)
		wantNoInt(t, "StepsApart of kin that no steps join in "+c.family, n, ok)
		n, ok = impl.StepsApart(familyOf(c.family), c.b, c.a)
		wantNoInt(t, "StepsApart the other way round of kin that no steps join in "+c.family, n, ok)
	}
}

func TestFamilyTextEdges(t *testing.T) {
	for _, c := range []struct {
		family []impl.Kin
		want   string
	}{
		{kinList(alone(0)), "0"}, {kinList(alone(greatestYear)), "3000"}, {kinList(alone(7), alone(0)), "7;0"}, {kinList(alone(0), kin(14, 0, -1)), "0;14.0"}, {kinList(alone(0), alone(0), kin(14, 1, -1)), "0;0;14.1"}, {kinList(alone(0), alone(0), kin(14, 0, 1)), "0;0;14.0.1"}, {chainOfKin(greatestKin), "0;14.0;28.1;42.2;56.3;70.4;84.5;98.6;112.7;126.8;140.9;154.10;168.11;182.12"}, {closeKin(greatestKin), "0;0;14.0.1;28.1.2;42.2.3;56.3.4;70.4.5;84.5.6;98.6.7;112.7.8;126.8.9;140.9.10;154.10.11;168.11.12"},
	} {
		text, ok := impl.FamilyText(c.family)
		wantText(t, "FamilyText", text, ok, c.want)
		family, ok := impl.ParseFamily(c.want)
		wantFamily(t, "ParseFamily "+c.want, family, ok, c.family)
	}
	for _, family := range badFamilies() {
		text, ok := impl.FamilyText(family)
		wantNoText(t, "FamilyText of no family", text, ok)
	}
}

func TestParseFamilyEdges(t *testing.T) {
	for _, text := range goodTextsOfFamilies() {
		family, ok := impl.ParseFamily(text)
		wantFamily(t, "ParseFamily "+text, family, ok, familyOf(text))
	}
	for _, text := range badTextsOfFamilies() {
		if family, ok := impl.ParseFamily(text); ok || len(family) != 0 {
			t.Errorf("ParseFamily %q is %v, %v, not a failure", text, family, ok)
		}
	}
}
