package tests

import (
	"slices"
	"testing"

	"loop.example/g01369/impl"
)

// The tests of this file hold each function against the document's definitions, by going through all kin, and all lines between them.

// triedFamilies are all families of up to 5 kin, as to their parents, many of 6, and mixed ones of up to 14.
func triedFamilies() [][]impl.Kin {
	families := append(goodFamilies(), mixedFamilies(150)...)
	for count := 1; count <= 5; count++ {
		families = append(families, allFamiliesOf(count)...)
	}
	return append(families, everyNth(allFamiliesOf(6), 7)...)
}

func everyNth(families [][]impl.Kin, n int) [][]impl.Kin {
	var found [][]impl.Kin
	for i := 0; i < len(families); i += n {
		found = append(found, families[i])
	}
	return found
}

func holdForFamilies(t *testing.T, hold func(t *testing.T, family []impl.Kin)) {
	t.Helper()
	for _, family := range triedFamilies() {
		if !isFamily(family) {
			t.Fatalf("the test is wrong about %v", family)
		}
		hold(t, family)
		if t.Failed() {
			t.Fatalf("of the family %s", textOf(family))
		}
	}
}

func holdForPairs(t *testing.T, hold func(t *testing.T, family []impl.Kin, a int, b int)) {
	t.Helper()
	holdForFamilies(t, func(t *testing.T, family []impl.Kin) {
		t.Helper()
		for a := range family {
			for b := range family {
				hold(t, family, a, b)
				if t.Failed() {
					t.Fatalf("of the kin %d and %d", a, b)
				}
			}
		}
	})
}

func TestPromise6IsFamily(t *testing.T) {
	first := kinList(alone(-1), alone(0), alone(1), alone(3000), alone(3001), kin(20, 0, -1))
	for _, born := range ages(-1, 0, 13, 14, 15, 28, 2999, 3000, 3001) {
		for _, numbers := range allLists(2, -3, 3) {
			last := kin(born, numbers[0], numbers[1])
			if impl.IsFamily(kinList(last)) != isFamily(kinList(last)) {
				t.Errorf("IsFamily of %v alone is wrong", last)
			}
			for _, k := range first {
				for _, list := range [][]impl.Kin{kinList(k, last), kinList(alone(0), k, last), kinList(k, alone(1), last), kinList(alone(0), kin(14, 0, -1), last, alone(5))} {
					if impl.IsFamily(list) != isFamily(list) {
						t.Errorf("IsFamily of %v is %v", list, !isFamily(list))
					}
				}
			}
		}
	}
	for count := range 20 {
		for _, list := range [][]impl.Kin{manyKin(count, alone(9)), chainOfKin(count)} {
			if impl.IsFamily(list) != (1 <= count && count <= 14) {
				t.Errorf("IsFamily of %d kin is wrong", count)
			}
		}
	}
}

func TestPromise6AddKin(t *testing.T) {
	for _, family := range append(goodFamilies(), mixedFamilies(40)...) {
		for _, born := range ages(-1, 0, 13, 14, 28, 60, 150, 1914, 2013, 2014, 3000, 3001) {
			for _, numbers := range allLists(2, -2, len(family)) {
				k := kin(born, numbers[0], numbers[1])
				longer := append(slices.Clone(family), k)
				got, ok := impl.AddKin(family, k)
				if isFamily(longer) {
					wantFamily(t, "AddKin", got, ok, longer)
				} else {
					wantNone(t, "AddKin of one who cannot stand there", got, ok)
				}
			}
		}
	}
}

func TestPromise6ParentsAndGenerations(t *testing.T) {
	holdForFamilies(t, func(t *testing.T, family []impl.Kin) {
		var generations [][]int
		for who := range family {
			list, ok := impl.ParentsOf(family, who)
			wantInts(t, "ParentsOf", list, ok, kinWhen(family, func(p int) bool { return isParentIn(family, p, who) })...)
			list, ok = impl.ChildrenOf(family, who)
			wantInts(t, "ChildrenOf", list, ok, kinWhen(family, func(c int) bool { return isParentIn(family, who, c) })...)
			n, ok := impl.GenerationOf(family, who)
			wantInt(t, "GenerationOf", n, ok, generationIn(family, who))
		}
		for generation := range family {
			row := kinWhen(family, func(who int) bool { return generationIn(family, who) == generation })
			if len(row) > 0 {
				generations = append(generations, row)
			}
		}
		rows, ok := impl.GenerationsOf(family)
		wantRows(t, "GenerationsOf", rows, ok, generations...)
	})
}

func TestPromise6Ancestors(t *testing.T) {
	holdForFamilies(t, func(t *testing.T, family []impl.Kin) {
		for who := range family {
			list, ok := impl.AncestorsOf(family, who)
			wantInts(t, "AncestorsOf", list, ok, kinWhen(family, func(a int) bool { return isAncestorIn(family, a, who) })...)
			list, ok = impl.DescendantsOf(family, who)
			wantInts(t, "DescendantsOf", list, ok, kinWhen(family, func(d int) bool { return isAncestorIn(family, who, d) })...)
		}
	})
	holdForPairs(t, func(t *testing.T, family []impl.Kin, a int, b int) {
		list, ok := impl.CommonAncestors(family, a, b)
		wantInts(t, "CommonAncestors", list, ok, commonAncestorsIn(family, a, b)...)
	})
}

func TestPromise6SiblingsAndCousins(t *testing.T) {
	holdForPairs(t, func(t *testing.T, family []impl.Kin, a int, b int) {
		is, ok := impl.AreSiblings(family, a, b)
		wantBool(t, "AreSiblings", is, ok, areSiblingsIn(family, a, b))
		is, ok = impl.AreHalf(family, a, b)
		wantBool(t, "AreHalf", is, ok, a != b && commonParentsIn(family, a, b) == 1)
		is, ok = impl.AreCousins(family, a, b)
		wantBool(t, "AreCousins", is, ok, areCousinsIn(family, a, b))
	})
}

func TestPromise6RelationsAreTheFirstThatHold(t *testing.T) {
	first, later := map[string]bool{}, map[string]bool{}
	holdForPairs(t, func(t *testing.T, family []impl.Kin, a int, b int) {
		names := relationsIn(family, a, b)
		text, ok := impl.RelationOf(family, a, b)
		wantText(t, "RelationOf", text, ok, names[0])
		first[names[0]] = true
		for _, name := range names[1:] {
			later[names[0]+" and "+name] = true
		}
	})
	for _, name := range relationNames() {
		if !first[name] {
			t.Errorf("no two tried are %q", name)
		}
	}
	for _, both := range []string{"parent and sibling", "parent and grandparent", "parent and cousin", "sibling and grandparent", "sibling and aunt", "grandparent and aunt", "aunt and niece", "aunt and cousin", "aunt and ancestor", "cousin and ancestor", "ancestor and kin"} {
		if !later[both] {
			t.Errorf("no two tried are %s at once", both)
		}
	}
}

// fromOtherSide is what b is to a, if a is just this to b.
func fromOtherSide(name string) string {
	for _, both := range [][]string{{"parent", "child"}, {"grandparent", "grandchild"}, {"aunt", "niece"}, {"ancestor", "descendant"}} {
		if place := slices.Index(both, name); place >= 0 {
			return both[1-place]
		}
	}
	return name
}

func TestPromise6RelationsAreToldFromBothSides(t *testing.T) {
	holdForPairs(t, func(t *testing.T, family []impl.Kin, a int, b int) {
		name, _ := impl.RelationOf(family, a, b)
		want := fromOtherSide(name)
		// Two may be an aunt of each other: then that is the first to hold from both sides.
		if name == "aunt" && slices.Contains(relationsIn(family, b, a), "aunt") {
			want = "aunt"
		}
		text, ok := impl.RelationOf(family, b, a)
		wantText(t, "RelationOf from the other side of "+name, text, ok, want)
		for _, call := range []func([]impl.Kin, int, int) (bool, bool){impl.AreSiblings, impl.AreHalf, impl.AreCousins} {
			is, _ := call(family, a, b)
			back, ok := call(family, b, a)
			wantBool(t, "a question about two from the other side", back, ok, is)
		}
		steps, isJoined := impl.StepsApart(family, a, b)
		back, ok := impl.StepsApart(family, b, a)
		if back != steps || ok != isJoined {
			t.Errorf("StepsApart is %d, %v, and from the other side %d, %v", steps, isJoined, back, ok)
		}
	})
}

func TestPromise6LinesGoDownByTheFewestSteps(t *testing.T) {
	holdForPairs(t, func(t *testing.T, family []impl.Kin, a int, b int) {
		lines := linesIn(family, a, b)
		list, ok := impl.LineDown(family, a, b)
		if len(lines) == 0 {
			wantNone(t, "LineDown where none leads", list, ok)
			return
		}
		wantInts(t, "LineDown", list, ok, lines[0]...)
	})
}

func TestPromise6StepsApart(t *testing.T) {
	holdForFamilies(t, func(t *testing.T, family []impl.Kin) {
		for a, row := range stepsIn(family) {
			for b, steps := range row {
				n, ok := impl.StepsApart(family, a, b)
				if steps >= farApart {
					wantNoInt(t, "StepsApart of kin that no steps join", n, ok)
				} else {
					wantInt(t, "StepsApart", n, ok, steps)
				}
			}
		}
	})
}

func TestPromise6AgesOfParents(t *testing.T) {
	holdForFamilies(t, func(t *testing.T, family []impl.Kin) {
		youngest := ages(-1, -1, greatestYear+1)
		for parent := range family {
			for child := range family {
				n, ok := impl.AgeAtBirth(family, parent, child)
				if !isParentIn(family, parent, child) {
					wantNoInt(t, "AgeAtBirth of no parent", n, ok)
					continue
				}
				age := family[child].Born - family[parent].Born
				wantInt(t, "AgeAtBirth", n, ok, age)
				if age < youngest[2] {
					youngest = ages(parent, child, age)
				}
			}
		}
		parent, child, ok := impl.YoungestParent(family)
		if youngest[0] < 0 {
			wantNoTwo(t, "YoungestParent where nobody has a known parent", parent, child, ok)
		} else {
			wantTwo(t, "YoungestParent", parent, child, ok, youngest[0], youngest[1])
		}
	})
}

func TestPromise6MostChildren(t *testing.T) {
	holdForFamilies(t, func(t *testing.T, family []impl.Kin) {
		counts := make([]int, len(family))
		for who := range family {
			counts[who] = len(kinWhen(family, func(c int) bool { return isParentIn(family, who, c) }))
		}
		most := slices.Max(counts)
		who, n, ok := impl.MostChildren(family)
		wantTwo(t, "MostChildren", who, n, ok, slices.Index(counts, most), most)
	})
}

func TestPromise6AliveAges(t *testing.T) {
	for _, family := range append(goodFamilies(), mixedFamilies(10)...) {
		for _, year := range append(ages(0, 1, 2, 1000, 1919, 1920, 1921, 2986, greatestYear-1, greatestYear), family[len(family)-1].Born) {
			want := manyAges(len(family), -1)
			for who, k := range family {
				for birthday := k.Born; birthday <= year; birthday++ {
					want[who]++
				}
			}
			list, ok := impl.AliveAges(family, year)
			wantInts(t, "AliveAges", list, ok, want...)
		}
	}
}

func TestPromise6Texts(t *testing.T) {
	holdForFamilies(t, func(t *testing.T, family []impl.Kin) {
		text, ok := impl.FamilyText(family)
		wantText(t, "FamilyText", text, ok, textOf(family))
		parsed, ok := impl.ParseFamily(textOf(family))
		wantFamily(t, "ParseFamily", parsed, ok, family)
	})
}

// Each text here is one of a family but for one sign that is left out, put in twice, or another one.
func TestPromise6TextsWithOneOtherSign(t *testing.T) {
	for _, family := range append(everyNth(goodFamilies(), 2), mixedFamilies(20)...) {
		text := textOf(family)
		for i := range len(text) {
			changed := []string{text[:i] + text[i+1:], text[:i+1] + text[i:]}
			for _, sign := range []string{"0", "1", "9", ".", ";", "-", "+", " ", "x"} {
				changed = append(changed, text[:i]+sign+text[i+1:], text[:i]+sign+text[i:], text+sign)
			}
			for _, other := range changed {
				parsed, ok := impl.ParseFamily(other)
				if !ok {
					wantNone(t, "ParseFamily "+other, parsed, ok)
				}
				// familyOf takes much that is no text, so that just what it tells again is one.
				if list := familyOf(other); ok != (isFamily(list) && textOf(list) == other) {
					t.Fatalf("ParseFamily %q is %v, %v", other, parsed, ok)
				}
			}
		}
	}
}
