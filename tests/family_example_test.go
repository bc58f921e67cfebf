package tests

import (
	"testing"

	"loop.example/g01369/impl"
)

func TestFamilyExample(t *testing.T) {
	family, ok := impl.ParseFamily(exampleFamily)
	wantFamily(t, "ParseFamily", family, ok, kinList(alone(1920), alone(1925), kin(1950, 0, 1), kin(1952, 0, 1), alone(1955), kin(1980, 2, 4), kin(1978, 3, -1)))
	for _, parent := range ages(0, 1) {
		list, ok := impl.ChildrenOf(family, parent)
		wantInts(t, "ChildrenOf", list, ok, 2, 3)
	}
	rows, ok := impl.GenerationsOf(family)
	wantRows(t, "GenerationsOf", rows, ok, ages(0, 1, 4), ages(2, 3), ages(5, 6))
	is, ok := impl.AreCousins(family, 5, 6)
	wantBool(t, "AreCousins 5 6", is, ok, true)
	text, ok := impl.RelationOf(family, 2, 6)
	wantText(t, "RelationOf 2 6", text, ok, "aunt")
	text, ok = impl.RelationOf(family, 0, 6)
	wantText(t, "RelationOf 0 6", text, ok, "grandparent")
	parent, child, ok := impl.YoungestParent(family)
	wantTwo(t, "YoungestParent", parent, child, ok, 1, 2)
	n, ok := impl.AgeAtBirth(family, parent, child)
	wantInt(t, "AgeAtBirth 1 2", n, ok, 25)
	list, ok := impl.LineDown(family, 1, 6)
	wantInts(t, "LineDown 1 6", list, ok, 1, 3, 6)
	n, ok = impl.StepsApart(family, 5, 6)
	wantInt(t, "StepsApart 5 6", n, ok, 4)
	list, ok = impl.AliveAges(family, 1953)
	wantInts(t, "AliveAges 1953", list, ok, 33, 28, 3, 1, -1, -1, -1)
	text, ok = impl.FamilyText(family)
	wantText(t, "FamilyText", text, ok, exampleFamily)
}

func TestFamilyConstants(t *testing.T) {
	if impl.MaxKin != greatestKin || impl.MinParent != leastParent || impl.MaxYear != greatestYear {
		t.Error("a limit of chapter 6 has changed")
	}
}
