package tests

import (
	"slices"
	"strings"
	"testing"

	"loop.example/g01369/impl"
)

// A familyCall is one function of chapter 6 that takes a family. Told has a letter for each number behind it: w for one of the kin, y for a year.
type familyCall struct {
	name string
	told string
	run  func(family []impl.Kin, n []int) (bool, []any)
}

func familyCalls() []familyCall {
	return []familyCall{
		{"IsFamily", "", func(f []impl.Kin, n []int) (bool, []any) { return results(impl.IsFamily(f)) }},
		{"ParentsOf", "w", func(f []impl.Kin, n []int) (bool, []any) { r, ok := impl.ParentsOf(f, n[0]); return results(ok, r) }},
		{"ChildrenOf", "w", func(f []impl.Kin, n []int) (bool, []any) { r, ok := impl.ChildrenOf(f, n[0]); return results(ok, r) }},
		{"GenerationOf", "w", func(f []impl.Kin, n []int) (bool, []any) { r, ok := impl.GenerationOf(f, n[0]); return results(ok, r) }},
		{"GenerationsOf", "", func(f []impl.Kin, n []int) (bool, []any) { r, ok := impl.GenerationsOf(f); return results(ok, r) }},
		{"AncestorsOf", "w", func(f []impl.Kin, n []int) (bool, []any) { r, ok := impl.AncestorsOf(f, n[0]); return results(ok, r) }},
		{"DescendantsOf", "w", func(f []impl.Kin, n []int) (bool, []any) { r, ok := impl.DescendantsOf(f, n[0]); return results(ok, r) }},
		{"CommonAncestors", "ww", func(f []impl.Kin, n []int) (bool, []any) {
			r, ok := impl.CommonAncestors(f, n[0], n[1])
			return results(ok, r)
		}},
		{"AreSiblings", "ww", func(f []impl.Kin, n []int) (bool, []any) {
			r, ok := impl.AreSiblings(f, n[0], n[1])
			return results(ok, r)
		}},
		{"AreHalf", "ww", func(f []impl.Kin, n []int) (bool, []any) { r, ok := impl.AreHalf(f, n[0], n[1]); return results(ok, r) }},
		{"AreCousins", "ww", func(f []impl.Kin, n []int) (bool, []any) {
			r, ok := impl.AreCousins(f, n[0], n[1])
			return results(ok, r)
		}},
		{"RelationOf", "ww", func(f []impl.Kin, n []int) (bool, []any) {
			r, ok := impl.RelationOf(f, n[0], n[1])
			return results(ok, r)
		}},
		{"LineDown", "ww", func(f []impl.Kin, n []int) (bool, []any) {
			r, ok := impl.LineDown(f, n[0], n[1])
			return results(ok, r)
		}},
		{"AgeAtBirth", "ww", func(f []impl.Kin, n []int) (bool, []any) {
			r, ok := impl.AgeAtBirth(f, n[0], n[1])
			return results(ok, r)
		}},
		{"YoungestParent", "", func(f []impl.Kin, n []int) (bool, []any) {
			r, s, ok := impl.YoungestParent(f)
			return results(ok, r, s)
		}},
		{"MostChildren", "", func(f []impl.Kin, n []int) (bool, []any) { r, s, ok := impl.MostChildren(f); return results(ok, r, s) }},
		{"AliveAges", "y", func(f []impl.Kin, n []int) (bool, []any) { r, ok := impl.AliveAges(f, n[0]); return results(ok, r) }},
		{"StepsApart", "ww", func(f []impl.Kin, n []int) (bool, []any) {
			r, ok := impl.StepsApart(f, n[0], n[1])
			return results(ok, r)
		}},
		{"FamilyText", "", func(f []impl.Kin, n []int) (bool, []any) { r, ok := impl.FamilyText(f); return results(ok, r) }},
	}
}

// canFailForValid are those that fail as well where the described result does not exist.
func canFailForValid() []string {
	return []string{"LineDown", "AgeAtBirth", "YoungestParent", "StepsApart"}
}

func spareKin() impl.Kin { return kin(spareMark, spareMark, spareMark) }

func goodFamilyNumbers(family []impl.Kin) func(letter byte) []int {
	return func(letter byte) []int {
		if letter == 'w' {
			return kinWhen(family, func(int) bool { return true })
		}
		return ages(0, 1, 14, 1500, 1950, greatestYear-1, greatestYear)
	}
}

func badFamilyNumbers(family []impl.Kin, letter byte) []int {
	if letter == 'w' {
		return badWhoOf(family)
	}
	return badYears()
}

func TestPromise11FamiliesAreTotal(t *testing.T) {
	for _, call := range familyCalls() {
		for _, family := range append(goodFamilies(), badFamilies()...) {
			for _, row := range numberRows(len(call.told)) {
				holdTotalRun(t, call.name, row, family, spareKin(), func(given []impl.Kin) (bool, []any) { return call.run(given, row) })
			}
		}
	}
}

func TestPromise11InvalidFamiliesFail(t *testing.T) {
	for _, call := range familyCalls() {
		for _, family := range badFamilies() {
			for _, row := range toldRows(call.told, goodFamilyNumbers(manyKin(3, alone(0)))) {
				if ok, got := call.run(family, row); ok || !areZero(got) {
					t.Fatalf("%s of %v and %v is %v, %v", call.name, family, row, got, ok)
				}
			}
		}
	}
}

func TestPromise11InvalidFamilyNumbersFail(t *testing.T) {
	for _, call := range familyCalls() {
		for _, family := range goodFamilies() {
			for place := range len(call.told) {
				for _, row := range toldRows(call.told, goodFamilyNumbers(family)) {
					for _, row[place] = range badFamilyNumbers(family, call.told[place]) {
						if ok, got := call.run(family, row); ok || !areZero(got) {
							t.Fatalf("%s of %v and %v is %v, %v", call.name, family, row, got, ok)
						}
					}
				}
			}
			if call.told == "ww" {
				for _, bad := range badWhoOf(family) {
					if ok, got := call.run(family, ages(bad, bad)); ok || !areZero(got) {
						t.Fatalf("%s of %v and twice %d is %v, %v", call.name, family, bad, got, ok)
					}
				}
			}
		}
	}
}

func TestPromise11ValidFamilyArgumentsSucceed(t *testing.T) {
	for _, call := range familyCalls() {
		if slices.Contains(canFailForValid(), call.name) {
			continue
		}
		for _, family := range append(goodFamilies(), mixedFamilies(20)...) {
			for _, row := range toldRows(call.told, goodFamilyNumbers(family)) {
				if ok, _ := call.run(family, row); !ok {
					t.Fatalf("%s of %v and %v fails", call.name, family, row)
				}
			}
		}
	}
}

func TestPromise11FamiliesShareNoMemory(t *testing.T) {
	for _, call := range familyCalls() {
		for _, family := range append(goodFamilies(), mixedFamilies(5)...) {
			for _, row := range toldRows(call.told, goodFamilyNumbers(family)) {
				holdOwnMemoryRun(t, call.name, row, family, spareKin(), func(given []impl.Kin) (bool, []any) { return call.run(given, row) })
			}
		}
	}
}

func TestPromise11AddKin(t *testing.T) {
	for _, family := range append(goodFamilies(), badFamilies()...) {
		for _, k := range append(badKin(), alone(0), alone(greatestYear), kin(greatestYear, 0, -1), kin(1990, 0, -1), kin(1990, 0, 1), kin(greatestYear, 12, 13)) {
			given := withSpare(family, spareKin())
			before := slices.Clone(whole(given))
			first, ok := impl.AddKin(given, k)
			want := slices.Clone(first)
			for i := range whole(first) {
				whole(first)[i] = spareKin()
			}
			if !slices.Equal(before, whole(given)) {
				t.Fatalf("AddKin of %v and %v changed its argument, or shares memory with it", family, k)
			}
			if !ok && len(want) > 0 {
				t.Fatalf("AddKin of %v and %v fails with %v", family, k, want)
			}
			if second, again := impl.AddKin(given, k); again != ok || !slices.Equal(second, want) {
				t.Fatalf("AddKin of %v and %v once more is %v, %v", family, k, second, again)
			}
		}
	}
}

func TestPromise11ParseFamily(t *testing.T) {
	for _, text := range []string{strings.Repeat(";", 100000), strings.Repeat(".", 100000), strings.Repeat("1", 100000), strings.Repeat("1;", 100000), "0;14" + strings.Repeat(".0", 100000), strings.Repeat("0", 100000) + "1", "0;14." + strings.Repeat("0", 100000), "0" + strings.Repeat(" ", 100000), "\x00\xff;\xfe.\xfd"} {
		family, ok := impl.ParseFamily(text)
		wantNone(t, "ParseFamily of a long or broken text", family, ok)
	}
	first, _ := impl.ParseFamily(exampleFamily)
	for i := range whole(first) {
		whole(first)[i] = spareKin()
	}
	second, ok := impl.ParseFamily(exampleFamily)
	wantFamily(t, "ParseFamily once more", second, ok, familyOf(exampleFamily))
}
