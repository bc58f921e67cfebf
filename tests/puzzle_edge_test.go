package tests

import (
	"math"
	"slices"
	"strings"
	"testing"

	"loop.example/g01369/impl"
)

func TestIsClueEdges(t *testing.T) {
	for people := 2; people <= 3; people++ {
		for _, c := range goodClues(people) {
			if !impl.IsClue(people, c) {
				t.Errorf("%v is a clue of %d", c, people)
			}
		}
		for _, c := range badClues(people) {
			if impl.IsClue(people, c) {
				t.Errorf("%v is no clue of %d", c, people)
			}
		}
	}
	for _, text := range []string{"0.0.0", "0.0.2000", "1.0.0", "1.1.2000", "2.0.0", "2.0.2000", "3.0.0", "3.1.1", "4.0.0", "4.0.2000", "5.0.0", "5.1.1", "6.0.2", "6.9.9", "6.0.9", "6.9.2"} {
		if !impl.IsClue(2, clueOf(text)) {
			t.Errorf("%s is a clue of 2", text)
		}
	}
	for _, text := range []string{"-1.0.0", "7.0.0", "7.0.2", "0.-1.9", "0.1.9", "0.0.-1", "0.0.2001", "1.-1.5", "1.2.5", "1.0.-1", "1.0.2001", "2.-1.9", "2.1.9", "2.0.-1", "2.0.2001", "3.-1.1", "3.2.1", "3.0.-1", "3.0.2", "4.-1.1", "4.1.1", "4.0.-1", "4.0.2001", "5.-1.0", "5.2.0", "5.1.-1", "5.1.2", "6.-1.5", "6.10.5", "6.3.1", "6.3.0", "6.3.-1", "6.3.10"} {
		if impl.IsClue(2, clueOf(text)) {
			t.Errorf("%s is no clue of 2", text)
		}
	}
}

// There are no hidden ages of so many people, but somebody or nobody is there all the same.
func TestIsClueOfAnyNumberOfPeople(t *testing.T) {
	for _, people := range badHiddenPeople() {
		for _, c := range clueList(clue(0, 0, 9), clue(2, 0, 20), clue(4, 0, 1), clue(6, 0, 2), clue(6, 9, 9)) {
			if !impl.IsClue(people, c) {
				t.Errorf("%v is a clue of %d", c, people)
			}
		}
		for _, kind := range ages(1, 3, 5) {
			for _, who := range ages(math.MinInt, -2, -1, 0, 1, 3, 4, 11, 12, math.MaxInt-1, math.MaxInt) {
				if want := 0 <= who && who < people; impl.IsClue(people, clue(kind, who, 1)) != want {
					t.Errorf("IsClue of %d, %d and %d is %v", people, kind, who, !want)
				}
			}
		}
		for _, c := range clueList(clue(-1, 0, 2), clue(7, 0, 2), clue(0, 1, 9), clue(0, 0, -1), clue(0, 0, greatestTold+1), clue(6, 10, 9), clue(6, 0, 1), clue(6, 0, 10), clue(6, -1, 9)) {
			if impl.IsClue(people, c) {
				t.Errorf("%v is no clue of %d", c, people)
			}
		}
	}
}

func TestIsPuzzleEdges(t *testing.T) {
	for _, p := range goodPuzzles() {
		if !impl.IsPuzzle(p) {
			t.Errorf("%v is a puzzle", p)
		}
	}
	for _, p := range badPuzzles() {
		if impl.IsPuzzle(p) {
			t.Errorf("%v is no puzzle", p)
		}
	}
	for count := range 10 {
		if want := count <= 6; impl.IsPuzzle(puzzle(2, manyClues(count, clue(6, 9, 9))...)) != want {
			t.Errorf("IsPuzzle of %d clues is %v", count, !want)
		}
	}
	// A clue of three is none of two.
	if !impl.IsPuzzle(puzzle(3, clue(1, 2, 5))) || impl.IsPuzzle(puzzle(2, clue(1, 2, 5))) || impl.IsPuzzle(impl.Puzzle{}) {
		t.Error("IsPuzzle takes another number of people")
	}
}

func TestDoesFitEdges(t *testing.T) {
	for _, c := range []struct {
		clue string
		ages []int
		want bool
	}{
		{"0.0.9", ages(5, 4), true}, {"0.0.9", ages(5, 5), false}, {"0.0.2", ages(1, 1), true}, {"0.0.24", ages(12, 12), true}, {"0.0.3", ages(1, 1, 1), true}, {"0.0.36", ages(12, 12, 12), true}, {"0.0.9", ages(5, 4, 1), false}, {"0.0.0", ages(1, 1), false}, {"0.0.2000", ages(12, 12, 12), false},
		{"1.0.5", ages(5, 4), true}, {"1.1.5", ages(5, 4), false}, {"1.1.4", ages(5, 4), true}, {"1.2.12", ages(1, 1, 12), true}, {"1.2.1", ages(12, 12, 1), true}, {"1.0.0", ages(1, 1), false}, {"1.0.13", ages(12, 12), false}, {"1.0.2000", ages(12, 12), false},
		{"2.0.20", ages(5, 4), true}, {"2.0.20", ages(4, 5), true}, {"2.0.20", ages(5, 5), false}, {"2.0.1", ages(1, 1), true}, {"2.0.144", ages(12, 12), true}, {"2.0.1728", ages(12, 12, 12), true}, {"2.0.36", ages(9, 2, 2), true}, {"2.0.36", ages(9, 2), false}, {"2.0.0", ages(1, 1), false}, {"2.0.2000", ages(12, 12, 12), false},
		// The last one is followed by the first one.
		{"3.0.1", ages(5, 4), true}, {"3.0.0", ages(5, 4), false}, {"3.1.1", ages(5, 4), false}, {"3.1.0", ages(5, 4), true}, {"3.1.1", ages(4, 5), true}, {"3.2.1", ages(4, 9, 5), true}, {"3.2.0", ages(4, 9, 5), false}, {"3.2.1", ages(6, 1, 5), false}, {"3.2.0", ages(6, 1, 5), true}, {"3.0.1", ages(4, 9, 1), false}, {"3.1.1", ages(4, 9, 5), true},
		{"3.0.1", ages(7, 7), false}, {"3.0.0", ages(7, 7), true}, {"3.1.0", ages(7, 7), true}, {"3.2.0", ages(7, 12, 7), true}, {"3.2.1", ages(7, 12, 7), false}, {"3.0.1", ages(12, 1), true}, {"3.0.0", ages(1, 12), true},
		// 1 is no prime.
		{"4.0.0", ages(1, 1), true}, {"4.0.1", ages(1, 1), false}, {"4.0.0", ages(1, 4), true}, {"4.0.1", ages(2, 4), true}, {"4.0.2", ages(2, 11), true}, {"4.0.2", ages(3, 9), false}, {"4.0.1", ages(3, 9), true}, {"4.0.3", ages(2, 3, 5), true}, {"4.0.3", ages(7, 7, 7), true}, {"4.0.2", ages(7, 7, 7), false}, {"4.0.0", ages(4, 6, 9), true}, {"4.0.0", ages(8, 10, 12), true}, {"4.0.2", ages(7, 11, 12), true}, {"4.0.4", ages(2, 3, 5), false}, {"4.0.2000", ages(2, 3), false},
		{"5.0.1", ages(12, 4), true}, {"5.0.0", ages(12, 4), false}, {"5.1.1", ages(12, 4), false}, {"5.1.0", ages(12, 4), true}, {"5.0.1", ages(5, 4), false}, {"5.0.0", ages(5, 4), true}, {"5.0.1", ages(5, 5), true}, {"5.1.1", ages(5, 5), true}, {"5.0.1", ages(7, 1), true}, {"5.0.1", ages(1, 7), false}, {"5.1.1", ages(1, 7), true}, {"5.2.1", ages(3, 1, 9), true}, {"5.2.1", ages(9, 1, 3), false}, {"5.2.0", ages(9, 1, 3), true}, {"5.1.1", ages(5, 8, 4), true}, {"5.2.1", ages(5, 8, 4), false}, {"5.0.0", ages(12, 5, 3), true},
		{"6.3.9", ages(5, 7), true}, {"6.3.9", ages(5, 6), false}, {"6.0.2", ages(1, 1), true}, {"6.0.2", ages(1, 2), false}, {"6.9.9", ages(12, 12, 12), true}, {"6.9.2", ages(12, 12, 12), false}, {"6.9.2", ages(1, 1), true}, {"6.1.7", ages(2, 3), true}, {"6.1.7", ages(1, 1, 2), true}, {"6.1.5", ages(1, 1, 2), false}, {"6.0.9", ages(1, 1), false}, {"6.0.9", ages(4, 5), true}, {"6.0.9", ages(9, 9, 9), true}, {"6.9.9", ages(1, 8), true}, {"6.9.9", ages(1, 9), false}, {"6.0.3", ages(1, 1, 1), true},
	} {
		is, ok := impl.DoesFit(clueOf(c.clue), c.ages)
		wantBool(t, "DoesFit "+c.clue, is, ok, c.want)
	}
	// A clue of three is none of two.
	is, ok := impl.DoesFit(clue(1, 2, 5), ages(5, 5))
	wantNoBool(t, "DoesFit of somebody who is not there", is, ok)
	for _, kind := range ages(1, 3, 5) {
		is, ok = impl.DoesFit(clue(kind, 3, 1), ages(5, 4, 1))
		wantNoBool(t, "DoesFit of somebody who is not there", is, ok)
	}
}

func TestSolutionsEdges(t *testing.T) {
	for text, want := range map[string][][]int{
		"2a0.0.2": {{1, 1}}, "2a0.0.24": {{12, 12}}, "3a0.0.36": {{12, 12, 12}}, "3a2.0.1": {{1, 1, 1}}, "2a0.0.3": {{1, 2}, {2, 1}}, "3a0.0.4": {{1, 1, 2}, {1, 2, 1}, {2, 1, 1}},
		"2a0.0.9": {{1, 8}, {2, 7}, {3, 6}, {4, 5}, {5, 4}, {6, 3}, {7, 2}, {8, 1}}, "2a0.0.9,0.0.9": {{1, 8}, {2, 7}, {3, 6}, {4, 5}, {5, 4}, {6, 3}, {7, 2}, {8, 1}}, "2a0.0.9,2.0.20": {{4, 5}, {5, 4}}, "2a2.0.20,0.0.9": {{4, 5}, {5, 4}},
		"3a0.0.13,2.0.36": {{1, 6, 6}, {2, 2, 9}, {2, 9, 2}, {6, 1, 6}, {6, 6, 1}, {9, 2, 2}}, "3a0.0.13,2.0.36,3.0.1": {{6, 1, 6}, {9, 2, 2}}, "3a0.0.13,2.0.36,3.2.1": {{1, 6, 6}, {2, 2, 9}}, "3a0.0.13,2.0.36,4.0.2,3.2.0": {{2, 9, 2}, {9, 2, 2}},
		"2a3.0.0,3.1.0,4.0.2": {{2, 2}, {3, 3}, {5, 5}, {7, 7}, {11, 11}}, "2a5.0.1,5.1.1,6.0.8": {{4, 4}, {8, 8}, {12, 12}}, "2a6.9.9,3.0.1": {{5, 4}, {6, 3}, {7, 2}, {8, 1}, {10, 8}, {11, 7}, {12, 6}}, "2a6.9.9,1.1.6": {{3, 6}, {12, 6}}, fullPuzzle: {{11, 1, 1}},
		// Nothing fits these.
		"2a0.0.9,0.0.10": {}, "2a0.0.0": {}, "2a0.0.1": {}, "2a0.0.25": {}, "3a0.0.37": {}, "2a2.0.0": {}, "2a2.0.13": {}, "3a2.0.1727": {}, "2a1.0.0": {}, "2a1.1.13": {}, "2a1.0.5,1.0.6": {}, "2a4.0.3": {}, "3a4.0.4": {}, "2a3.0.1,3.1.1": {}, "3a3.0.1,3.1.1,3.2.1": {}, "2a3.0.1,3.0.0": {}, "2a5.0.1,5.0.0": {}, "2a3.0.0,5.0.1,5.1.0": {}, "2a0.0.2000": {},
	} {
		p := puzzleOf(text)
		rows, ok := impl.Solutions(p)
		wantRows(t, "Solutions "+text, rows, ok, want...)
		n, ok := impl.CountSolutions(p)
		wantInt(t, "CountSolutions "+text, n, ok, len(want))
		is, ok := impl.IsSolved(p)
		wantBool(t, "IsSolved "+text, is, ok, len(want) == 1)
		list, ok := impl.FirstSolution(p)
		if len(want) == 0 {
			wantNone(t, "FirstSolution "+text, list, ok)
			continue
		}
		wantInts(t, "FirstSolution "+text, list, ok, want[0]...)
	}
}

func TestPuzzlesWithAllHiddenAges(t *testing.T) {
	for text, count := range map[string]int{"2a": 144, "3a": 1728} {
		p := puzzleOf(text)
		rows, ok := impl.Solutions(p)
		wantRows(t, "Solutions "+text, rows, ok, allHidden(p.People)...)
		n, ok := impl.CountSolutions(p)
		wantInt(t, "CountSolutions "+text, n, ok, count)
		list, ok := impl.FirstSolution(p)
		wantInts(t, "FirstSolution "+text, list, ok, manyAges(p.People, 1)...)
		list, ok = impl.SureAges(p)
		wantInts(t, "SureAges "+text, list, ok, manyAges(p.People, -1)...)
		is, ok := impl.IsSolved(p)
		wantBool(t, "IsSolved "+text, is, ok, false)
		list, ok = impl.NeedlessClues(p)
		wantInts(t, "NeedlessClues "+text, list, ok)
		list, ok = impl.LeftByClues(p)
		wantInts(t, "LeftByClues "+text, list, ok, count)
		n, ok = impl.BestClue(p)
		wantNoInt(t, "BestClue "+text, n, ok)
		harder, ok := impl.HarderPuzzle(p)
		wantNoPuzzle(t, "HarderPuzzle "+text, harder, ok)
		harder, ok = impl.DropClue(p, 0)
		wantNoPuzzle(t, "DropClue "+text, harder, ok)
		harder, ok = impl.AddClue(p, clue(4, 0, 1))
		wantPuzzle(t, "AddClue "+text, harder, ok, puzzleOf(text+"4.0.1"))
		told, ok := impl.PuzzleText(p)
		wantText(t, "PuzzleText "+text, told, ok, text)
	}
}

func TestSureAgesEdges(t *testing.T) {
	for text, want := range map[string][]int{
		"2a0.0.2": {1, 1}, "3a0.0.36": {12, 12, 12}, "2a1.0.5": {5, -1}, "2a1.1.12": {-1, 12}, "3a1.2.1": {-1, -1, 1}, "3a1.0.5,1.2.7": {5, -1, 7}, "2a0.0.9,2.0.20": {-1, -1}, "3a2.0.11,1.0.11": {11, 1, 1}, "3a0.0.13,2.0.36,4.0.2,3.2.0": {-1, -1, 2}, "3a0.0.13,2.0.36,1.0.6": {6, -1, -1}, "2a0.0.3": {-1, -1}, "2a3.0.0,3.1.0": {-1, -1}, "2a6.9.9,1.1.6": {-1, 6}, fullPuzzle: {11, 1, 1},
	} {
		list, ok := impl.SureAges(puzzleOf(text))
		wantInts(t, "SureAges "+text, list, ok, want...)
	}
	for _, text := range []string{"2a0.0.9,0.0.10", "2a0.0.0", "3a2.0.1727", "2a1.0.5,1.0.6", "3a3.0.1,3.1.1,3.2.1"} {
		list, ok := impl.SureAges(puzzleOf(text))
		wantNone(t, "SureAges "+text, list, ok)
	}
}

func TestNeedlessCluesEdges(t *testing.T) {
	for text, want := range map[string][]int{
		// None is needless.
		examplePuzzle: {}, "2a6.3.9,1.0.5": {}, "2a0.0.9": {}, "2a0.0.9,0.0.10": {}, "2a1.0.5,1.1.7": {}, "3a1.0.12,1.1.12,1.2.12": {}, "3a1.0.5,3.0.1": {},
		// All are, but only each one alone.
		"2a0.0.9,0.0.9": {0, 1}, "2a1.0.5,0.0.12,1.1.7": {0, 1, 2}, fullPuzzle: {0, 1, 2, 3, 4, 5}, "2a3.1.0,3.1.0,3.1.0,3.1.0,3.1.0,3.1.0": {0, 1, 2, 3, 4, 5}, "3a0.0.36,2.0.1728": {0, 1}, "2a0.0.9,0.0.10,0.0.11": {0, 1, 2},
		// Some are.
		"2a0.0.2,4.0.0": {1}, "2a4.0.0,0.0.2": {0}, "2a0.0.9,4.0.1,0.0.9": {0, 2}, "3a0.0.36,1.0.12": {1}, "2a1.0.0,4.0.1": {1}, "2a1.0.12,1.1.1,5.0.1,3.0.1,4.0.0,6.0.2": {2, 3, 4}, "2a1.0.12,3.1.0": {1}, "3a0.0.4,6.0.2,6.0.4,4.0.1": {1, 2, 3},
	} {
		list, ok := impl.NeedlessClues(puzzleOf(text))
		wantInts(t, "NeedlessClues "+text, list, ok, want...)
	}
}

func TestDropClueEdges(t *testing.T) {
	for _, c := range []struct {
		text string
		k    int
		want string
	}{
		{examplePuzzle, 0, "2a2.0.20,3.0.1"}, {examplePuzzle, 1, "2a0.0.9,3.0.1"}, {examplePuzzle, 2, "2a0.0.9,2.0.20"}, {"2a0.0.9", 0, "2a"}, {"3a1.2.12", 0, "3a"}, {"2a0.0.9,0.0.9", 0, "2a0.0.9"}, {"2a0.0.9,0.0.9", 1, "2a0.0.9"}, {fullPuzzle, 0, "3a1.0.11,0.0.13,4.0.1,5.0.1,3.0.1"}, {fullPuzzle, 3, "3a2.0.11,1.0.11,0.0.13,5.0.1,3.0.1"}, {fullPuzzle, 5, "3a2.0.11,1.0.11,0.0.13,4.0.1,5.0.1"}, {"2a0.0.9,0.0.10", 1, "2a0.0.9"},
	} {
		p, ok := impl.DropClue(puzzleOf(c.text), c.k)
		wantPuzzle(t, "DropClue "+c.text, p, ok, puzzleOf(c.want))
	}
	for _, text := range []string{"2a", "3a", "2a0.0.9", examplePuzzle, fullPuzzle} {
		p := puzzleOf(text)
		for _, k := range ages(math.MinInt, math.MinInt+1, -6, -2, -1, len(p.Clues), len(p.Clues)+1, mostClues, mostClues+1, math.MaxInt-1, math.MaxInt) {
			dropped, ok := impl.DropClue(p, k)
			wantNoPuzzle(t, "DropClue "+text, dropped, ok)
		}
	}
}

func TestAddClueEdges(t *testing.T) {
	for _, c := range []struct{ text, clue, want string }{
		{"2a", "0.0.9", "2a0.0.9"}, {"3a", "1.2.12", "3a1.2.12"}, {"2a0.0.9", "2.0.20", "2a0.0.9,2.0.20"}, {"2a0.0.9", "0.0.9", "2a0.0.9,0.0.9"}, {"2a0.0.9", "0.0.10", "2a0.0.9,0.0.10"}, {"2a0.0.9,2.0.20", "3.0.1", examplePuzzle}, {"3a2.0.11,1.0.11,0.0.13,4.0.1,5.0.1", "3.0.1", fullPuzzle}, {"2a1.0.0", "4.0.2000", "2a1.0.0,4.0.2000"},
	} {
		p, ok := impl.AddClue(puzzleOf(c.text), clueOf(c.clue))
		wantPuzzle(t, "AddClue "+c.text+" and "+c.clue, p, ok, puzzleOf(c.want))
	}
	// One by one up to MaxClues, and no further.
	p := puzzleOf("3a")
	for count := range mostClues {
		var ok bool
		p, ok = impl.AddClue(p, clue(6, count, 9-count))
		wantText(t, "the puzzle with a clue more", textOfPuzzle(p), ok, strings.Join([]string{"3a6.0.9", "6.1.8", "6.2.7", "6.3.6", "6.4.5", "6.5.4"}[:count+1], ","))
	}
	more, ok := impl.AddClue(p, clue(4, 0, 1))
	wantNoPuzzle(t, "AddClue beyond MaxClues", more, ok)
	more, ok = impl.AddClue(puzzleOf(fullPuzzle), clue(2, 0, 11))
	wantNoPuzzle(t, "AddClue of a clue that is there", more, ok)
	for people := 2; people <= 3; people++ {
		for _, bad := range badClues(people) {
			for _, p := range []impl.Puzzle{puzzle(people), puzzle(people, clue(0, 0, 9)), puzzle(people, manyClues(mostClues-1, clue(4, 0, 1))...), puzzle(people, manyClues(mostClues, clue(4, 0, 1))...)} {
				more, ok := impl.AddClue(p, bad)
				wantNoPuzzle(t, "AddClue of none", more, ok)
			}
		}
	}
	// A clue of three is none of two.
	for _, kind := range ages(1, 3, 5) {
		more, ok := impl.AddClue(puzzleOf("2a"), clue(kind, 2, 1))
		wantNoPuzzle(t, "AddClue of somebody who is not there", more, ok)
		more, ok = impl.AddClue(puzzleOf("3a"), clue(kind, 2, 1))
		wantPuzzle(t, "AddClue of the last one", more, ok, puzzle(3, clue(kind, 2, 1)))
	}
}

func TestLeftByCluesEdges(t *testing.T) {
	for text, want := range map[string][]int{
		examplePuzzle: {144, 8, 2, 1}, "2a3.0.1,2.0.20,0.0.9": {144, 66, 2, 1}, "2a6.3.9,1.0.5": {144, 17, 1}, "2a0.0.2": {144, 1}, "2a0.0.9,0.0.9": {144, 8, 8}, "2a0.0.9,0.0.10": {144, 8, 0}, "2a0.0.9,0.0.10,0.0.9": {144, 8, 0, 0}, "3a0.0.36,2.0.1728,1.0.12,1.1.12,1.2.12,6.0.9": {1728, 1, 1, 1, 1, 1, 1}, "3a0.0.13,2.0.36,3.0.1": {1728, 66, 6, 2}, "2a1.0.0": {144, 0}, "3a4.0.3": {1728, 125}, "3a4.0.0": {1728, 343}, "2a4.0.1": {144, 70}, "2a3.0.0": {144, 78}, "3a3.2.1": {1728, 792}, "2a5.1.1": {144, 35}, "3a5.0.1,5.1.1,5.2.1": {1728, 420, 74, 12}, "2a6.0.2": {144, 72}, "2a6.9.9": {144, 15}, "3a6.9.9": {1728, 190}, "3a3.0.1,3.1.1,3.2.1": {1728, 792, 220, 0}, "3a1.0.12,1.1.12,1.2.12": {1728, 144, 12, 1},
	} {
		list, ok := impl.LeftByClues(puzzleOf(text))
		wantInts(t, "LeftByClues "+text, list, ok, want...)
	}
}

func TestBestClueEdges(t *testing.T) {
	for text, want := range map[string]int{
		examplePuzzle: 1, "2a6.3.9,1.0.5": 1, "2a1.0.5,6.3.9": 0, "2a0.0.9": 0, "3a4.0.0": 0, "2a3.0.1,0.0.9,2.0.20": 2, "2a0.0.9,2.0.20,1.0.0": 2,
		// The first one of several.
		"2a0.0.9,0.0.9": 0, "2a1.0.5,1.1.7": 0, "2a3.0.1,1.0.5,1.1.7": 1, "2a3.0.1,3.0.1,1.1.7,1.0.5": 2, "3a0.0.36,2.0.1728,1.0.12,1.1.12,1.2.12,6.0.9": 0, "3a1.0.12,1.1.12,2.0.1728,0.0.36": 2, "2a0.0.9,0.0.0,2.0.13": 1, "3a5.0.1,5.1.1,5.2.1": 0, "2a3.1.0,3.1.0,3.1.0,3.1.0,3.1.0,3.1.0": 0, fullPuzzle: 0, "2a0.0.11,0.0.10,0.0.9,0.0.9,0.0.10,0.0.11": 2, "2a6.0.2,6.0.3,6.0.4,6.0.5,6.0.9,6.0.9": 4,
	} {
		n, ok := impl.BestClue(puzzleOf(text))
		wantInt(t, "BestClue "+text, n, ok, want)
	}
}

func TestHarderPuzzleEdges(t *testing.T) {
	for text, want := range map[string]string{
		// All clues stay.
		examplePuzzle: examplePuzzle, "2a6.3.9,1.0.5": "2a6.3.9,1.0.5", "2a0.0.2": "2a0.0.2", "2a1.0.5,1.1.7": "2a1.0.5,1.1.7", "3a1.0.12,1.1.12,1.2.12": "3a1.0.12,1.1.12,1.2.12",
		// Some go, and of those that are needless the later ones stay.
		"2a1.0.5,0.0.12,1.1.7": "2a0.0.12,1.1.7", "2a1.1.7,0.0.12,1.0.5": "2a0.0.12,1.0.5", "2a1.0.5,1.1.7,0.0.12": "2a1.1.7,0.0.12", "2a4.0.1,0.0.9,2.0.20,3.0.1": examplePuzzle, "2a0.0.9,4.0.1,2.0.20,5.0.0,3.0.1": "2a2.0.20,5.0.0,3.0.1", "2a0.0.9,2.0.20,3.0.1,4.0.1": "2a0.0.9,2.0.20,3.0.1", "2a0.0.9,2.0.20,3.0.1,3.0.1": examplePuzzle, "2a0.0.9,0.0.9,2.0.20,2.0.20,3.0.1,3.0.1": examplePuzzle, fullPuzzle: "3a1.0.11,0.0.13", "3a0.0.36,2.0.1728,1.0.12,1.1.12,1.2.12,6.0.9": "3a1.0.12,1.1.12,1.2.12",
		// All go that can.
		"2a0.0.2,0.0.2,0.0.2,0.0.2,0.0.2,0.0.2": "2a0.0.2", "2a0.0.2,2.0.1": "2a2.0.1", "2a2.0.1,0.0.2": "2a0.0.2", "3a0.0.36,4.0.0": "3a0.0.36", "3a4.0.0,0.0.36": "3a0.0.36", "3a6.0.9,6.0.2,0.0.36,2.0.1728,4.0.0,5.2.1": "3a2.0.1728",
	} {
		p, ok := impl.HarderPuzzle(puzzleOf(text))
		wantPuzzle(t, "HarderPuzzle "+text, p, ok, puzzleOf(want))
	}
	for _, text := range []string{"2a", "3a", "2a0.0.9", "2a0.0.9,2.0.20", "2a0.0.9,0.0.9", "2a0.0.9,0.0.10", "3a0.0.13,2.0.36,3.0.1", "2a1.0.0", "3a4.0.4", "3a5.0.1,5.1.1,5.2.1", "2a3.1.0,3.1.0,3.1.0,3.1.0,3.1.0,3.1.0"} {
		p, ok := impl.HarderPuzzle(puzzleOf(text))
		wantNoPuzzle(t, "HarderPuzzle "+text, p, ok)
	}
}

func TestMakePuzzleEdges(t *testing.T) {
	for _, c := range []struct {
		ages []int
		seed int
		want string
	}{
		// The numbers from 0 on are 811 and 3132, 6628 and 1197, 8469 and 1271, 574 and 2318, 3410 and 9694, 7294 and 191.
		{ages(5, 4), 0, "2a1.0.5,4.0.1,3.1.0,4.0.1,2.0.20,4.0.1"}, {ages(12, 1, 7), 0, "3a1.0.12,4.0.1,3.2.0,4.0.1,2.0.84,4.0.1"},
		{ages(5, 4), greatestSeed, "2a2.0.20,2.0.20,5.0.0,1.0.5,2.0.20,3.0.1"}, {ages(12, 1, 7), greatestSeed, "3a2.0.84,2.0.84,5.1.0,1.1.1,2.0.84,3.0.1"},
		{ages(1, 1), 1, "2a0.0.2,4.0.0,2.0.1,5.1.1,0.0.2,5.0.1"}, {ages(12, 12, 12), 17, "3a2.0.1728,2.0.1728,5.1.1,5.0.1,0.0.36,2.0.1728"},
	} {
		want := puzzleOf(c.want)
		for count := range mostClues + 1 {
			p, ok := impl.MakePuzzle(c.ages, count, c.seed)
			wantPuzzle(t, "MakePuzzle", p, ok, puzzle(want.People, want.Clues[:count]...))
		}
	}
	for _, hidden := range goodHidden() {
		p, ok := impl.MakePuzzle(hidden, 0, 5000)
		wantPuzzle(t, "MakePuzzle without clues", p, ok, puzzle(len(hidden)))
	}
	for _, hidden := range append(goodHidden(), badHiddenLists()...) {
		for _, count := range ages(math.MinInt, math.MinInt+1, -6, -2, -1, mostClues+1, mostClues+2, 1000000, math.MaxInt-1, math.MaxInt) {
			p, ok := impl.MakePuzzle(hidden, count, 0)
			wantNoPuzzle(t, "MakePuzzle of too few or too many clues", p, ok)
		}
		for _, seed := range badSeeds() {
			p, ok := impl.MakePuzzle(hidden, 3, seed)
			wantNoPuzzle(t, "MakePuzzle of no seed", p, ok)
			p, ok = impl.MakePuzzle(hidden, 0, seed)
			wantNoPuzzle(t, "MakePuzzle without clues, of no seed", p, ok)
		}
	}
	for _, hidden := range badHiddenLists() {
		for count := range mostClues + 1 {
			p, ok := impl.MakePuzzle(hidden, count, 0)
			wantNoPuzzle(t, "MakePuzzle of no hidden ages", p, ok)
		}
	}
}

func badSeeds() []int {
	return ages(math.MinInt, math.MinInt+1, -10007, -1000000, -2, -1, greatestSeed+1, greatestSeed+2, 10006, 10007, 1000000, math.MaxInt-1, math.MaxInt)
}

// The first seeds of each kind and each one, with the clue that they make.
func TestMakePuzzleOfEachKind(t *testing.T) {
	for _, c := range []struct {
		ages []int
		want map[int]string
	}{
		{ages(2, 2), map[int]string{0: "2a1.0.2", 1: "2a0.0.4", 2: "2a5.0.1", 3: "2a4.0.2", 4: "2a3.0.0", 5: "2a2.0.4", 6: "2a1.1.2", 8: "2a5.1.1", 10: "2a3.1.0"}},
		{ages(10, 8, 2), map[int]string{0: "3a1.0.10", 1: "3a0.0.20", 2: "3a5.2.0", 3: "3a4.0.1", 4: "3a3.1.1", 5: "3a2.0.160", 6: "3a1.2.2", 8: "3a5.1.1", 10: "3a3.0.1", 20: "3a5.0.0", 22: "3a3.2.0", 24: "3a1.1.8"}},
		{ages(7, 5, 12), map[int]string{0: "3a1.0.7", 1: "3a0.0.24", 2: "3a5.2.0", 3: "3a4.0.2", 4: "3a3.1.0", 5: "3a2.0.420", 6: "3a1.2.12", 8: "3a5.1.0", 10: "3a3.0.1", 20: "3a5.0.0", 22: "3a3.2.1", 24: "3a1.1.5"}},
	} {
		for seed, want := range c.want {
			p, ok := impl.MakePuzzle(c.ages, 1, seed)
			wantPuzzle(t, "MakePuzzle "+want, p, ok, puzzleOf(want))
		}
	}
}

func TestPuzzleTexts(t *testing.T) {
	for _, text := range goodTextsOfPuzzles() {
		p, ok := impl.ParsePuzzle(text)
		wantPuzzle(t, "ParsePuzzle "+text, p, ok, puzzleOf(text))
		told, ok := impl.PuzzleText(puzzleOf(text))
		wantText(t, "PuzzleText", told, ok, text)
	}
	for _, text := range badTextsOfPuzzles() {
		p, ok := impl.ParsePuzzle(text)
		wantNoPuzzle(t, "ParsePuzzle "+text, p, ok)
	}
	for _, p := range badPuzzles() {
		text, ok := impl.PuzzleText(p)
		wantNoText(t, "PuzzleText of none", text, ok)
		// Nor is there a puzzle with the text that it would have.
		if len(p.Clues) <= mostClues+2 {
			parsed, ok := impl.ParsePuzzle(textOfPuzzle(p))
			wantNoPuzzle(t, "ParsePuzzle "+textOfPuzzle(p), parsed, ok)
		}
	}
}

// One sign more, less or another one makes another puzzle of a text, or none.
func TestPuzzleTextsWithAChangedSign(t *testing.T) {
	signs := []string{"", "0", "1", "2", "3", "9", "a", ".", ",", "-", "+", " "}
	for _, text := range []string{"2a", "3a", "2a0.0.9", examplePuzzle, "3a1.2.12,6.9.9", fullPuzzle} {
		for place := range len(text) + 1 {
			for _, sign := range signs {
				for _, rest := range []string{text[place:], text[min(place+1, len(text)):]} {
					changed := text[:place] + sign + rest
					p, ok := impl.ParsePuzzle(changed)
					if ok && (!impl.IsPuzzle(p) || textOfPuzzle(p) != changed) {
						t.Errorf("ParsePuzzle %q is %v", changed, p)
					}
					if !ok && slices.Contains(goodTextsOfPuzzles(), changed) {
						t.Errorf("ParsePuzzle %q fails", changed)
					}
				}
			}
		}
	}
}
