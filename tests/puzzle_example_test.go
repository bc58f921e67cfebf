package tests

import (
	"testing"

	"loop.example/g01369/impl"
)

func TestPuzzleExample(t *testing.T) {
	p, ok := impl.ParsePuzzle(examplePuzzle)
	wantPuzzle(t, "ParsePuzzle", p, ok, puzzle(2, clue(0, 0, 9), clue(2, 0, 20), clue(3, 0, 1)))
	rows, ok := impl.Solutions(p)
	wantRows(t, "Solutions", rows, ok, ages(5, 4))
	n, ok := impl.CountSolutions(p)
	wantInt(t, "CountSolutions", n, ok, 1)
	list, ok := impl.FirstSolution(p)
	wantInts(t, "FirstSolution", list, ok, 5, 4)
	is, ok := impl.IsSolved(p)
	wantBool(t, "IsSolved", is, ok, true)
	list, ok = impl.LeftByClues(p)
	wantInts(t, "LeftByClues", list, ok, 144, 8, 2, 1)
	text, ok := impl.PuzzleText(p)
	wantText(t, "PuzzleText", text, ok, examplePuzzle)
}

func TestPuzzleExampleOfYears(t *testing.T) {
	p, ok := impl.ParsePuzzle("2a6.3.9,1.0.5")
	list, sure := impl.SureAges(p)
	wantInts(t, "SureAges", list, ok && sure, 5, 7)
	is, ok := impl.DoesFit(clue(6, 3, 9), ages(5, 7))
	wantBool(t, "DoesFit", is, ok, true)
}

func TestPuzzleConstants(t *testing.T) {
	if impl.MaxHidden != greatestHidden || impl.MaxClues != mostClues {
		t.Error("a limit of chapter 9 has changed")
	}
}
