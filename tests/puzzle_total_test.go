package tests

import (
	"math"
	"reflect"
	"slices"
	"strings"
	"testing"

	"loop.example/g01369/impl"
)

// A puzzleCall is one function of chapter 9 that takes a puzzle. Told has a letter for each number behind it: k for the index of a clue, c, a and b for the kind, A and B of a clue.
type puzzleCall struct {
	name string
	told string
	run  func(p impl.Puzzle, n []int) (bool, []any)
}

func puzzleCalls() []puzzleCall {
	return []puzzleCall{
		{"IsPuzzle", "", func(p impl.Puzzle, n []int) (bool, []any) { return results(impl.IsPuzzle(p)) }},
		{"Solutions", "", func(p impl.Puzzle, n []int) (bool, []any) { r, ok := impl.Solutions(p); return results(ok, r) }},
		{"CountSolutions", "", func(p impl.Puzzle, n []int) (bool, []any) { r, ok := impl.CountSolutions(p); return results(ok, r) }},
		{"FirstSolution", "", func(p impl.Puzzle, n []int) (bool, []any) { r, ok := impl.FirstSolution(p); return results(ok, r) }},
		{"SureAges", "", func(p impl.Puzzle, n []int) (bool, []any) { r, ok := impl.SureAges(p); return results(ok, r) }},
		{"IsSolved", "", func(p impl.Puzzle, n []int) (bool, []any) { r, ok := impl.IsSolved(p); return results(ok, r) }},
		{"NeedlessClues", "", func(p impl.Puzzle, n []int) (bool, []any) { r, ok := impl.NeedlessClues(p); return results(ok, r) }},
		{"DropClue", "k", func(p impl.Puzzle, n []int) (bool, []any) { r, ok := impl.DropClue(p, n[0]); return results(ok, r) }},
		{"AddClue", "cab", func(p impl.Puzzle, n []int) (bool, []any) {
			r, ok := impl.AddClue(p, clue(n[0], n[1], n[2]))
			return results(ok, r)
		}},
		{"LeftByClues", "", func(p impl.Puzzle, n []int) (bool, []any) { r, ok := impl.LeftByClues(p); return results(ok, r) }},
		{"BestClue", "", func(p impl.Puzzle, n []int) (bool, []any) { r, ok := impl.BestClue(p); return results(ok, r) }},
		{"HarderPuzzle", "", func(p impl.Puzzle, n []int) (bool, []any) { r, ok := impl.HarderPuzzle(p); return results(ok, r) }},
		{"PuzzleText", "", func(p impl.Puzzle, n []int) (bool, []any) { r, ok := impl.PuzzleText(p); return results(ok, r) }},
	}
}

// A hiddenCall is one function of chapter 9 that takes hidden ages. Told has a letter for each number behind it: c, a and b for the kind, A and B of a clue, n for a number of clues, s for a seed.
type hiddenCall struct {
	name string
	told string
	run  func(hidden []int, n []int) (bool, []any)
}

func hiddenCalls() []hiddenCall {
	return []hiddenCall{
		{"DoesFit", "cab", func(h []int, n []int) (bool, []any) {
			r, ok := impl.DoesFit(clue(n[0], n[1], n[2]), h)
			return results(ok, r)
		}},
		{"MakePuzzle", "ns", func(h []int, n []int) (bool, []any) {
			r, ok := impl.MakePuzzle(h, n[0], n[1])
			return results(ok, r)
		}},
	}
}

func spareClue() impl.Clue { return clue(spareMark, spareMark, spareMark) }

// oddClueNumbers are those at the limits, beside them, and at the ends of an int.
func oddClueNumbers(byte) []int {
	return ages(math.MinInt, math.MinInt+1, -1, 0, 1, 2, 3, 4, 5, 6, 7, 9, 10, greatestTold, greatestTold+1, greatestSeed, greatestSeed+1, math.MaxInt-1, math.MaxInt)
}

// fewOddClueNumbers are some of them, as each of three numbers may be any.
func fewOddClueNumbers(byte) []int { return ages(math.MinInt, -1, 0, 1, 2, 6, 7, math.MaxInt) }

// goodPuzzleNumbers fit together in any way: each clue of these numbers is one of two people.
func goodPuzzleNumbers(letter byte) []int {
	switch letter {
	case 'c':
		return ages(0, 1, 2, 4)
	case 'a':
		return ages(0)
	case 'b':
		return ages(0, 1, 9, 20, greatestTold-1, greatestTold)
	case 'n':
		return ages(0, 1, 3, mostClues-1, mostClues)
	case 's':
		return ages(0, 1, 5000, greatestSeed-1, greatestSeed)
	}
	return ages(0)
}

// badPuzzleNumbers are wrong with each of the good ones.
func badPuzzleNumbers(letter byte) []int {
	ends := ages(math.MinInt, math.MinInt+1, -1000000, -2, -1, 1000000, math.MaxInt-1, math.MaxInt)
	switch letter {
	case 'c':
		return append(ends, 7, 8)
	case 'a':
		return append(ends, 3, 4)
	case 'b':
		return append(ends, greatestTold+1, greatestTold+2)
	case 'n':
		return append(ends, mostClues+1, mostClues+2)
	case 's':
		return badSeeds()
	}
	return append(ends, mostClues, mostClues+1)
}

func TestPromise11PuzzlesAreTotal(t *testing.T) {
	for _, call := range puzzleCalls() {
		numbers := oddClueNumbers
		if len(call.told) == 3 {
			numbers = fewOddClueNumbers
		}
		for _, p := range append(goodPuzzles(), badPuzzles()...) {
			for _, row := range toldRows(call.told, numbers) {
				holdTotalRun(t, call.name, row, p.Clues, spareClue(), func(given []impl.Clue) (bool, []any) { return call.run(puzzle(p.People, given...), row) })
			}
		}
	}
	for _, call := range hiddenCalls() {
		for _, hidden := range append(goodHidden(), badHiddenLists()...) {
			for _, row := range toldRows(call.told, oddClueNumbers) {
				holdTotalRun(t, call.name, row, hidden, spareMark, func(given []int) (bool, []any) { return call.run(given, row) })
			}
		}
	}
}

func TestPromise11IsClueTakesAnyNumbers(t *testing.T) {
	for _, row := range toldRows("pcab", oddClueNumbers) {
		want := 0 <= row[1] && row[1] <= 6 && 0 <= row[2] && row[2] <= greatestA(row[1], max(row[0], 0)) && leastB(row[1]) <= row[3] && row[3] <= greatestB(row[1])
		if impl.IsClue(row[0], clue(row[1], row[2], row[3])) != want {
			t.Fatalf("IsClue of %v is %v", row, !want)
		}
	}
}

func TestPromise11InvalidPuzzlesFail(t *testing.T) {
	for _, call := range puzzleCalls() {
		for _, p := range badPuzzles() {
			for _, row := range toldRows(call.told, goodPuzzleNumbers) {
				if ok, got := call.run(p, row); ok || !areZero(got) {
					t.Fatalf("%s of %v and %v is %v, %v", call.name, p, row, got, ok)
				}
			}
		}
	}
	for _, call := range hiddenCalls() {
		for _, hidden := range badHiddenLists() {
			for _, row := range toldRows(call.told, goodPuzzleNumbers) {
				if ok, got := call.run(hidden, row); ok || !areZero(got) {
					t.Fatalf("%s of %v and %v is %v, %v", call.name, hidden, row, got, ok)
				}
			}
		}
	}
}

func TestPromise11InvalidPuzzleNumbersFail(t *testing.T) {
	for _, call := range puzzleCalls() {
		for place := range len(call.told) {
			for _, p := range goodPuzzles() {
				for _, row := range toldRows(call.told, goodPuzzleNumbers) {
					for _, row[place] = range badPuzzleNumbers(call.told[place]) {
						if ok, got := call.run(p, row); ok || !areZero(got) {
							t.Fatalf("%s of %v and %v is %v, %v", call.name, p, row, got, ok)
						}
					}
				}
			}
		}
	}
	for _, call := range hiddenCalls() {
		for place := range len(call.told) {
			for _, hidden := range goodHidden() {
				for _, row := range toldRows(call.told, goodPuzzleNumbers) {
					for _, row[place] = range badPuzzleNumbers(call.told[place]) {
						if ok, got := call.run(hidden, row); ok || !areZero(got) {
							t.Fatalf("%s of %v and %v is %v, %v", call.name, hidden, row, got, ok)
						}
					}
				}
			}
		}
	}
}

func TestPromise11ValidPuzzlesSucceed(t *testing.T) {
	for _, call := range puzzleCalls() {
		// These fail as well where there is no solution, no clue, or more than one solution.
		if slices.Contains([]string{"FirstSolution", "SureAges", "DropClue", "BestClue", "HarderPuzzle"}, call.name) {
			continue
		}
		for _, p := range goodPuzzles() {
			if call.name == "AddClue" && len(p.Clues) == mostClues {
				continue
			}
			for _, row := range toldRows(call.told, goodPuzzleNumbers) {
				if ok, _ := call.run(p, row); !ok {
					t.Fatalf("%s of %v and %v fails", call.name, p, row)
				}
			}
		}
	}
	for _, call := range hiddenCalls() {
		for _, hidden := range goodHidden() {
			for _, row := range toldRows(call.told, goodPuzzleNumbers) {
				if ok, _ := call.run(hidden, row); !ok {
					t.Fatalf("%s of %v and %v fails", call.name, hidden, row)
				}
			}
		}
	}
}

func TestPromise11PuzzlesShareNoMemory(t *testing.T) {
	for _, call := range puzzleCalls() {
		for _, p := range goodPuzzles() {
			for _, row := range toldRows(call.told, goodPuzzleNumbers) {
				holdOwnMemoryRun(t, call.name, row, p.Clues, spareClue(), func(given []impl.Clue) (bool, []any) { return call.run(puzzle(p.People, given...), row) })
			}
		}
	}
	for _, call := range hiddenCalls() {
		for _, hidden := range goodHidden() {
			for _, row := range toldRows(call.told, goodPuzzleNumbers) {
				holdOwnMemoryRun(t, call.name, row, hidden, spareMark, func(given []int) (bool, []any) { return call.run(given, row) })
			}
		}
	}
}

// The clues of a puzzle that comes out are written over, with the room behind them: those that went in stay, and those that come out again are as they were.
func TestPromise11PuzzlesKeepTheirClues(t *testing.T) {
	for _, p := range append(goodPuzzles(), mixedPuzzles(100)...) {
		given := puzzle(p.People, withSpare(p.Clues, spareClue())...)
		before := slices.Clone(whole(given.Clues))
		changes := []func() (impl.Puzzle, bool){
			func() (impl.Puzzle, bool) { return impl.AddClue(given, clue(4, 0, 1)) },
			func() (impl.Puzzle, bool) { return impl.HarderPuzzle(given) },
			func() (impl.Puzzle, bool) { return impl.ParsePuzzle(textOfPuzzle(given)) },
			func() (impl.Puzzle, bool) { return impl.MakePuzzle(ages(5, 4), len(given.Clues), 0) },
		}
		for k := range p.Clues {
			changes = append(changes, func() (impl.Puzzle, bool) { return impl.DropClue(given, k) })
		}
		for i, change := range changes {
			first, ok := change()
			want := slices.Clone(first.Clues)
			for k := range whole(first.Clues) {
				whole(first.Clues)[k] = clue(-1, -1, -1)
			}
			if !slices.Equal(before, whole(given.Clues)) {
				t.Fatalf("the puzzle %s is changed by call %d, or shares memory with its result", textOfPuzzle(p), i)
			}
			second, again := change()
			if ok != again || !slices.Equal(second.Clues, want) {
				t.Fatalf("of %s call %d is %v once more, not %v", textOfPuzzle(p), i, second, want)
			}
		}
	}
}

// Two puzzles that come from one, by a clue more each, do not meet in the room behind its clues.
func TestPromise11PuzzlesFromOnePuzzle(t *testing.T) {
	p := puzzle(2, withSpare(puzzleOf(examplePuzzle).Clues, spareClue())...)
	first, ok := impl.AddClue(p, clue(4, 0, 1))
	second, also := impl.AddClue(p, clue(6, 3, 9))
	wantPuzzle(t, "AddClue", first, ok, puzzleOf(examplePuzzle+",4.0.1"))
	wantPuzzle(t, "AddClue", second, also, puzzleOf(examplePuzzle+",6.3.9"))
	dropped, ok := impl.DropClue(first, 3)
	third, also := impl.AddClue(dropped, clue(2, 0, 20))
	wantPuzzle(t, "AddClue behind DropClue", third, ok && also, puzzleOf(examplePuzzle+",2.0.20"))
	wantPuzzle(t, "AddClue", first, true, puzzleOf(examplePuzzle+",4.0.1"))
}

func TestPromise11PuzzlesAreTheSameOnEveryRun(t *testing.T) {
	for _, text := range []string{examplePuzzle, fullPuzzle, "2a0.0.9,0.0.10", "3a6.9.9"} {
		for _, call := range puzzleCalls() {
			row := toldRows(call.told, goodPuzzleNumbers)[0]
			ok, want := call.run(puzzleOf(text), row)
			for range 50 {
				again, got := call.run(puzzleOf(text), row)
				if again != ok || !reflect.DeepEqual(got, want) {
					t.Fatalf("%s of %s is %v, and then %v", call.name, text, want, got)
				}
			}
		}
	}
}

func TestPromise11ParsePuzzle(t *testing.T) {
	for _, text := range []string{strings.Repeat(",", 100000), strings.Repeat("a", 100000), strings.Repeat(".", 100000), strings.Repeat("2", 100000), "2a" + strings.Repeat(",", 100000), "2a" + strings.Repeat(".", 100000), "2a" + strings.Repeat("0.0.9,", 100000), "2a0.0." + strings.Repeat("9", 100000), "2a0.0." + strings.Repeat("0", 100000) + "9", strings.Repeat("0", 100000) + "2a", strings.Repeat("2a", 100000), "2a" + strings.Repeat(" ", 100000), "2a0.0.9" + strings.Repeat("\xff", 100000), "\x00\xffa\xfe.\xfd,\xfc"} {
		p, ok := impl.ParsePuzzle(text)
		wantNoPuzzle(t, "ParsePuzzle of a long or broken text", p, ok)
	}
}
