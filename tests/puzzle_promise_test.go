package tests

import (
	"slices"
	"testing"

	"loop.example/g01369/impl"
)

// The tests of this file hold each function against the document's definitions, by trying all hidden ages.

func TestPromise9IsClue(t *testing.T) {
	for people := -2; people <= 15; people++ {
		for kind := -2; kind <= 9; kind++ {
			for a := -2; a <= 15; a++ {
				for _, b := range ages(-2, -1, 0, 1, 2, 3, 5, 8, 9, 10, 11, 12, 13, 1728, 1999, 2000, 2001, 2002) {
					want := 0 <= kind && kind <= 6 && 0 <= a && a <= greatestA(kind, people) && leastB(kind) <= b && b <= greatestB(kind)
					if impl.IsClue(people, clue(kind, a, b)) != want {
						t.Errorf("IsClue of %d, %d, %d and %d is %v", people, kind, a, b, !want)
					}
				}
			}
		}
	}
}

func TestPromise9IsPuzzle(t *testing.T) {
	for people := -2; people <= 7; people++ {
		for count := range 10 {
			want := 2 <= people && people <= 3 && count <= 6
			if impl.IsPuzzle(puzzle(people, manyClues(count, clue(6, 3, 9))...)) != want {
				t.Errorf("IsPuzzle of %d people and %d clues is %v", people, count, !want)
			}
			// The same with one that is no clue, in each place.
			for place := range count {
				clues := manyClues(count, clue(6, 3, 9))
				clues[place] = clue(6, 3, 10)
				if impl.IsPuzzle(puzzle(people, clues...)) {
					t.Errorf("IsPuzzle of %d people and %v is true", people, clues)
				}
			}
		}
	}
}

// triedClues are all clues of so many people, but for those whose B no hidden ages have; of these there are a few.
func triedClues(people int) []impl.Clue {
	var list []impl.Clue
	for kind := range 7 {
		for a := range greatestA(kind, people) + 1 {
			for b := leastB(kind); b <= greatestB(kind); b++ {
				if b <= 40 || slices.Contains(ages(48, 60, 72, 99, 110, 120, 121, 131, 132, 143, 144, 145, 150, 720, 1331, 1452, 1584, 1727, 1728, 1729, 1999, 2000), b) {
					list = append(list, clue(kind, a, b))
				}
			}
		}
	}
	return list
}

func TestPromise9FitsAreThoseOfTheClues(t *testing.T) {
	for people := 2; people <= 3; people++ {
		for _, c := range triedClues(people) {
			for _, hidden := range allHidden(people) {
				want := isFitting(c, hidden)
				if is, ok := impl.DoesFit(c, hidden); !ok || is != want {
					t.Fatalf("DoesFit %v and %v is %v, %v, not %v", c, hidden, is, ok, want)
				}
			}
		}
	}
}

// Of each number of people all puzzles of one clue.
func TestPromise9PuzzlesOfOneClue(t *testing.T) {
	for people := 2; people <= 3; people++ {
		for _, c := range triedClues(people) {
			p := puzzle(people, c)
			rows, ok := impl.Solutions(p)
			wantRows(t, "Solutions of "+textOfClue(c), rows, ok, solutionsIn(p)...)
			n, ok := impl.BestClue(p)
			wantInt(t, "BestClue of "+textOfClue(c), n, ok, 0)
		}
	}
}

// All puzzles of two people and two clues, out of some.
func TestPromise9PuzzlesOfTwoClues(t *testing.T) {
	clues := goodClues(2)
	for _, first := range clues {
		for _, second := range clues {
			holdPuzzle(t, puzzle(2, first, second))
		}
	}
}

func TestPromise9MixedPuzzles(t *testing.T) {
	solved, needless, harder := 0, 0, 0
	for _, p := range mixedPuzzles(600) {
		holdPuzzle(t, p)
		holdHarder(t, p)
		if t.Failed() {
			t.Fatalf("of %s", textOfPuzzle(p))
		}
		if is, _ := impl.IsSolved(p); is {
			solved++
		}
		if list, _ := impl.NeedlessClues(p); len(list) > 0 {
			needless++
		}
		if q, ok := impl.HarderPuzzle(p); ok && len(q.Clues) < len(p.Clues) {
			harder++
		}
	}
	if solved < 90 || needless < 90 || harder < 50 {
		t.Errorf("of the mixed puzzles only %d are solved, %d have needless clues, and %d are made harder", solved, needless, harder)
	}
}

func TestPromise9GoodPuzzles(t *testing.T) {
	for _, p := range goodPuzzles() {
		holdPuzzle(t, p)
		holdHarder(t, p)
		if t.Failed() {
			t.Fatalf("of %s", textOfPuzzle(p))
		}
	}
}

// holdPuzzle holds all answers about a puzzle against those of all hidden ages that fit all clues.
func holdPuzzle(t *testing.T, p impl.Puzzle) {
	t.Helper()
	want := solutionsIn(p)
	rows, ok := impl.Solutions(p)
	wantRows(t, "Solutions", rows, ok, want...)
	n, ok := impl.CountSolutions(p)
	wantInt(t, "CountSolutions", n, ok, len(want))
	is, ok := impl.IsSolved(p)
	wantBool(t, "IsSolved", is, ok, len(want) == 1)
	first, ok := impl.FirstSolution(p)
	sure, sureToo := impl.SureAges(p)
	if len(want) == 0 {
		wantNone(t, "FirstSolution", first, ok)
		wantNone(t, "SureAges", sure, sureToo)
	} else {
		wantInts(t, "FirstSolution", first, ok, want[0]...)
		wantInts(t, "SureAges", sure, sureToo, agesInAll(want)...)
	}
	text, ok := impl.PuzzleText(p)
	wantText(t, "PuzzleText", text, ok, textOfPuzzle(p))
	parsed, ok := impl.ParsePuzzle(textOfPuzzle(p))
	wantPuzzle(t, "ParsePuzzle", parsed, ok, p)
	holdClues(t, p, len(want))
}

// agesInAll has -1 for each one of whom two solutions tell different ages.
func agesInAll(solutions [][]int) []int {
	sure := slices.Clone(solutions[0])
	for who, age := range solutions[0] {
		for _, other := range solutions {
			if other[who] != age {
				sure[who] = -1
			}
		}
	}
	return sure
}

// holdClues takes each clue out of a puzzle with so many solutions, and each one alone.
func holdClues(t *testing.T, p impl.Puzzle, count int) {
	t.Helper()
	needless := ages()
	best, fewest := -1, 5000
	left := ages(len(allHidden(p.People)))
	for k, c := range p.Clues {
		without := withoutOne(p, k)
		if len(solutionsIn(without)) == count {
			needless = append(needless, k)
		}
		if n := len(solutionsIn(puzzle(p.People, c))); n < fewest {
			best, fewest = k, n
		}
		left = append(left, len(solutionsIn(puzzle(p.People, p.Clues[:k+1]...))))
		dropped, ok := impl.DropClue(p, k)
		wantPuzzle(t, "DropClue", dropped, ok, without)
		more, ok := impl.AddClue(without, c)
		wantPuzzle(t, "AddClue", more, ok, puzzle(p.People, append(slices.Clone(without.Clues), c)...))
	}
	list, ok := impl.NeedlessClues(p)
	wantInts(t, "NeedlessClues", list, ok, needless...)
	list, ok = impl.LeftByClues(p)
	wantInts(t, "LeftByClues", list, ok, left...)
	n, ok := impl.BestClue(p)
	if best < 0 {
		wantNoInt(t, "BestClue without clues", n, ok)
	} else {
		wantInt(t, "BestClue", n, ok, best)
	}
}

// holdHarder holds a harder puzzle against going through the clues: it has the same solution, and no clue that could go.
func holdHarder(t *testing.T, p impl.Puzzle) {
	t.Helper()
	harder, ok := impl.HarderPuzzle(p)
	solutions := solutionsIn(p)
	if len(solutions) != 1 {
		wantNoPuzzle(t, "HarderPuzzle", harder, ok)
		return
	}
	want, k := p, 0
	for k < len(want.Clues) {
		if fewer := withoutOne(want, k); len(solutionsIn(fewer)) == 1 {
			want = fewer
		} else {
			k++
		}
	}
	wantPuzzle(t, "HarderPuzzle", harder, ok, want)
	rows, ok := impl.Solutions(harder)
	wantRows(t, "Solutions of the harder puzzle", rows, ok, solutions...)
	list, ok := impl.NeedlessClues(harder)
	wantInts(t, "NeedlessClues of the harder puzzle", list, ok)
	again, ok := impl.HarderPuzzle(harder)
	wantPuzzle(t, "HarderPuzzle of the harder puzzle", again, ok, harder)
}

// madeBy goes through the numbers, and tries for each clue all B that it may have.
func madeBy(hidden []int, count int, seed int) impl.Puzzle {
	p := puzzle(len(hidden))
	numbers := ages(seed)
	for range 2 * count {
		numbers = append(numbers, (numbers[len(numbers)-1]*299+811)%10007)
	}
	for k := range count {
		kind, y := numbers[2*k+1]%6, numbers[2*k+2]
		a := 0
		if kind%2 == 1 {
			a = y % len(hidden)
		}
		for b := range greatestB(kind) + 1 {
			if isFitting(clue(kind, a, b), hidden) {
				p.Clues = append(p.Clues, clue(kind, a, b))
			}
		}
	}
	return p
}

func TestPromise9MadePuzzlesFit(t *testing.T) {
	for i, hidden := range goodHidden() {
		for seed := i % 7; seed <= greatestSeed; seed += 97 {
			holdMade(t, hidden, mostClues, seed)
		}
		for count := range mostClues + 1 {
			for _, seed := range ages(0, 1, 2, 3, 4, 5, 6, 4999, greatestSeed-1, greatestSeed) {
				holdMade(t, hidden, count, seed)
			}
		}
	}
}

// All seeds, of one clue.
func TestPromise9MadePuzzlesOfAllSeeds(t *testing.T) {
	hidden := ages(6, 3, 11)
	kinds := map[int]int{}
	for seed := range greatestSeed + 1 {
		p, ok := impl.MakePuzzle(hidden, 1, seed)
		z := (seed*299 + 811) % 10007
		if !ok || len(p.Clues) != 1 || p.People != 3 || p.Clues[0].Kind != z%6 || !isFitting(p.Clues[0], hidden) {
			t.Fatalf("MakePuzzle of %d is %v, %v", seed, p, ok)
		}
		if c := p.Clues[0]; c.Kind%2 == 0 && c.A != 0 || c.Kind%2 == 1 && c.A != (z*299+811)%10007%3 {
			t.Fatalf("MakePuzzle of %d is %v, of another person", seed, p)
		}
		kinds[p.Clues[0].Kind]++
	}
	for kind := range 6 {
		if kinds[kind] < 1000 {
			t.Errorf("only %d clues are of kind %d", kinds[kind], kind)
		}
	}
}

func holdMade(t *testing.T, hidden []int, count int, seed int) {
	t.Helper()
	p, ok := impl.MakePuzzle(hidden, count, seed)
	wantPuzzle(t, "MakePuzzle", p, ok, madeBy(hidden, count, seed))
	for _, c := range p.Clues {
		is, ok := impl.DoesFit(c, hidden)
		wantBool(t, "DoesFit of a made clue", is, ok, true)
	}
	if t.Failed() {
		t.Fatalf("of %v, %d and %d", hidden, count, seed)
	}
}
