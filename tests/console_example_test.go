package tests

import (
	"testing"

	"loop.example/g01369/impl"
)

// exampleRows are those of the document, in order.
func exampleRows() []string {
	return []string{
		"sum -> 61", "mean -> 61/3", "reach 70 -> 3", "all 0 1 -> -8,8 -5,5 2,3 16,2", "times 0 2 -> 40/9", "product 1000 -> -5",
		"later 2 -> 42-14-11", "times 0 1 -> 3/1", "ago 12 -> no", "ago 2 -> 40-12-9", "add 33 -> 40-12-9-33", "drop 3 -> 40-12-9", "order -> 0,1,2", "gaps -> 28,3",
		"on 2000.60 -> 9,8,7", "next 2000.60 -> 2000.100 0,2", "last 2000.60 -> 2000.50 1", "alike 1 2 2000 -> 315", "twice 0 1 -> 1993.365", "first 25 -> 2000.100", "old 0 1991.100 -> 365", "on 1980.1 -> no",
		"say p- -> p-", "left -> 1,4 2,2", "sums -> 4,5", "say s+ -> p-s+", "count -> 2", "true 1 4 -> s-p-s+", "known 1 1 -> 1", "limit 5 -> none", "count -> 15",
		"until 40 12 -> 44/1", "from 60 -> 36 24 1", "gap 10 -> 30 20 1", "chain 60 -> 30,20,10", "least -> 3,2,1", "life 9 -> no",
		"ratios 1:6,1:12,1:7,1:2 -> 1:6,1:12,1:7,1:2", "life 9 -> 84/1", "lives -> 84,168", "talk s? -> what", "fly -> what",
	}
}

func TestConsoleExample(t *testing.T) { converse(t, exampleRows()...) }

func TestConsoleExampleAsOneScript(t *testing.T) {
	script := "sum\nmean\nreach 70\nall 0 1\ntimes 0 2\nproduct 1000\nlater 2\ntimes 0 1\nago 12\nago 2\nadd 33\ndrop 3\norder\ngaps\non 2000.60\nnext 2000.60\nlast 2000.60\nalike 1 2 2000\ntwice 0 1\nfirst 25\nold 0 1991.100\non 1980.1\nsay p-\nleft\nsums\nsay s+\ncount\ntrue 1 4\nknown 1 1\nlimit 5\ncount\nuntil 40 12\nfrom 60\ngap 10\nchain 60\nleast\nlife 9\nratios 1:6,1:12,1:7,1:2\nlife 9\nlives\ntalk s?\nfly\n"
	replies, ok := impl.RunScript(script)
	wantTexts(t, "RunScript", replies, ok, "61", "61/3", "3", "-8,8 -5,5 2,3 16,2", "40/9", "-5", "42-14-11", "3/1", "no", "40-12-9", "40-12-9-33", "40-12-9", "0,1,2", "28,3", "9,8,7", "2000.100 0,2", "2000.50 1", "315", "1993.365", "2000.100", "365", "no", "p-", "1,4 2,2", "4,5", "p-s+", "2", "s-p-s+", "1", "none", "15", "44/1", "36 24 1", "30 20 1", "30,20,10", "3,2,1", "no", "1:6,1:12,1:7,1:2", "84/1", "84,168", "what", "what")
	numbers, ok := impl.FailedLines(script)
	wantInts(t, "FailedLines", numbers, ok, 9, 22, 37, 41, 42)
	d, ok := impl.DeskAfter(script)
	wantDesk(t, "DeskAfter", d, ok, deskOf(exampleAges, exampleBirths, 5, "", exampleParts))
}

func TestFirstDesk(t *testing.T) {
	want := impl.Desk{
		Ages:   ages(40, 12, 9),
		Births: dates(date(1990, 100), date(1992, 50), date(1992, 100)),
		Limit:  4,
		Talk:   "",
		Ratios: ratioList(ratio(3, 2), ratio(2, 1)),
	}
	wantDesk(t, "FirstDesk", impl.FirstDesk(), impl.IsDesk(impl.FirstDesk()), want)
}

func TestConsoleConstants(t *testing.T) {
	if impl.MaxScript != longestScript || impl.MaxLines != mostLines {
		t.Error("a limit of chapter 10 has changed")
	}
}
