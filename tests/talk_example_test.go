package tests

import (
	"testing"

	"loop.example/g01369/impl"
)

func TestTalkExample(t *testing.T) {
	n, ok := impl.CountLeft(4, "")
	wantInt(t, "CountLeft 4 and no statement", n, ok, 10)
	rows, ok := impl.PairsLeft(4, "p-")
	wantRows(t, "PairsLeft 4 p-", rows, ok, ages(1, 4), ages(2, 2))
	rows, ok = impl.PairsOfProduct(4, 4)
	wantRows(t, "PairsOfProduct 4 4", rows, ok, ages(1, 4), ages(2, 2))
	list, ok := impl.SumsAlone(4, "p-")
	wantInts(t, "SumsAlone 4 p-", list, ok, 4, 5)
	rows, ok = impl.PairsLeft(4, "p-s+")
	wantRows(t, "PairsLeft 4 p-s+", rows, ok, ages(1, 4), ages(2, 2))
	text, ok := impl.TrueTalk(4, 2, 2, "p")
	wantText(t, "TrueTalk 4 2 2 p", text, ok, "p-s+")
	n, ok = impl.KnownAfter(4, 2, 2, "p")
	wantInt(t, "KnownAfter 4 2 2 p", n, ok, 2)
	a, b, n, ok := impl.LongestTalk(4, "s")
	wantThree(t, "LongestTalk 4 s", a, b, n, ok, 1, 4, 3)
	text, ok = impl.TrueTalk(4, 1, 4, "s")
	wantText(t, "TrueTalk 4 1 4 s", text, ok, "s-p-s+")
	n, ok = impl.CountNeverKnown(4, "s")
	wantInt(t, "CountNeverKnown 4 s", n, ok, 0)
	texts, ok := impl.NextStatements(4, "")
	wantTexts(t, "NextStatements 4 and no statement", texts, ok, "s-", "s+", "p-", "p+", "p!")
	n, ok = impl.LeastLimit(2, 2, "p-")
	wantInt(t, "LeastLimit 2 2 p-", n, ok, 4)
}

// The console's example uses these with the limits 4 and 5.
func TestTalkConsoleExample(t *testing.T) {
	n, ok := impl.CountLeft(4, "p-s+")
	wantInt(t, "CountLeft 4 p-s+", n, ok, 2)
	text, ok := impl.TrueTalk(4, 1, 4, "s")
	wantText(t, "TrueTalk 4 1 4 s", text, ok, "s-p-s+")
	n, ok = impl.KnownAfter(4, 1, 1, "s")
	wantInt(t, "KnownAfter 4 1 1 s", n, ok, 1)
	n, ok = impl.CountLeft(5, "")
	wantInt(t, "CountLeft 5 and no statement", n, ok, 15)
}

func TestTalkConstants(t *testing.T) {
	if impl.MaxTalked != greatestLimit || impl.MaxTalk != greatestTalk {
		t.Error("a limit of chapter 5 has changed")
	}
}
