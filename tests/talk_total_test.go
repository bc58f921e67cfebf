package tests

import (
	"math"
	"runtime"
	"slices"
	"strings"
	"sync"
	"testing"
	"time"

	"loop.example/g01369/impl"
)

// A talkCall is one function of chapter 5. Told has a letter for each number: m for a limit, n for a sum or a product, a and b for ages; text is t for a talk, w for who, or a blank for none.
type talkCall struct {
	name string
	told string
	text byte
	run  func(n []int, text string) (bool, []any)
}

func talkCalls() []talkCall {
	return []talkCall{
		{"IsTalk", "", 't', func(n []int, s string) (bool, []any) { return results(impl.IsTalk(s)) }},
		{"PairsOfSum", "mn", ' ', func(n []int, s string) (bool, []any) { r, ok := impl.PairsOfSum(n[0], n[1]); return results(ok, r) }},
		{"PairsOfProduct", "mn", ' ', func(n []int, s string) (bool, []any) {
			r, ok := impl.PairsOfProduct(n[0], n[1])
			return results(ok, r)
		}},
		{"PairsLeft", "m", 't', func(n []int, s string) (bool, []any) { r, ok := impl.PairsLeft(n[0], s); return results(ok, r) }},
		{"CountLeft", "m", 't', func(n []int, s string) (bool, []any) { r, ok := impl.CountLeft(n[0], s); return results(ok, r) }},
		{"FirstLeft", "m", 't', func(n []int, s string) (bool, []any) { a, b, ok := impl.FirstLeft(n[0], s); return results(ok, a, b) }},
		{"IsTrueTalk", "mab", 't', func(n []int, s string) (bool, []any) {
			r, ok := impl.IsTrueTalk(n[0], n[1], n[2], s)
			return results(ok, r)
		}},
		{"TrueTalk", "mab", 'w', func(n []int, s string) (bool, []any) {
			r, ok := impl.TrueTalk(n[0], n[1], n[2], s)
			return results(ok, r)
		}},
		{"KnownAfter", "mab", 'w', func(n []int, s string) (bool, []any) {
			r, ok := impl.KnownAfter(n[0], n[1], n[2], s)
			return results(ok, r)
		}},
		{"LongestTalk", "m", 'w', func(n []int, s string) (bool, []any) {
			a, b, r, ok := impl.LongestTalk(n[0], s)
			return results(ok, a, b, r)
		}},
		{"CountNeverKnown", "m", 'w', func(n []int, s string) (bool, []any) { r, ok := impl.CountNeverKnown(n[0], s); return results(ok, r) }},
		{"SumsAlone", "m", 't', func(n []int, s string) (bool, []any) { r, ok := impl.SumsAlone(n[0], s); return results(ok, r) }},
		{"ProductsAlone", "m", 't', func(n []int, s string) (bool, []any) { r, ok := impl.ProductsAlone(n[0], s); return results(ok, r) }},
		{"NextStatements", "m", 't', func(n []int, s string) (bool, []any) { r, ok := impl.NextStatements(n[0], s); return results(ok, r) }},
		{"IsToldByTalk", "m", 't', func(n []int, s string) (bool, []any) { r, ok := impl.IsToldByTalk(n[0], s); return results(ok, r) }},
		{"LeastLimit", "ab", 't', func(n []int, s string) (bool, []any) { r, ok := impl.LeastLimit(n[0], n[1], s); return results(ok, r) }},
		{"LimitsOf", "ab", 't', func(n []int, s string) (bool, []any) { r, ok := impl.LimitsOf(n[0], n[1], s); return results(ok, r) }},
	}
}

// goodTalkNumbers fit together in any way: the ages are pairs of each of the limits.
func goodTalkNumbers(letter byte) []int {
	switch letter {
	case 'm':
		return ages(2, 3, 4, 9, 36, 40)
	case 'n':
		return ages(0, 1, 2, 4, 5, 36, 80, 81, 1600, 1601, math.MaxInt-1, math.MaxInt)
	case 'a':
		return ages(1, 2)
	}
	return ages(2)
}

// badTalkNumbers are wrong with each of the good ones.
func badTalkNumbers(letter byte) []int {
	switch letter {
	case 'm':
		return badLimits()
	case 'n':
		return badSumsOrProducts()
	case 'a':
		return ages(math.MinInt, math.MinInt+1, -2, -1, 0, 3, 40, 41, math.MaxInt-1, math.MaxInt)
	}
	return ages(math.MinInt, math.MinInt+1, -2, -1, 0, 41, 42, math.MaxInt-1, math.MaxInt)
}

func allTalkNumbers(letter byte) []int {
	return append(goodTalkNumbers(letter), badTalkNumbers(letter)...)
}

func goodTexts(text byte) []string {
	switch text {
	case 't':
		return []string{"", "s-", "p!", "s-p-s+", "s!p+s+", strings.Repeat("s-p-", 6), strings.Repeat("s+", 12)}
	case 'w':
		return goodWho()
	}
	return []string{""}
}

func badTexts(text byte) []string {
	switch text {
	case 't':
		return badTalks()
	case 'w':
		return badWho()
	}
	return nil
}

func TestPromise11TalksAreTotal(t *testing.T) {
	for _, call := range talkCalls() {
		for _, row := range toldRows(call.told, allTalkNumbers) {
			for _, text := range append(goodTexts(call.text), "", "s", "p", "x", "s-p", "S-", " s-", "s- ", "\xff-", strings.Repeat("s-", 13)) {
				holdTotalRun(t, call.name+" "+text, row, nil, spareMark, func([]int) (bool, []any) { return call.run(row, text) })
			}
		}
	}
}

func TestPromise11InvalidTalkNumbersFail(t *testing.T) {
	for _, call := range talkCalls() {
		for place := range len(call.told) {
			for _, row := range toldRows(call.told, goodTalkNumbers) {
				for _, row[place] = range badTalkNumbers(call.told[place]) {
					for _, text := range goodTexts(call.text) {
						if ok, got := call.run(row, text); ok || !areZero(got) {
							t.Fatalf("%s of %v and %q is %v, %v", call.name, row, text, got, ok)
						}
					}
				}
			}
		}
	}
}

func TestPromise11InvalidTalkTextsFail(t *testing.T) {
	for _, call := range talkCalls() {
		for _, row := range toldRows(call.told, goodTalkNumbers) {
			for _, text := range badTexts(call.text) {
				if ok, got := call.run(row, text); ok || !areZero(got) {
					t.Fatalf("%s of %v and %q is %v, %v", call.name, row, text, got, ok)
				}
			}
		}
	}
}

func TestPromise11ValidTalkArgumentsSucceed(t *testing.T) {
	for _, call := range talkCalls() {
		// These fail as well where there is no such pair, or no such limit.
		if call.name == "FirstLeft" || call.name == "LeastLimit" {
			continue
		}
		for _, row := range toldRows(call.told, goodTalkNumbers) {
			for _, text := range goodTexts(call.text) {
				if ok, _ := call.run(row, text); !ok {
					t.Fatalf("%s of %v and %q fails", call.name, row, text)
				}
			}
		}
	}
}

func TestPromise11TalksShareNoMemory(t *testing.T) {
	for _, call := range talkCalls() {
		for _, row := range toldRows(call.told, goodTalkNumbers) {
			for _, text := range goodTexts(call.text) {
				holdOwnMemoryRun(t, call.name+" "+text, row, nil, spareMark, func([]int) (bool, []any) { return call.run(row, text) })
			}
		}
	}
	for _, talk := range goodTexts('t') {
		texts, _ := impl.NextStatements(40, talk)
		before := slices.Clone(texts)
		for i := range whole(texts) {
			whole(texts)[i] = "x"
		}
		again, ok := impl.NextStatements(40, talk)
		wantTexts(t, "NextStatements once more", again, ok, before...)
	}
}

// Each call ends with all that it has started, so that many of them leave nothing behind and do not disturb each other.
func TestPromise11TalksLeaveNothingRunning(t *testing.T) {
	before := runtime.NumGoroutine()
	var group sync.WaitGroup
	for range 8 {
		group.Go(func() {
			for _, call := range talkCalls() {
				row := toldRows(call.told, goodTalkNumbers)[0]
				for range 4 {
					for _, text := range goodTexts(call.text) {
						want, wantResults := call.run(row, text)
						got, gotResults := call.run(row, text)
						if want != got || len(wantResults) != len(gotResults) {
							t.Errorf("%s of %v and %q is not the same again", call.name, row, text)
						}
					}
				}
			}
		})
	}
	group.Wait()
	// A goroutine that has done all its work may still be counted for a moment.
	for range 1000 {
		if runtime.NumGoroutine() <= before {
			return
		}
		time.Sleep(time.Millisecond)
	}
	t.Errorf("%d goroutines are left, not %d", runtime.NumGoroutine(), before)
}
