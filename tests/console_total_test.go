package tests

import (
	"math"
	"runtime"
	"slices"
	"strings"
	"sync"
	"testing"
	"time"

	"loop.example/g01369/impl"
)

// oddLines are good and bad ones, broken ones, and such that are too long or have a newline.
func oddLines() []string {
	lines := append(goodLines(), "", " ", "\n", "sum\n", "\nsum", "talk ", "talk", "fly", "life 9 9", strings.Repeat("x", longestScript), strings.Repeat("x", longestScript+1), strings.Repeat(" ", longestScript), strings.Repeat(" ", longestScript+1), strings.Repeat("\n", longestScript), strings.Repeat("\x00", 10000), strings.Repeat("\xff", 10000), "ages "+strings.Repeat("-", 2900), "births "+strings.Repeat(",", 2900), "ratios "+strings.Repeat(":", 2900), "talk "+strings.Repeat("s-", 1400), "say "+strings.Repeat("s-", 1400), "reach "+strings.Repeat("9", 2900), strings.Repeat("sum ", 700), "sum"+strings.Repeat(" ", 2900))
	for _, line := range goodLines() {
		for place, letter := range []byte(lettersOf(line)) {
			for _, word := range []string{"", "-1", "0", "1", "3", "8", "41", "121", "365", "3001", "999999", "1000000", "9223372036854775807", "9223372036854775808", "-9223372036854775808", "0.1", "3000.365", "3000.366", "s-", "1:1", "100:100", "\xff", string([]byte{letter})} {
				words := strings.Split(line, " ")
				words[place+1] = word
				lines = append(lines, strings.Join(words, " "))
			}
		}
	}
	for sign := range 256 {
		lines = append(lines, string([]byte{byte(sign)}), "sum"+string([]byte{byte(sign)}), "ages "+string([]byte{byte(sign)}), "reach 7"+string([]byte{byte(sign)}))
	}
	return lines
}

func oddScripts() []string {
	scripts := append(badScripts(), "", "\n", scriptOf(goodLines()...), scriptOfBytes(mostLines, longestScript), strings.Repeat("\n", mostLines), strings.Repeat("say s-\n", mostLines), strings.Repeat("add 1\n", mostLines), strings.Repeat("drop 0\n", mostLines), strings.Repeat("\x00", longestScript-1)+"\n", strings.Repeat("\xff\n", mostLines), "limit 40\n"+strings.Repeat("known 6 6\n", mostLines-1), "limit 40\n"+strings.Repeat("true 6 6\n", mostLines-1))
	for _, line := range oddLines() {
		scripts = append(scripts, line, line+"\n", "sum\n"+line+"\n", line+"\nsum\n", line+"\n"+line+"\n")
	}
	return scripts
}

// oddDesks have numbers as small and as great as an int can be, in good and in bad desks.
func oddDesks() []impl.Desk {
	list := append(goodDesks(), badDesks()...)
	for _, n := range oddNumbers() {
		list = append(list,
			impl.Desk{Ages: ages(n), Births: dates(date(n, n)), Limit: n, Talk: "", Ratios: ratioList(ratio(n, n))},
			impl.Desk{Ages: ages(n), Births: threeBorn(), Limit: 4, Talk: "", Ratios: ratiosOf(exampleChain)},
			impl.Desk{Ages: ages(40), Births: dates(date(n, 1)), Limit: 4, Talk: "", Ratios: ratiosOf(exampleChain)},
			impl.Desk{Ages: ages(40), Births: dates(date(2000, n)), Limit: 4, Talk: "", Ratios: ratiosOf(exampleChain)},
			impl.Desk{Ages: ages(40), Births: threeBorn(), Limit: n, Talk: "", Ratios: ratiosOf(exampleChain)},
			impl.Desk{Ages: ages(40), Births: threeBorn(), Limit: 4, Talk: "", Ratios: ratioList(ratio(n, 1))},
			impl.Desk{Ages: ages(40), Births: threeBorn(), Limit: 4, Talk: "", Ratios: ratioList(ratio(1, n))},
		)
	}
	return list
}

func holdDeskTotal(t *testing.T, d impl.Desk, line string) {
	t.Helper()
	given := spareDesk(d)
	before := wholeDesk(given)
	isDesk := impl.IsDesk(given)
	after, reply, ok := impl.DeskLine(given, line)
	if !sameDesks(before, wholeDesk(given)) {
		t.Fatalf("%.60q changed %v", line, d)
	}
	if want := isDesk && len(line) <= longestScript && !strings.Contains(line, "\n"); ok != want {
		t.Fatalf("%.60q on %v is %v, %q, %v", line, d, after, reply, ok)
	}
	if !ok && (reply != "" || !isZeroDesk(after)) || ok && (reply == "" || !impl.IsDesk(after)) {
		t.Fatalf("%.60q on %v is %v, %q, %v", line, d, after, reply, ok)
	}
}

func TestPromise11LinesAreTotal(t *testing.T) {
	lines := oddLines()
	for _, d := range goodDesks() {
		for _, line := range lines {
			holdDeskTotal(t, d, line)
		}
	}
	for _, d := range oddDesks() {
		for _, line := range append(goodLines(), "", "fly", "talk ", "sum\n", strings.Repeat("x", longestScript+1)) {
			holdDeskTotal(t, d, line)
		}
	}
}

func TestPromise11ScriptsAreTotal(t *testing.T) {
	for _, script := range oddScripts() {
		lines := strings.Count(script, "\n")
		want := script == "" || strings.HasSuffix(script, "\n") && lines <= mostLines && len(script) <= longestScript
		replies, ok := impl.RunScript(script)
		if ok != want || ok && len(replies) != lines || !ok && len(replies) != 0 {
			t.Fatalf("RunScript %.60q is %q, %v", script, replies, ok)
		}
		numbers, ok := impl.FailedLines(script)
		if ok != want || len(numbers) > len(replies) || !slices.IsSorted(numbers) {
			t.Fatalf("FailedLines %.60q is %v, %v", script, numbers, ok)
		}
		d, ok := impl.DeskAfter(script)
		if ok != want || impl.IsDesk(d) != want || !want && !isZeroDesk(d) {
			t.Fatalf("DeskAfter %.60q is %v, %v", script, d, ok)
		}
	}
}

func TestPromise11DesksWithNilLists(t *testing.T) {
	for _, change := range []func(d *impl.Desk){
		func(d *impl.Desk) { d.Ages = nil },
		func(d *impl.Desk) { d.Ages = ages() },
		func(d *impl.Desk) { d.Births = nil },
		func(d *impl.Desk) { d.Births = dates() },
		func(d *impl.Desk) { d.Ratios = nil },
		func(d *impl.Desk) { d.Ratios = ratioList() },
		func(d *impl.Desk) { d.Limit = 0 },
		func(d *impl.Desk) { d.Limit = math.MinInt },
		func(d *impl.Desk) { d.Limit = math.MaxInt },
	} {
		d := exampleDesk()
		change(&d)
		if impl.IsDesk(d) {
			t.Errorf("%v is no desk", d)
		}
		for _, line := range append(goodLines(), "ages 5", "births 0.1", "limit 4", "ratios 1:1") {
			wantNoLine(t, d, line)
		}
	}
}

// The desks that come out are written over, and nothing else may change: not the one that was given, nor what comes out of the same call again.
func TestPromise11DesksShareNoMemory(t *testing.T) {
	lines := append(goodLines(), "", "fly", "talk ", "ago 999999", "drop 9", "limit 1", "say s-s-", "births x", "ratios x", "ages x")
	for _, d := range goodDesks() {
		for _, line := range lines {
			given := spareDesk(d)
			before := wholeDesk(given)
			first, reply, _ := impl.DeskLine(given, line)
			second, _, _ := impl.DeskLine(given, line)
			if !sameDesks(first, second) {
				t.Fatalf("%q on %v is %v, and then %v", line, d, first, second)
			}
			want := wholeDesk(second)
			writeOver(first)
			if !sameDesks(before, wholeDesk(given)) {
				t.Fatalf("%q on %v: the desk shares memory with the one that is given", line, d)
			}
			if !sameDesks(want, wholeDesk(second)) {
				t.Fatalf("%q on %v: the desk shares memory with another one", line, d)
			}
			third, again, ok := impl.DeskLine(given, line)
			if !ok || again != reply || !sameDesks(third, second) {
				t.Fatalf("%q on %v is %v, %q, and then %v, %q", line, d, second, reply, third, again)
			}
		}
	}
}

// What is written into the room behind a desk that comes out does not come back.
func TestPromise11DesksOfScriptsShareNoMemory(t *testing.T) {
	scripts := append(badScripts(), "", "sum\n", "fly\n", "ages 5\nbirths 0.1\nratios 1:2\n", scriptOf(goodLines()...), strings.Repeat("add 1\n", 5), strings.Repeat("drop 0\n", 5))
	for _, script := range scripts {
		first, ok := impl.DeskAfter(script)
		second, _ := impl.DeskAfter(script)
		want := wholeDesk(second)
		writeOver(first)
		third, again := impl.DeskAfter(script)
		if ok != again || !sameDesks(want, wholeDesk(second)) || !sameDesks(second, third) {
			t.Fatalf("DeskAfter %.60q is %v, and then %v", script, second, third)
		}
		numbers, _ := impl.FailedLines(script)
		wantNumbers := slices.Clone(numbers)
		for i := range whole(numbers) {
			whole(numbers)[i] = spareMark
		}
		if later, _ := impl.FailedLines(script); !slices.Equal(later, wantNumbers) {
			t.Fatalf("FailedLines %.60q is %v, and then %v", script, wantNumbers, later)
		}
		replies, _ := impl.RunScript(script)
		wantReplies := slices.Clone(replies)
		for i := range whole(replies) {
			whole(replies)[i] = "written over"
		}
		if later, _ := impl.RunScript(script); !slices.Equal(later, wantReplies) {
			t.Fatalf("RunScript %.60q is %q, and then %q", script, wantReplies, later)
		}
	}
	writeOver(impl.FirstDesk())
	wantDesk(t, "FirstDesk once more", impl.FirstDesk(), true, exampleDesk())
}

// No line of one script is seen in another one.
func TestPromise11ConsoleKeepsNoState(t *testing.T) {
	script := scriptOf(goodLines()...)
	want, _ := impl.RunScript(script)
	for _, other := range []string{"ages 5\nbirths 0.1\nlimit 40\ntalk p-\nratios 1:2\n", "fly\n", "", "x", "later 80\nsay s-\nsay p-\n"} {
		impl.RunScript(other)
		impl.DeskAfter(other)
		impl.FailedLines(other)
		impl.DeskLine(exampleDesk(), strings.TrimSuffix(other, "\n"))
		wantDesk(t, "FirstDesk", impl.FirstDesk(), true, exampleDesk())
		replies, ok := impl.RunScript(script)
		wantTexts(t, "RunScript", replies, ok, want...)
		d, ok := impl.DeskAfter("")
		wantDesk(t, "DeskAfter", d, ok, exampleDesk())
	}
}

func TestPromise11ConsoleIsTheSameOnEveryRun(t *testing.T) {
	script := "limit 40\nleft\nsums\nproducts\ntrue 6 6\nknown 2 2\nratios 1:2\nlives\nall 0 1\nnext 2000.60\nfly\nago 10\n"
	want, _ := impl.RunScript(script)
	wantNumbers, _ := impl.FailedLines(script)
	wantLast, _ := impl.DeskAfter(script)
	for range 50 {
		replies, ok := impl.RunScript(script)
		wantTexts(t, "RunScript", replies, ok, want...)
		numbers, ok := impl.FailedLines(script)
		wantInts(t, "FailedLines", numbers, ok, wantNumbers...)
		d, ok := impl.DeskAfter(script)
		wantDesk(t, "DeskAfter", d, ok, wantLast)
	}
	for _, line := range goodLines() {
		d, reply, _ := impl.DeskLine(goodDesk(line), line)
		for range 50 {
			after, again, ok := impl.DeskLine(goodDesk(line), line)
			if !ok || again != reply || !sameDesks(after, d) {
				t.Fatalf("%q is %v, %q, and then %v, %q", line, d, reply, after, again)
			}
		}
	}
}

// Many calls at once answer as one alone, and leave nothing running.
func TestPromise11ConsolesAtOnce(t *testing.T) {
	before := runtime.NumGoroutine()
	script := scriptOf(goodLines()...)
	want, _ := impl.RunScript(script)
	wantLast, _ := impl.DeskAfter(script)
	d := exampleDesk()
	var all sync.WaitGroup
	for range 40 {
		all.Go(func() {
			replies, ok := impl.RunScript(script)
			wantTexts(t, "RunScript", replies, ok, want...)
			after, ok := impl.DeskAfter(script)
			wantDesk(t, "DeskAfter", after, ok, wantLast)
			for _, line := range goodLines() {
				if _, _, ok := impl.DeskLine(d, line); !ok {
					t.Errorf("%q fails", line)
				}
			}
		})
	}
	all.Wait()
	for range 100 {
		if runtime.NumGoroutine() <= before {
			return
		}
		time.Sleep(10 * time.Millisecond)
	}
	t.Errorf("%d goroutines are left, not %d", runtime.NumGoroutine(), before)
}
