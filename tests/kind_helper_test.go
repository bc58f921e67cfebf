package tests

import (
	"math"
	"slices"
	"strconv"
	"strings"
	"testing"

	"loop.example/g01369/impl"
)

// goodKinds are in the order of the document.
func goodKinds() []string { return []string{"p", "s", "c", "t", "d", "r"} }

// badKinds are letters and texts that are no kind.
func badKinds() []string {
	return []string{"", "x", "a", "q", "P", "S", "C", "T", "D", "R", "0", "pp", "ps", "psctdr", " ", " p", "p ", "p\n", "\x00", "p\x00", "\xff", "р", "ᵖ", "prime", strings.Repeat("p", 100000)}
}

// badNumbers are no ages, no births and no years.
func badNumbers() []int {
	return ages(math.MinInt, math.MinInt+1, math.MinInt+impl.MaxAge, -1000000, -impl.MaxAge, -2, -1, impl.MaxYear+1, 1000000, math.MaxInt-impl.MaxAge, math.MaxInt-1, math.MaxInt)
}

// isOfKind tells by the definition alone whether a number is of a kind.
func isOfKind(n int, kind string) bool {
	switch kind {
	case "p":
		return n > 1 && !isNumberSuchThat(func(d int) bool { return d > 1 && d < n && n%d == 0 }, n)
	case "s":
		return isNumberSuchThat(func(m int) bool { return m*m == n }, n)
	case "c":
		return isNumberSuchThat(func(m int) bool { return m*m*m == n }, n)
	case "t":
		return isNumberSuchThat(func(m int) bool { return sumUpTo(m) == n }, n)
	case "d":
		digits := strconv.Itoa(n)
		return len(digits) > 1 && strings.Trim(digits, digits[:1]) == ""
	}
	return n >= 10 && n%10 == 0
}

func isNumberSuchThat(holds func(int) bool, greatest int) bool {
	for n := 0; n <= greatest; n++ {
		if holds(n) {
			return true
		}
	}
	return false
}

func sumUpTo(n int) int {
	sum := 0
	for i := 1; i <= n; i++ {
		sum += i
	}
	return sum
}

// digitsTogether tells by its text what the digits of a number are together.
func digitsTogether(n int) int {
	sum := 0
	for _, digit := range strconv.Itoa(n) {
		sum += int(digit - '0')
	}
	return sum
}

// isTurned tells by their texts whether one age is the turned age of another one.
func isTurned(age int, of int) bool {
	text := strconv.Itoa(of)
	if of < 0 || len(text) != 2 {
		return false
	}
	return age == 10*int(text[1]-'0')+int(text[0]-'0')
}

func numbersWhen(from int, to int, holds func(int) bool) []int {
	var found []int
	for n := from; n <= to; n++ {
		if holds(n) {
			found = append(found, n)
		}
	}
	return found
}

func countOf(list []int, kind string) int {
	return len(slices.DeleteFunc(slices.Clone(list), func(age int) bool { return !isOfKind(age, kind) }))
}

func wantText(t *testing.T, call string, got string, ok bool, want string) {
	t.Helper()
	if !ok || got != want {
		t.Errorf("%s is %q, %v, not %q", call, got, ok, want)
	}
}

func wantBool(t *testing.T, call string, got bool, ok bool, want bool) {
	t.Helper()
	if !ok || got != want {
		t.Errorf("%s is %v, %v, not %v", call, got, ok, want)
	}
}
