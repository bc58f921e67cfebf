package impl

import (
	"cmp"
	"slices"
	"strconv"
	"strings"
)

const MaxPeople = 8
const MaxAge = 120
const MaxYear = 3000

// YearsToMean takes fractions with greater terms than a mean of ages in lowest terms has.
const (
	maxMeanNum = 10000
	maxMeanDen = 100
)

const ageSeparator = "-"

// A person keeps the number, so that people who are as old as each other are still different ones.
type person struct {
	number int
	age    int
}

// A household is all people and, embedded, the one of them whom a question is about.
type household struct {
	person
	people []person
}

func householdOf(ages []int, who int) (household, bool) {
	if !arePeople(ages, who) {
		return household{}, false
	}
	people := make([]person, len(ages))
	for number, age := range ages {
		people[number] = person{number, age}
	}
	return household{people[who], people}, true
}

func (h household) in(years int) household {
	people := slices.Clone(h.people)
	for i := range people {
		people[i].age += years
	}
	return household{people[h.number], people}
}

func (h household) fitYears() (int, int) {
	youngest, oldest := h.age, h.age
	for _, p := range h.people {
		youngest = min(youngest, p.age)
		oldest = max(oldest, p.age)
	}
	return -youngest, MaxAge - oldest
}

// There are at most MaxAge+1 fit years, so trying each one is cheap. What a caller gives is compared with what is found then, and so cannot overflow.
func (h household) yearsWhen(holds func(household) bool) []int {
	var found []int
	least, greatest := h.fitYears()
	for years := least; years <= greatest; years++ {
		if holds(h.in(years)) {
			found = append(found, years)
		}
	}
	return found
}

func (h household) others() []person {
	var others []person
	for _, p := range h.people {
		if p != h.person {
			others = append(others, p)
		}
	}
	return others
}

func (h household) sum() int { return sumOf(h.people) }

// The product of MaxPeople people of MaxAge has 56 bits, so that it never overflows.
func (h household) product() int {
	product := 1
	for _, p := range h.people {
		product *= p.age
	}
	return product
}

func (h household) isAsOldAsOthers() bool { return h.age == sumOf(h.others()) }

// 0 stands for no whole multiple: callers look for multiples of at least 2.
func (h household) wholeTimes(other int) int {
	age := h.people[other].age
	if age == 0 || h.age%age != 0 {
		return 0
	}
	return h.age / age
}

func (h household) olderFirst() []person {
	order := slices.Clone(h.people)
	slices.SortStableFunc(order, func(p, q person) int { return cmp.Compare(q.age, p.age) })
	return order
}

func sumOf(people []person) int {
	sum := 0
	for _, p := range people {
		sum += p.age
	}
	return sum
}

func agesOf(people []person) []int {
	ages := make([]int, len(people))
	for i, p := range people {
		ages[i] = p.age
	}
	return ages
}

func isWithin(n int, least int, greatest int) bool { return least <= n && n <= greatest }

func arePeople(ages []int, who ...int) bool {
	if !AreAges(ages) {
		return false
	}
	for _, w := range who {
		if !isWithin(w, 0, len(ages)-1) {
			return false
		}
	}
	return true
}

func areDifferentPeople(ages []int, a int, b int) bool { return arePeople(ages, a, b) && a != b }

func householdIn(ages []int, years int) (household, bool) {
	h, ok := householdOf(ages, 0)
	if !ok {
		return household{}, false
	}
	least, greatest := h.fitYears()
	if !isWithin(years, least, greatest) {
		return household{}, false
	}
	return h.in(years), true
}

func tellIn(ages []int, years int, tell func(household) int) (int, bool) {
	h, ok := householdIn(ages, years)
	if !ok {
		return 0, false
	}
	return tell(h), true
}

func yearsFor(ages []int, who int, holds func(household) bool) []int {
	h, ok := householdOf(ages, who)
	if !ok {
		return nil
	}
	return h.yearsWhen(holds)
}

func firstOf(years []int) (int, bool) {
	if len(years) == 0 {
		return 0, false
	}
	return years[0], true
}

func lastOf(years []int) (int, bool) {
	if len(years) == 0 {
		return 0, false
	}
	return years[len(years)-1], true
}

// Requires num of at least 0 and den of at least 1; 0 comes out as 0 and 1.
func lowestTerms(num int, den int) (int, int) {
	a, b := num, den
	for b != 0 {
		a, b = b, a%b
	}
	return num / a, den / a
}

// AreAges reports whether a list of any numbers are ages.
func AreAges(ages []int) bool { return areForPeople(ages, MaxAge) }

// AgesIn returns the ages in years that are fit.
func AgesIn(ages []int, years int) ([]int, bool) {
	h, ok := householdIn(ages, years)
	if !ok {
		return nil, false
	}
	return agesOf(h.people), true
}

// SumIn returns their sum in years that are fit.
func SumIn(ages []int, years int) (int, bool) { return tellIn(ages, years, household.sum) }

// ProductIn returns their product then.
func ProductIn(ages []int, years int) (int, bool) { return tellIn(ages, years, household.product) }

// YearsRange returns the least and the greatest fit years.
func YearsRange(ages []int) (int, int, bool) {
	h, ok := householdOf(ages, 0)
	if !ok {
		return 0, 0, false
	}
	least, greatest := h.fitYears()
	return least, greatest, true
}

// YearsToSum returns the fit years in which the sum is just so much. It fails if there are none.
func YearsToSum(ages []int, sum int) (int, bool) {
	return firstOf(yearsFor(ages, 0, func(h household) bool { return h.sum() == sum }))
}

// YearsToMean returns the fit years in which the mean of the ages is num / den, num in 0..10000, den in 1..100, not always in lowest terms. It fails if there are none.
func YearsToMean(ages []int, num int, den int) (int, bool) {
	if !isWithin(num, 0, maxMeanNum) || !isWithin(den, 1, maxMeanDen) {
		return 0, false
	}
	return firstOf(yearsFor(ages, 0, func(h household) bool { return h.sum()*den == num*len(h.people) }))
}

// MeanAge returns the mean of the ages.
func MeanAge(ages []int) (int, int, bool) {
	sum, ok := SumIn(ages, 0)
	if !ok {
		return 0, 0, false
	}
	num, den := lowestTerms(sum, len(ages))
	return num, den, true
}

// TimesOlder returns the age of a divided by that of b. It fails if b is 0 years old.
func TimesOlder(ages []int, a int, b int) (int, int, bool) {
	if !arePeople(ages, a, b) || ages[b] == 0 {
		return 0, 0, false
	}
	num, den := lowestTerms(ages[a], ages[b])
	return num, den, true
}

// YearsOfMultiple returns the fit years in which a is just times as old as b, a different one, times of at least 2, and b at least 1 year old. It fails if there are none.
func YearsOfMultiple(ages []int, a int, b int, times int) (int, bool) {
	if !areDifferentPeople(ages, a, b) || times < 2 {
		return 0, false
	}
	return firstOf(yearsFor(ages, a, func(h household) bool { return h.wholeTimes(b) == times }))
}

// AllMultiples returns all fit years in which a is some whole times of at least 2 as old as b, a different one who is at least 1 year old then, each with these times, by years.
func AllMultiples(ages []int, a int, b int) ([][]int, bool) {
	if !areDifferentPeople(ages, a, b) {
		return nil, false
	}
	var multiples [][]int
	for _, years := range yearsFor(ages, a, func(h household) bool { return h.wholeTimes(b) >= 2 }) {
		multiples = append(multiples, []int{years, (ages[a] + years) / (ages[b] + years)})
	}
	return multiples, true
}

// YearsAsSum returns the least fit years in which somebody is as old as all others together. It fails if there are none, or if there is nobody else.
func YearsAsSum(ages []int, who int) (int, bool) {
	if len(ages) == 1 {
		return 0, false
	}
	return firstOf(yearsFor(ages, who, household.isAsOldAsOthers))
}

// YearsToProduct returns the greatest fit years in which the product of the ages is at most so much, product of at least 0. It fails if there are none.
func YearsToProduct(ages []int, product int) (int, bool) {
	return lastOf(yearsFor(ages, 0, func(h household) bool { return h.product() <= product }))
}

// OrderOfAges returns all people, older ones first, of those as old by their numbers.
func OrderOfAges(ages []int) ([]int, bool) {
	h, ok := householdOf(ages, 0)
	if !ok {
		return nil, false
	}
	order := make([]int, len(ages))
	for i, p := range h.olderFirst() {
		order[i] = p.number
	}
	return order, true
}

// GapsOfAges returns by how much each one in this order is older than the next one.
func GapsOfAges(ages []int) ([]int, bool) {
	h, ok := householdOf(ages, 0)
	if !ok {
		return nil, false
	}
	order := h.olderFirst()
	gaps := make([]int, len(order)-1)
	for i := range gaps {
		gaps[i] = order[i].age - order[i+1].age
	}
	return gaps, true
}

// AlikePairs returns all pairs of people who are as old as each other, the lesser number first, in lexicographic order.
func AlikePairs(ages []int) ([][]int, bool) {
	if !AreAges(ages) {
		return nil, false
	}
	var pairs [][]int
	for a := range ages {
		for b := a + 1; b < len(ages); b++ {
			if ages[a] == ages[b] {
				pairs = append(pairs, []int{a, b})
			}
		}
	}
	return pairs, true
}

// BirthYears returns the year less the age of each one, for a year in MaxAge..MaxYear.
func BirthYears(ages []int, year int) ([]int, bool) {
	if !AreAges(ages) || !isWithin(year, MaxAge, MaxYear) {
		return nil, false
	}
	return eachFrom(year, ages), true
}

// AgesOfBirths returns the ages in a year, in 0..MaxYear, of people whose birth years, 1..MaxPeople numbers in 0..MaxYear, are told. It fails if somebody is not born, or too old.
func AgesOfBirths(births []int, year int) ([]int, bool) {
	if !areForPeople(births, MaxYear) || !isWithin(year, 0, MaxYear) {
		return nil, false
	}
	ages := eachFrom(year, births)
	if !AreAges(ages) {
		return nil, false
	}
	return ages, true
}

// AddAge returns the ages with one more, behind the others. It fails if there are MaxPeople.
func AddAge(ages []int, age int) ([]int, bool) {
	if !AreAges(ages) || !isWithin(age, 0, MaxAge) || len(ages) == MaxPeople {
		return nil, false
	}
	return append(slices.Clone(ages), age), true
}

// DropAge returns the ages without somebody. It fails if nobody is left.
func DropAge(ages []int, who int) ([]int, bool) {
	h, ok := householdOf(ages, who)
	if !ok || len(ages) == 1 {
		return nil, false
	}
	return agesOf(h.others()), true
}

// AgesText returns the numbers with - between them.
func AgesText(ages []int) (string, bool) {
	if !AreAges(ages) {
		return "", false
	}
	words := make([]string, len(ages))
	for i, age := range ages {
		words[i] = strconv.Itoa(age)
	}
	return strings.Join(words, ageSeparator), true
}

// ParseAges returns the ages with an AgesText. It fails if there are none.
func ParseAges(s string) ([]int, bool) {
	words := strings.SplitN(s, ageSeparator, MaxPeople+1)
	ages := make([]int, len(words))
	for i, word := range words {
		age, err := strconv.Atoi(word)
		if err != nil {
			return nil, false
		}
		ages[i] = age
	}
	// Atoi also takes signs and leading zeros, which no AgesText has.
	if text, ok := AgesText(ages); !ok || text != s {
		return nil, false
	}
	return ages, true
}

func areForPeople(numbers []int, greatest int) bool {
	if !isWithin(len(numbers), 1, MaxPeople) {
		return false
	}
	for _, n := range numbers {
		if !isWithin(n, 0, greatest) {
			return false
		}
	}
	return true
}

func eachFrom(year int, numbers []int) []int {
	left := make([]int, len(numbers))
	for i, n := range numbers {
		left[i] = year - n
	}
	return left
}
