package tests

import (
	"slices"
	"strconv"
	"strings"
	"testing"

	"loop.example/g01369/impl"
)

func TestIsDeskEdges(t *testing.T) {
	for _, d := range goodDesks() {
		if !impl.IsDesk(d) {
			t.Errorf("%v is a desk", d)
		}
	}
	for _, d := range badDesks() {
		if impl.IsDesk(d) {
			t.Errorf("%v is no desk", d)
		}
	}
}

func TestLinesThatChangeTheAges(t *testing.T) {
	converse(t, "ages 5 -> 5", "sum -> 5", "ages 0 -> 0", "sum -> 0", "ages 120 -> 120", "sum -> 120", "ages 120-120-120-120-120-120-120-120 -> 120-120-120-120-120-120-120-120", "sum -> 960", "add 0 -> no", "later 1 -> no", "ages 0-0-0-0-0-0-0-0 -> 0-0-0-0-0-0-0-0", "ago 1 -> no", "later 120 -> 120-120-120-120-120-120-120-120", "later 1 -> no", "ages 9-12-40 -> 9-12-40", "order -> 2,1,0")
	converse(t, "ages 121 -> what", "ages 40-121 -> what", "ages 1-2-3-4-5-6-7-8-9 -> what", "ages 05 -> what", "ages -5 -> what", "ages +5 -> what", "ages 5- -> what", "ages 5--6 -> what", "ages 5,6 -> what", "ages -> what", "ages  -> what", "ages 5 6 -> what", "ages  5 -> what", "ages 5  -> what", "sum -> 61")
	converse(t, "later 80 -> 120-92-89", "later 1 -> no", "later 0 -> 120-92-89", "ago 0 -> 120-92-89", "ago 89 -> 31-3-0", "ago 1 -> no", "later 1 -> 32-4-1", "later 89 -> no", "later 90 -> no", "ago 32 -> no", "later 999999 -> no", "ago 999999 -> no", "later 1000000 -> what", "ago 1000000 -> what", "sum -> 37", "later -> what", "ago -> what", "later  -> what", "ago  -> what", "later 1 1 -> what", "ago 1 1 -> what", "later -1 -> what", "ago -1 -> what", "later 1.5 -> what", "later x -> what", "sum -> 37")
	converse(t, "add 120 -> 40-12-9-120", "add 121 -> no", "add 999999 -> no", "add 1000000 -> what", "add 0 -> 40-12-9-120-0", "add 40 -> 40-12-9-120-0-40", "add 9 -> 40-12-9-120-0-40-9", "add 1 -> 40-12-9-120-0-40-9-1", "add 2 -> no", "add 121 -> no", "drop 7 -> 40-12-9-120-0-40-9", "add -> what", "add  -> what", "add 1 2 -> what", "add -1 -> what", "add 01 -> what", "add 2 -> 40-12-9-120-0-40-9-2", "sum -> 232")
	converse(t, "drop 3 -> no", "drop 4 -> no", "drop 999999 -> no", "drop 1000000 -> what", "drop 1 -> 40-9", "drop 2 -> no", "drop 1 -> 40", "drop 1 -> no", "drop 0 -> no", "drop 999999 -> no", "sum -> 40", "drop -> what", "drop  -> what", "drop 0 0 -> what", "drop -1 -> what", "drop 00 -> what", "add 5 -> 40-5", "drop 0 -> 5", "drop 0 -> no", "sum -> 5")
}

func TestQuestionsOfAges(t *testing.T) {
	converse(t, "mean -> 61/3", "ages 20 -> 20", "sum -> 20", "mean -> 20/1", "order -> 0", "gaps -> -", "ages 0 -> 0", "sum -> 0", "mean -> 0/1", "gaps -> -", "ages 0-1 -> 0-1", "mean -> 1/2", "ages 1-2-4-8 -> 1-2-4-8", "mean -> 15/4", "ages 3-1-2 -> 3-1-2", "mean -> 2/1", "order -> 0,2,1", "gaps -> 1,1", "ages 7-7-3-7 -> 7-7-3-7", "mean -> 6/1", "order -> 0,1,3,2", "gaps -> 0,0,4", "ages 5-50-5-50-5 -> 5-50-5-50-5", "order -> 1,3,0,2,4", "gaps -> 0,45,0,0")
	converse(t, "reach 70 -> 3", "reach 71 -> no", "reach 34 -> -9", "reach 31 -> no", "reach 301 -> 80", "reach 304 -> no", "reach 61 -> 0", "reach 0 -> no", "reach 999999 -> no", "reach 1000000 -> what", "ages 5 -> 5", "reach 0 -> -5", "reach 5 -> 0", "reach 120 -> 115", "reach 121 -> no", "ages 0-120 -> 0-120", "reach 120 -> 0", "reach 122 -> no", "reach 118 -> no")
	converse(t, "times 0 0 -> 1/1", "times 1 2 -> 4/3", "times 2 1 -> 3/4", "times 0 1 -> 10/3", "times 1 0 -> 3/10", "times 0 3 -> no", "times 3 0 -> no", "times 3 3 -> no", "times 0 999999 -> no", "times 999999 0 -> no", "times 0 1000000 -> what", "ages 40-0 -> 40-0", "times 0 1 -> no", "times 1 0 -> 0/1", "times 1 1 -> no", "times 0 0 -> 1/1", "ages 120-40 -> 120-40", "times 0 1 -> 3/1", "times 1 0 -> 1/3", "later 120 -> no", "times 0 1 -> 3/1")
	converse(t, "all 0 1 -> -8,8 -5,5 2,3 16,2", "all 0 2 -> -8,32 22,2", "all 1 2 -> -8,4 -6,2", "all 1 0 -> -", "all 2 0 -> -", "all 0 0 -> no", "all 1 1 -> no", "all 0 3 -> no", "all 3 0 -> no", "all 999999 0 -> no", "ages 120-0 -> 120-0", "all 0 1 -> -", "all 1 0 -> -", "ages 1-1 -> 1-1", "all 0 1 -> -", "ages 20 -> 20", "all 0 0 -> no", "all 0 1 -> no", "ages 120-60 -> 120-60", "all 0 1 -> -59,61 -58,31 -57,21 -56,16 -55,13 -54,11 -50,7 -48,6 -45,5 -40,4 -30,3 0,2", "ages 3-1 -> 3-1", "all 0 1 -> 0,3 1,2")
	converse(t, "product 1000 -> -5", "product 980 -> -5", "product 979 -> -6", "product 0 -> -9", "product 1 -> -9", "product 4320 -> 0", "product 4319 -> -1", "product 999999 -> 80", "product 1000000 -> what", "ages 120-120 -> 120-120", "product 14400 -> 0", "product 14399 -> -1", "product 0 -> -120", "ages 0 -> 0", "product 0 -> 0", "product 120 -> 120", "product 121 -> 120", "ages 0-120 -> 0-120", "product 0 -> 0", "product 5 -> 0")
}

func TestLinesThatChangeTheBirths(t *testing.T) {
	converse(t, "births 0.1 -> 0.1", "on 0.1 -> 0", "births 3000.365 -> 3000.365", "on 3000.365 -> 0", "births 1990.100,1990.100 -> 1990.100,1990.100", "on 1990.100 -> 0,0", "births 0.1,0.2,0.3,0.4,0.5,0.6,0.7,0.8 -> 0.1,0.2,0.3,0.4,0.5,0.6,0.7,0.8", "on 1.4 -> 1,1,1,1,0,0,0,0", "births 1992.100,1990.100 -> 1992.100,1990.100", "on 1993.1 -> 0,2")
	converse(t, "births 0.1,0.2,0.3,0.4,0.5,0.6,0.7,0.8,0.9 -> what", "births 1990 -> what", "births 1990.0 -> what", "births 1990.366 -> what", "births 3001.1 -> what", "births 1990.100, -> what", "births 01990.100 -> what", "births 1990.0100 -> what", "births 1990.100;1992.50 -> what", "births -1.1 -> what", "births -> what", "births  -> what", "births 1990.100 1992.50 -> what", "births  1990.100 -> what", "births 1990.100  -> what", "on 2000.60 -> 9,8,7")
}

func TestQuestionsOfBirths(t *testing.T) {
	converse(t, "on 1992.100 -> 2,0,0", "on 1992.99 -> no", "on 1993.49 -> 2,0,0", "on 1993.50 -> 2,1,0", "on 1993.99 -> 2,1,0", "on 1993.100 -> 3,1,1", "on 3000.365 -> 1010,1008,1008", "on 3001.1 -> what", "on 2000.0 -> what", "on 2000.366 -> what", "on 2000 -> what", "on 02000.1 -> what", "on 2000.60,2000.60 -> what", "on 1990.100,1992.50,1992.100 -> what", "on -> what", "on  -> what", "on 2000 60 -> what", "on 2000.60  -> what", "on 2000.60 2000.60 -> what", "on 60 -> what")
	converse(t, "old 0 1990.100 -> 0", "old 0 1990.99 -> no", "old 0 1990.101 -> 1", "old 1 1990.100 -> no", "old 1 1992.50 -> 0", "old 2 1992.99 -> no", "old 2 1992.100 -> 0", "old 0 3000.365 -> 368915", "old 3 2000.60 -> no", "old 999999 2000.60 -> no", "old 1000000 2000.60 -> what", "old 3 2000.366 -> what", "old 0 2000.60,2001.60 -> what", "old 0 -> what", "old 0  -> what", "old 2000.60 0 -> what", "old  2000.60 -> what", "old 0 0 2000.60 -> what", "births 0.1 -> 0.1", "old 0 3000.365 -> 1095364", "old 1 3000.365 -> no", "old 0 0.1 -> 0")
	converse(t, "next 1992.99 -> no", "next 1992.100 -> 1993.50 1", "next 1993.49 -> 1993.50 1", "next 1993.50 -> 1993.100 0,2", "next 1993.99 -> 1993.100 0,2", "next 1993.100 -> 1994.50 1", "next 2999.365 -> 3000.50 1", "next 3000.49 -> 3000.50 1", "next 3000.50 -> 3000.100 0,2", "next 3000.99 -> 3000.100 0,2", "next 3000.100 -> no", "next 3000.365 -> no", "next 3001.1 -> what", "next 2000.60,2000.60 -> what", "next -> what", "next  -> what", "births 2000.10,2000.10 -> 2000.10,2000.10", "next 2000.9 -> no", "next 2000.10 -> 2001.10 0,1", "next 2001.9 -> 2001.10 0,1", "next 2001.10 -> 2002.10 0,1", "births 3000.365 -> 3000.365", "next 3000.365 -> no")
	converse(t, "last 1992.99 -> no", "last 1992.100 -> 1992.100 0", "last 1993.49 -> 1992.100 0", "last 1993.50 -> 1993.50 1", "last 1993.99 -> 1993.50 1", "last 1993.100 -> 1993.100 0,2", "last 3000.365 -> 3000.100 0,2", "last 3001.1 -> what", "last 2000.60,2000.60 -> what", "last -> what", "last  -> what", "births 2000.10,2000.10 -> 2000.10,2000.10", "last 2000.9 -> no", "last 2000.10 -> no", "last 2000.365 -> no", "last 2001.9 -> no", "last 2001.10 -> 2001.10 0,1", "last 2001.11 -> 2001.10 0,1", "births 3000.365 -> 3000.365", "last 3000.365 -> no", "births 2999.365 -> 2999.365", "last 3000.364 -> no", "last 3000.365 -> 3000.365 0")
	converse(t, "alike 0 1 1992 -> no", "alike 0 1 1993 -> 0", "alike 1 0 1993 -> 0", "alike 0 1 2000 -> 0", "alike 0 2 2000 -> 0", "alike 1 2 1993 -> 315", "alike 1 2 1992 -> no", "alike 0 0 1990 -> no", "alike 0 0 1991 -> 365", "alike 2 2 3000 -> 365", "alike 1 2 3000 -> 315", "alike 1 2 3001 -> no", "alike 1 2 0 -> no", "alike 0 3 2000 -> no", "alike 3 0 2000 -> no", "alike 3 3 2000 -> no", "alike 999999 0 2000 -> no", "alike 0 999999 2000 -> no", "alike 0 1 999999 -> no", "alike 0 1 1000000 -> what", "alike 0 1 -> what", "alike 0 1 2000 0 -> what", "alike 0 1  -> what", "alike 0  2000 -> what", "alike  0 1 -> what", "births 2000.1,1999.365 -> 2000.1,1999.365", "alike 0 1 2001 -> 364", "alike 1 0 2001 -> 364")
	converse(t, "twice 0 1 -> 1993.365", "twice 0 2 -> 1994.100", "twice 1 2 -> 1992.150", "twice 1 0 -> no", "twice 2 0 -> no", "twice 0 0 -> no", "twice 0 3 -> no", "twice 3 0 -> no", "twice 3 3 -> no", "twice 0 999999 -> no", "twice 999999 0 -> no", "twice 0 -> what", "twice 0 1 2 -> what", "births 0.1,1500.1 -> 0.1,1500.1", "twice 0 1 -> 3000.1", "births 0.1,1500.184 -> 0.1,1500.184", "twice 0 1 -> no", "births 0.1,2000.1 -> 0.1,2000.1", "twice 0 1 -> no", "births 0.1,1500.183 -> 0.1,1500.183", "twice 0 1 -> 3000.365", "births 1990.100,1990.100 -> 1990.100,1990.100", "twice 0 1 -> no", "births 1990.365,1991.1 -> 1990.365,1991.1", "twice 0 1 -> 1991.2", "twice 1 0 -> no")
	converse(t, "first 0 -> 1992.100", "first 2 -> 1992.100", "first 3 -> 1993.50", "first 4 -> 1993.100", "first 25 -> 2000.100", "first 26 -> 2000.100", "first 27 -> 2001.50", "first 3027 -> no", "first 3028 -> no", "first 10000 -> no", "first 10001 -> no", "first 999999 -> no", "first 1000000 -> what", "first -> what", "first  -> what", "first 1 1 -> what", "births 0.1 -> 0.1", "first 0 -> 0.1", "first 1 -> 1.1", "first 3000 -> 3000.1", "first 3001 -> no", "births 0.1,0.1,0.1,0.1 -> 0.1,0.1,0.1,0.1", "first 10000 -> 2500.1", "first 9999 -> 2500.1", "first 10001 -> no", "births 3000.365 -> 3000.365", "first 0 -> 3000.365", "first 1 -> no")
}

func TestLinesThatChangeTheTalk(t *testing.T) {
	converse(t, "talk p- -> p-", "count -> 2", "talk  -> none", "count -> 10", "talk -> what", "talk   -> what", "talk p-  -> what", "talk  p- -> what", "talk p- s+ -> what", "talk p-s+ -> p-s+", "left -> 1,4 2,2", "talk s? -> what", "talk x- -> what", "talk p -> what", "talk S- -> what", "talk none -> what", "talk - -> what", "left -> 1,4 2,2", "talk s-s-s-s-s-s-s-s-s-s-s-s- -> s-s-s-s-s-s-s-s-s-s-s-s-", "count -> 6", "talk s-s-s-s-s-s-s-s-s-s-s-s-s- -> what", "talk  -> none", "left -> 1,1 1,2 1,3 1,4 2,2 2,3 2,4 3,3 3,4 4,4")
	converse(t, "say p- -> p-", "say s+ -> p-s+", "say -> what", "say  -> what", "say   -> what", "say p-s- -> what", "say s? -> what", "say -p -> what", "say S- -> what", "say s-  -> what", "say  s- -> what", "say s- s- -> what", "say none -> what", "left -> 1,4 2,2", "talk  -> none", "say s! -> s!", "say p! -> s!p!", "say p- -> s!p!p-", "count -> 0")
	converse(t, "talk s-p-s-p-s-p-s-p-s-p- -> s-p-s-p-s-p-s-p-s-p-", "say s- -> s-p-s-p-s-p-s-p-s-p-s-", "say p- -> s-p-s-p-s-p-s-p-s-p-s-p-", "say s- -> no", "say s+ -> no", "say p! -> no", "count -> 0", "talk s- -> s-", "say p- -> s-p-", "talk s-p-s-p-s-p-s-p-s-p-s-p- -> s-p-s-p-s-p-s-p-s-p-s-p-", "say s- -> no", "say s-s- -> what", "say -> what", "limit 4 -> none", "say s- -> s-")
	converse(t, "limit 2 -> none", "left -> 1,1 1,2 2,2", "limit 1 -> no", "count -> 3", "limit 0 -> no", "limit 3 -> none", "left -> 1,1 1,2 1,3 2,2 2,3 3,3", "limit 40 -> none", "count -> 820", "limit 41 -> no", "limit 999999 -> no", "limit 1000000 -> what", "limit -> what", "limit  -> what", "limit 2  -> what", "limit 2 3 -> what", "limit 02 -> what", "limit -2 -> what", "count -> 820")
	converse(t, "say p- -> p-", "limit 1 -> no", "left -> 1,4 2,2", "limit 41 -> no", "left -> 1,4 2,2", "limit 4 -> none", "left -> 1,1 1,2 1,3 1,4 2,2 2,3 2,4 3,3 3,4 4,4", "say p- -> p-", "limit 5 -> none", "left -> 1,1 1,2 1,3 1,4 1,5 2,2 2,3 2,4 2,5 3,3 3,4 3,5 4,4 4,5 5,5", "talk s-p-s-p-s-p-s-p-s-p-s-p- -> s-p-s-p-s-p-s-p-s-p-s-p-", "limit 2 -> none", "left -> 1,1 1,2 2,2")
}

func TestQuestionsOfTalks(t *testing.T) {
	converse(t, "left -> 1,1 1,2 1,3 1,4 2,2 2,3 2,4 3,3 3,4 4,4", "count -> 10", "sums -> 2,3,7,8", "products -> 1,2,3,6,8,9,12,16", "say s+ -> s+", "left -> 1,1 1,2 3,4 4,4", "count -> 4", "sums -> 2,3,7,8", "products -> 1,2,12,16", "say s- -> s+s-", "left -> -", "count -> 0", "sums -> -", "products -> -", "limit 2 -> none", "left -> 1,1 1,2 2,2", "sums -> 2,3,4", "products -> 1,2,4", "say p+ -> p+", "left -> 1,1 1,2 2,2", "say s- -> p+s-", "left -> -", "count -> 0", "sums -> -", "products -> -", "limit 3 -> none", "say s- -> s-", "left -> 1,3 2,2", "count -> 2", "sums -> -", "products -> 3,4", "talk s-p-s+ -> s-p-s+", "left -> -", "count -> 0", "sums -> -", "products -> -", "talk s! -> s!", "left -> -", "talk p! -> p!", "left -> 1,3 2,2")
	converse(t, "true 1 1 -> s+", "true 1 4 -> s-p-s+", "true 2 2 -> s-p-s+", "true 3 3 -> s-p+", "true 4 4 -> s+", "true 2 3 -> s-p+", "true 4 1 -> no", "true 0 1 -> no", "true 1 0 -> no", "true 0 0 -> no", "true 1 5 -> no", "true 5 5 -> no", "true 1 999999 -> no", "true 999999 1 -> no", "true 1 -> what", "true 1 4 1 -> what", "true  4 -> what", "true 1  -> what", "talk p-s+ -> p-s+", "true 1 4 -> s-p-s+", "limit 5 -> none", "true 1 5 -> s-p+", "true 1 4 -> s-p-s+", "limit 2 -> none", "true 1 2 -> s+", "true 1 3 -> no", "limit 40 -> none", "true 6 6 -> s-p-s-p-s-p-s-p-s-p-s-p-", "true 40 40 -> s+")
	converse(t, "known 1 1 -> 1", "known 1 4 -> 3", "known 2 2 -> 3", "known 3 3 -> 2", "known 2 3 -> 2", "known 1 3 -> 2", "known 4 1 -> no", "known 0 1 -> no", "known 1 0 -> no", "known 1 5 -> no", "known 5 5 -> no", "known 1 999999 -> no", "known 1 -> what", "known 1 4 1 -> what", "known  4 -> what", "known 1  -> what", "talk s- -> s-", "known 1 4 -> 3", "limit 2 -> none", "known 1 2 -> 1", "known 1 3 -> no", "limit 9 -> none", "known 1 9 -> no", "known 3 6 -> no", "known 4 4 -> 9", "known 2 8 -> 10", "true 2 8 -> s-p-s-p-s-p-s-p-s-p+", "known 3 4 -> 7", "true 3 4 -> s-p-s-p-s-p-s+", "known 2 6 -> 8", "true 2 6 -> s-p-s-p-s-p-s-p+", "limit 40 -> none", "known 1 40 -> no", "known 6 6 -> no", "known 2 2 -> 3")
}

func TestLinesOfRatios(t *testing.T) {
	converse(t, "ratios 1:1 -> 1:1", "least -> 1,1", "ratios 100:100 -> 100:100", "least -> 1,1", "ratios 1:1,1:1,1:1,1:1,1:1,1:1 -> 1:1,1:1,1:1,1:1,1:1,1:1", "least -> 1,1,1,1,1,1,1", "ratios 1:1,1:1,1:1,1:1,1:1,1:1,1:1 -> what", "ratios 1 -> what", "ratios 1:0 -> what", "ratios 0:1 -> what", "ratios 101:1 -> what", "ratios 1:101 -> what", "ratios 01:2 -> what", "ratios 1/2 -> what", "ratios 1:2, -> what", "ratios -> what", "ratios  -> what", "ratios 1:2 2:1 -> what", "ratios  1:2 -> what", "ratios 1:2  -> what", "least -> 1,1,1,1,1,1,1", "ratios 4:2,2:4 -> 4:2,2:4", "least -> 2,1,2")
	converse(t, "until 40 12 -> 44/1", "until 12 40 -> no", "until 41 12 -> 46/1", "until 120 0 -> 240/1", "until 0 120 -> no", "until 121 0 -> no", "until 0 121 -> no", "until 40 40 -> no", "until 0 0 -> no", "until 999999 12 -> no", "until 40 999999 -> no", "until 40 1000000 -> what", "until 40 -> what", "until 40 12 2 -> what", "until  12 -> what", "until 40  -> what", "ratios 3:1 -> 3:1", "until 40 12 -> 2/1", "until 50 20 -> -5/1", "until 50 21 -> -13/2", "until 36 12 -> 0/1", "ratios 5:2 -> 5:2", "until 40 12 -> 20/3", "until 50 21 -> -5/3", "until 12 40 -> no", "until 50 20 -> 0/1", "ratios 1:1 -> 1:1", "until 40 12 -> no", "until 40 40 -> no", "ratios 4:2,1:3 -> 4:2,1:3", "until 40 12 -> 16/1", "until 40 20 -> 0/1", "ratios 1:2 -> 1:2", "until 12 40 -> 16/1", "until 40 12 -> no", "until 40 50 -> -30/1", "ratios 100:99 -> 100:99", "until 120 0 -> 11880/1", "until 120 119 -> -20/1", "ratios 2:1 -> 2:1", "until 10 10 -> no", "until 10 9 -> -8/1", "until 10 6 -> -2/1")
	converse(t, "from 60 -> 36 24 1", "from 61 -> 183 122 5", "from 1 -> 3 2 5", "from 0 -> no", "from 5 -> 3 2 1", "from 1000 -> 600 400 1", "from 1001 -> no", "from 999999 -> no", "from -> what", "from  -> what", "from 60 1 -> what", "ratios 1:1 -> 1:1", "from 1 -> 1 1 2", "from 2 -> 1 1 1", "ratios 100:100 -> 100:100", "from 7 -> 7 7 2", "ratios 3:6 -> 3:6", "from 9 -> 3 6 1", "from 10 -> 10 20 3", "ratios 100:1 -> 100:1", "from 101 -> 100 1 1", "from 1000 -> 100000 1000 101", "ratios 1:100,9:9 -> 1:100,9:9", "from 1000 -> 1000 100000 101")
	converse(t, "gap 10 -> 30 20 1", "gap 1 -> 3 2 1", "gap 0 -> no", "gap 120 -> 360 240 1", "gap 121 -> no", "gap 999999 -> no", "gap -10 -> what", "gap -> what", "gap  -> what", "gap 10 1 -> what", "ratios 2:3 -> 2:3", "gap 10 -> no", "gap 1 -> no", "ratios 1:1 -> 1:1", "gap 10 -> no", "gap 0 -> no", "ratios 4:2 -> 4:2", "gap 7 -> 14 7 1", "ratios 100:99 -> 100:99", "gap 120 -> 12000 11880 1", "ratios 5:2 -> 5:2", "gap 2 -> 10 4 3", "gap 120 -> 200 80 1", "ratios 2:1,1:2 -> 2:1,1:2", "gap 3 -> 6 3 1")
	converse(t, "chain 60 -> 30,20,10", "chain 6 -> 3,2,1", "chain 61 -> no", "chain 5 -> no", "chain 0 -> no", "chain 996 -> 498,332,166", "chain 1000 -> no", "chain 1001 -> no", "chain 1002 -> no", "chain 999999 -> no", "chain -> what", "chain  -> what", "chain 60 1 -> what", "ratios 1:1 -> 1:1", "chain 1 -> no", "chain 2 -> 1,1", "chain 1000 -> 500,500", "ratios 100:1 -> 100:1", "chain 101 -> 100,1", "chain 909 -> 900,9", "chain 1010 -> no", "ratios 1:2,2:1 -> 1:2,2:1", "chain 5 -> no", "chain 4 -> 1,2,1")
	converse(t, "least -> 3,2,1", "ratios 2:3 -> 2:3", "least -> 2,3", "ratios 4:6,6:4 -> 4:6,6:4", "least -> 2,3,2", "ratios 1:2,1:3 -> 1:2,1:3", "least -> 1,2,6", "ratios 100:1,100:1,100:1,100:1,100:1,100:1 -> 100:1,100:1,100:1,100:1,100:1,100:1", "least -> 1000000000000,10000000000,100000000,1000000,10000,100,1", "ratios 1:100,1:100,1:100,1:100,1:100,1:100 -> 1:100,1:100,1:100,1:100,1:100,1:100", "least -> 1,100,10000,1000000,100000000,10000000000,1000000000000", "ratios 97:89,83:79,73:71,67:61,59:53,47:43 -> 97:89,83:79,73:71,67:61,59:53,47:43", "least -> 109193643893,100187982541,95359646033,92747052991,84441346753,75854091151,69398423819", "least 1 -> what", "least  -> what")
	converse(t, "life 9 -> no", "lives -> no", "ratios 1:6,1:12,1:7,1:2 -> 1:6,1:12,1:7,1:2", "life 9 -> 84/1", "life 1 -> 28/3", "life 0 -> no", "life 200 -> 5600/3", "life 201 -> no", "life 999999 -> no", "life 1000000 -> what", "life -> what", "life  -> what", "life 9 1 -> what", "lives -> 84,168", "lives 1 -> what", "lives  -> what", "ratios 1:2 -> 1:2", "life 9 -> 18/1", "life 1 -> 2/1", "lives -> 2,4,6,8,10,12,14,16,18,20,22,24,26,28,30,32,34,36,38,40,42,44,46,48,50,52,54,56,58,60,62,64,66,68,70,72,74,76,78,80,82,84,86,88,90,92,94,96,98,100,102,104,106,108,110,112,114,116,118,120,122,124,126,128,130,132,134,136,138,140,142,144,146,148,150,152,154,156,158,160,162,164,166,168,170,172,174,176,178,180,182,184,186,188,190,192,194,196,198,200", "ratios 4:64 -> 4:64", "lives -> 16,32,48,64,80,96,112,128,144,160,176,192", "ratios 1:3 -> 1:3", "life 9 -> 27/2", "life 1 -> 3/2", "ratios 1:100 -> 1:100", "lives -> 100,200", "life 200 -> 20000/99", "ratios 1:97,1:89 -> 1:97,1:89", "life 9 -> 77697/8447", "lives -> -")
	converse(t, "ratios 1:2,1:2 -> 1:2,1:2", "life 9 -> no", "lives -> no", "ratios 1:2,1:3,1:7 -> 1:2,1:3,1:7", "life 1 -> 42/1", "lives -> 42,84,126,168", "ratios 1:2,1:3,1:6 -> 1:2,1:3,1:6", "life 1 -> no", "lives -> no", "ratios 99:100 -> 99:100", "life 1 -> 100/1", "lives -> 100,200", "ratios 100:100 -> 100:100", "life 1 -> no", "lives -> no", "ratios 1:6,1:6,1:6,1:6,1:6,1:6 -> 1:6,1:6,1:6,1:6,1:6,1:6", "life 1 -> no", "lives -> no", "ratios 1:7,1:7,1:7,1:7,1:7,1:7 -> 1:7,1:7,1:7,1:7,1:7,1:7", "life 1 -> 7/1", "ratios 1:67 -> 1:67", "lives -> 67,134", "ratios 100:99 -> 100:99", "life 1 -> no", "lives -> no")
}

func TestLinesThatAreNotKnown(t *testing.T) {
	converse(t, " -> what", "  -> what", "   -> what", "    -> what", "fly -> what", "fly 1 -> what", "Sum -> what", "SUM -> what", "su -> what", "summ -> what", "sums  -> what", "s -> what", "no -> what", "what -> what", "none -> what", "- -> what", "-- -> what", "0 -> what", "1 -> what", "61 -> what", "ages40 -> what", "ages-40 -> what", "ages,40 -> what", "40-12-9 -> what")
	converse(t, "ages\t40 -> what", "sum\t -> what", "\tsum -> what", "sum\r -> what", "\rsum -> what", "sum\x00 -> what", "\x00sum -> what", "sum\x0b -> what", "\x01 -> what", "\x1f -> what", "\x7f -> what", "\x80 -> what", "\xff -> what", "sum\xff -> what", "\xffsum -> what", "sum\xc3\xa9 -> what", "\xef\xbb\xbfsum -> what", "sum;mean -> what", "sum,mean -> what", "sum mean -> what", "mean sum -> what", "sum sum -> what", "ages ages -> what", "A -> what", "ages A -> what", "N -> what", "say U -> what", "on D -> what", "sum -> 61")
}

// Each good line of the table is told with blanks, words and numbers that are none.
func TestWordsOfLines(t *testing.T) {
	for _, line := range goodLines() {
		if _, reply := holdLine(t, goodDesk(line), line); isRefusal(reply) {
			t.Errorf("%q is %q", line, reply)
		}
		name := nameOf(line)
		for _, bad := range []string{line + " ", line + "  ", " " + line, "  " + line, line + " 0", line + " 1", line + " x", line + " " + line, line + "\t", "\t" + line, line + "\r", line + "\x00", strings.ToUpper(line), strings.ReplaceAll(line, name, strings.ToUpper(name[:1])+name[1:]), strings.ReplaceAll(line, name, name+"x"), strings.ReplaceAll(line, name, name[:len(name)-1]+"x"), strings.ReplaceAll(line, name, "x"+name), strings.ReplaceAll(line, name, name+":"), strings.ReplaceAll(line, name, "\xff"+name)} {
			wantRefused(t, goodDesk(line), bad, "what")
		}
		if !strings.Contains(line, " ") {
			continue
		}
		words := strings.Split(line, " ")
		for _, bad := range []string{strings.ReplaceAll(line, " ", "  "), strings.Replace(line, " ", "  ", 1), strings.ReplaceAll(line, " ", "\t"), strings.ReplaceAll(line, " ", ","), strings.ReplaceAll(line, " ", ""), strings.ReplaceAll(line, " ", "\u00a0"), name, strings.Join(words[:len(words)-1], " ")} {
			wantRefused(t, goodDesk(line), bad, "what")
		}
		if name != "talk" {
			wantRefused(t, goodDesk(line), strings.Join(words[:len(words)-1], " ")+" ", "what")
		}
	}
}

func TestWordsThatAreNone(t *testing.T) {
	for _, line := range goodLines() {
		for place, letter := range []byte(lettersOf(line)) {
			bad := badNumbersInLines()
			if strings.IndexByte("NKM", letter) < 0 {
				bad = badWords(letter)
			}
			for _, word := range bad {
				words := strings.Split(line, " ")
				words[place+1] = word
				wantRefused(t, goodDesk(line), strings.Join(words, " "), "what")
				// A wrong word counts more than another one with which a function fails.
				for other, also := range []byte(lettersOf(line)) {
					if other != place && strings.IndexByte("NKM", also) >= 0 {
						words[other+1] = "999999"
						wantRefused(t, goodDesk(line), strings.Join(words, " "), "what")
					}
				}
			}
		}
	}
}

func TestGreatestNumberOfLines(t *testing.T) {
	for _, line := range goodLines() {
		for place, letter := range []byte(lettersOf(line)) {
			if strings.IndexByte("NKM", letter) < 0 {
				continue
			}
			words := strings.Split(line, " ")
			words[place+1] = "1000000"
			wantRefused(t, goodDesk(line), strings.Join(words, " "), "what")
			words[place+1] = "999999"
			if nameOf(line) != "product" {
				wantRefused(t, goodDesk(line), strings.Join(words, " "), "no")
			}
		}
	}
	d := deskOf("100-100-100", exampleBirths, 4, "", exampleChain)
	for _, row := range [][2]string{{"product 999999", "-1"}, {"product 970298", "-2"}, {"product 970299", "-1"}} {
		if _, reply := holdLine(t, d, row[0]); reply != row[1] {
			t.Errorf("%q is %q, not %q", row[0], reply, row[1])
		}
	}
}

func TestLimitOfLines(t *testing.T) {
	for most := 0; most <= greatestLimit+2; most++ {
		d := deskOf(exampleAges, exampleBirths, 7, "p-s+", exampleChain)
		line := "limit " + strconv.Itoa(most)
		if most < leastLimit || most > greatestLimit {
			wantRefused(t, d, line, "no")
			continue
		}
		after, reply := holdLine(t, d, line)
		if after.Limit != most || after.Talk != "" || reply != "none" {
			t.Errorf("%q is %v, %q", line, after, reply)
		}
	}
}

func TestTalkThatGetsTooLong(t *testing.T) {
	d := exampleDesk()
	for count := 1; count <= greatestTalk; count++ {
		statement := allStatements()[count%6]
		after, reply := holdLine(t, d, "say "+statement)
		if reply != d.Talk+statement || after.Talk != reply {
			t.Errorf("%q, %q behind it", reply, after.Talk)
		}
		d = after
	}
	for _, statement := range allStatements() {
		wantRefused(t, d, "say "+statement, "no")
	}
	wantRefused(t, d, "say s-s-", "what")
	wantRefused(t, d, "say ", "what")
}

func TestDeskLineFails(t *testing.T) {
	for _, d := range badDesks() {
		for _, line := range []string{"sum", "left", "life 9", "fly", "", "ages 5", "births 0.1", "limit 4", "talk p-", "talk ", "ratios 1:2", "sum\n", strings.Repeat("x", longestScript+1)} {
			wantNoLine(t, d, line)
		}
	}
	for _, d := range goodDesks() {
		for _, line := range []string{"\n", "\n\n", "sum\n", "\nsum", "su\nm", "sum\nmean", "ages 5\n", "ages\n5", "ages \n5", "fly\n", "talk \n", strings.Repeat("x", longestScript+1), strings.Repeat(" ", longestScript+1), "sum" + strings.Repeat(" ", longestScript-2), strings.Repeat("x", longestScript-1) + "\n", strings.Repeat("\n", longestScript), strings.Repeat("x", 1000000)} {
			wantNoLine(t, d, line)
		}
		for _, line := range []string{strings.Repeat("x", longestScript), strings.Repeat("x", longestScript-1), strings.Repeat(" ", longestScript), "sum" + strings.Repeat(" ", longestScript-3), "ages " + strings.Repeat("1", longestScript-5), "talk " + strings.Repeat("s", longestScript-5), "later " + strings.Repeat("0", longestScript-6)} {
			wantRefused(t, d, line, "what")
		}
	}
}

func TestScriptEdges(t *testing.T) {
	for _, row := range []struct {
		script  string
		replies []string
		failed  []int
	}{
		{"", nil, nil},
		{"\n", []string{"what"}, ages(1)},
		{"\n\n", []string{"what", "what"}, ages(1, 2)},
		{"sum\n", []string{"61"}, nil},
		{"fly\n", []string{"what"}, ages(1)},
		{"ago 10\n", []string{"no"}, ages(1)},
		{"sum\n\n", []string{"61", "what"}, ages(2)},
		{"\nsum\n", []string{"what", "61"}, ages(1)},
		{"sum\n\nsum\n", []string{"61", "what", "61"}, ages(2)},
		{"sum\r\nsum\n", []string{"what", "61"}, ages(1)},
		{"sum\nmean\norder\n", []string{"61", "61/3", "0,1,2"}, nil},
		{"ago 10\nfly\nages\n", []string{"no", "what", "what"}, ages(1, 2, 3)},
		{"sum\nago 10\nago 9\nago 1\nfly\nsum\n", []string{"61", "no", "31-3-0", "no", "what", "34"}, ages(2, 4, 5)},
		{"talk \ntalk\ntalk p-\nsay p-s-\nsay s+\n", []string{"none", "what", "p-", "what", "p-s+"}, ages(2, 4)},
		{"\x00\n\xff\n\x80\x81\nsum\n", []string{"what", "what", "what", "61"}, ages(1, 2, 3)},
		{" \nsum \n sum\n", []string{"what", "what", "what"}, ages(1, 2, 3)},
		{strings.Repeat("later 1\n", 3), []string{"41-13-10", "42-14-11", "43-15-12"}, nil},
		{scriptOfBytes(1, longestScript), []string{"what"}, ages(1)},
		{scriptOfBytes(1, longestScript-1), []string{"what"}, ages(1)},
		{scriptOfBytes(2, longestScript), []string{"what", "what"}, ages(1, 2)},
		{scriptOfBytes(mostLines, longestScript), slices.Repeat([]string{"what"}, mostLines), everyLine()},
		{strings.Repeat("\n", mostLines), slices.Repeat([]string{"what"}, mostLines), everyLine()},
		{strings.Repeat("\n", mostLines-1), slices.Repeat([]string{"what"}, mostLines-1), everyLine()[:mostLines-1]},
		{strings.Repeat("sum\n", mostLines), slices.Repeat([]string{"61"}, mostLines), nil},
		{strings.Repeat("sum\n", mostLines-1) + "fly\n", append(slices.Repeat([]string{"61"}, mostLines-1), "what"), ages(mostLines)},
		{"fly\n" + strings.Repeat("sum\n", mostLines-1), append([]string{"what"}, slices.Repeat([]string{"61"}, mostLines-1)...), ages(1)},
		{strings.Repeat("sum\nfly\n", mostLines/2), slices.Repeat([]string{"61", "what"}, mostLines/2), numbersWhen(1, mostLines, func(n int) bool { return n%2 == 0 })},
		{strings.Repeat("ago 10\nsum\n", mostLines/2), slices.Repeat([]string{"no", "61"}, mostLines/2), numbersWhen(1, mostLines, func(n int) bool { return n%2 == 1 })},
	} {
		replies, ok := impl.RunScript(row.script)
		wantTexts(t, "RunScript", replies, ok, row.replies...)
		numbers, ok := impl.FailedLines(row.script)
		wantInts(t, "FailedLines", numbers, ok, row.failed...)
	}
	for _, script := range badScripts() {
		wantNoScript(t, script)
	}
}

func TestDeskAfterEdges(t *testing.T) {
	for _, row := range []struct {
		script string
		want   impl.Desk
	}{
		{"", exampleDesk()},
		{"\n", exampleDesk()},
		{"sum\nleft\nlives\nfly\n", exampleDesk()},
		{"ages 5\n", deskOf("5", exampleBirths, 4, "", exampleChain)},
		{"later 2\n", deskOf("42-14-11", exampleBirths, 4, "", exampleChain)},
		{"ago 9\nago 1\n", deskOf("31-3-0", exampleBirths, 4, "", exampleChain)},
		{"add 33\n", deskOf("40-12-9-33", exampleBirths, 4, "", exampleChain)},
		{"drop 0\n", deskOf("12-9", exampleBirths, 4, "", exampleChain)},
		{"births 0.1,3000.365\n", deskOf(exampleAges, "0.1,3000.365", 4, "", exampleChain)},
		{"limit 40\n", deskOf(exampleAges, exampleBirths, 40, "", exampleChain)},
		{"limit 41\n", exampleDesk()},
		{"talk p-s+\n", deskOf(exampleAges, exampleBirths, 4, "p-s+", exampleChain)},
		{"talk p-s+\nlimit 4\n", exampleDesk()},
		{"talk p-s+\nlimit 41\n", deskOf(exampleAges, exampleBirths, 4, "p-s+", exampleChain)},
		{"talk p-s+\ntalk \n", exampleDesk()},
		{"talk p-s+\ntalk\n", deskOf(exampleAges, exampleBirths, 4, "p-s+", exampleChain)},
		{"say p-\nsay s+\n", deskOf(exampleAges, exampleBirths, 4, "p-s+", exampleChain)},
		{"ratios 1:6,1:12,1:7,1:2\n", lifeDesk()},
		{"ages 5\nbirths 0.1\nlimit 40\ntalk p-\nratios 2:4\n", deskOf("5", "0.1", 40, "p-", "2:4")},
		{"ratios 2:4\ntalk p-\nlimit 40\nbirths 0.1\nages 5\n", deskOf("5", "0.1", 40, "", "2:4")},
		{strings.Repeat("later 1\n", mostLines), deskOf("90-62-59", exampleBirths, 4, "", exampleChain)},
		{scriptOfBytes(mostLines, longestScript), exampleDesk()},
	} {
		d, ok := impl.DeskAfter(row.script)
		wantDesk(t, "DeskAfter", d, ok, row.want)
	}
}

func everyLine() []int { return numbersWhen(1, mostLines, func(int) bool { return true }) }
