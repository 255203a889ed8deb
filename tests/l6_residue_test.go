package tests

import (
	"fmt"
	"math"
	"math/big"
	"slices"
	"testing"

	"loop.example/g01293/impl"
)

var noPowers = []int{math.MinInt, -1, impl.MaxPower + 1, impl.MaxTold, impl.MaxWide, 64, math.MaxInt}

var noWides = []int{math.MinInt, -1, impl.MaxWide + 1, 64, math.MaxInt}

var noModuli = []int{math.MinInt, -1, 0, impl.MaxModulus + 1, math.MaxInt}

var noSieveLimits = []int{math.MinInt, -1, 2001, impl.MaxNumber, math.MaxInt}

// toldFallOf returns behind how many signs a residue falls, or 0 if it is left.
func toldFallOf(m impl.Map, residue int, power int) int {
	w, _ := toldWord(m, residue, power)
	for signs := 1; signs <= power; signs++ {
		if toldFalls(m, w[:signs]) {
			return signs
		}
	}
	return 0
}

// toldFallsOf returns this for each residue.
func toldFallsOf(m impl.Map, power int) []int {
	falls := make([]int, 1<<power)
	for residue := range falls {
		falls[residue] = toldFallOf(m, residue, power)
	}
	return falls
}

// toldCounts returns how many words of 0, 1, 2, .. MaxWide signs are left, and how many fall behind just so many.
func toldCounts(m impl.Map) (left []int, falling []int) {
	withOdds := map[int]int{0: 1}
	left, falling = []int{1}, []int{0}
	for signs := 1; signs <= impl.MaxWide; signs++ {
		next := map[int]int{}
		countLeft, countFalling := 0, 0
		for odds, count := range withOdds {
			for _, more := range []int{0, 1} {
				if toldPower(m.Times, odds+more).Cmp(toldPower(2, signs)) < 0 {
					countFalling += count
				} else {
					countLeft += count
					next[odds+more] += count
				}
			}
		}
		withOdds = next
		left, falling = append(left, countLeft), append(falling, countFalling)
	}
	return left, falling
}

// toldFirstLess returns the least number of short steps, at most steps, behind which a number is less, or 0 if there is none, and whether a number is behind all of them.
func toldFirstLess(m impl.Map, n int, steps int) (int, bool) {
	path := toldPath(toldShort, m, n, steps)
	first := toldFirst(path, func(at int) bool { return at < n })
	return max(first, 0), len(path) == steps+1
}

// toldKeeps goes by what the residues modulo a power fall behind. The second result is false if a number leaves the numbers.
func toldKeeps(m impl.Map, n int, power int, falls []int) (bool, bool) {
	fall := falls[n%len(falls)]
	steps := fall
	if fall == 0 {
		steps = power
	}
	first, areNumbers := toldFirstLess(m, n, steps)
	return first == fall, areNumbers
}

func toldResidue(n int, modulus int) int {
	residue := n % modulus
	if residue < 0 {
		residue += modulus
	}
	return residue
}

// toldNextResidues tries numbers on both sides of 0, for each residue.
func toldNextResidues(m impl.Map, modulus int) [][]int {
	lists := make([][]int, modulus)
	for n := -4 * modulus; n < 4*modulus; n++ {
		residue := toldResidue(n, modulus)
		lists[residue] = append(lists[residue], toldResidue(toldNext(m, n), modulus))
	}
	for residue := range lists {
		slices.Sort(lists[residue])
		lists[residue] = slices.Compact(lists[residue])
	}
	return lists
}

// toldIsBehind tells for each two residues whether the second one can be reached from the first one behind at least one step.
func toldIsBehind(next [][]int) [][]bool {
	is := make([][]bool, len(next))
	for residue := range is {
		is[residue] = make([]bool, len(next))
		for _, behind := range next[residue] {
			is[residue][behind] = true
		}
	}
	for over := range next {
		for from := range next {
			for to := range next {
				is[from][to] = is[from][to] || is[from][over] && is[over][to]
			}
		}
	}
	return is
}

// toldWhere returns the residues of which has is true.
func toldWhere(modulus int, has func(int) bool) []int {
	var list []int
	for residue := range modulus {
		if has(residue) {
			list = append(list, residue)
		}
	}
	return list
}

func TestExampleOfResidues(t *testing.T) {
	for _, residue := range []int{0, 2, 8, 14} {
		wantResults(t, fmt.Sprint("even ", residue), results(impl.FallOfResidue(threeUp, residue, 4)), 1)
	}
	wantResults(t, "1 modulo 4", results(impl.FallOfResidue(threeUp, 1, 2)), 2)
	wantResults(t, "3 modulo 16", results(impl.FallOfResidue(threeUp, 3, 4)), 4)
	for i, want := range []int{1, 1, 0, 1} {
		wantResults(t, fmt.Sprint("falling at ", i+1), results(impl.CountFallingAt(threeUp, i+1)), want)
	}
	for i, want := range []int{1, 1, 2, 3, 4} {
		wantResults(t, fmt.Sprint("left of ", i+1), results(impl.CountLeft(threeUp, i+1)), want)
	}
	wantResults(t, "left", results(impl.LeftResidues(threeUp, 4)), []int{7, 11, 15})
	wantResults(t, "share", results(impl.LeftShare(threeUp, 4)), 3, 16)
	wantPairs(t, "fallen", results(impl.FallenResidues(threeUp, 4)), [][]int{{3, 9, 2}})
	wantResults(t, "1 keeps", results(impl.KeepsToResidue(threeUp, 1, 2)), false)
	wantResults(t, "5 keeps", results(impl.KeepsToResidue(threeUp, 5, 2)), true)
	wantResults(t, "strays", results(impl.StrayNumbers(threeUp, 2, 2000)), []int{1})
	wantResults(t, "sieve", results(impl.SieveUpTo(threeUp, 4, 30)), []int{7, 11, 15, 23, 27})
	wantResults(t, "within", results(impl.FallsWithin(threeUp, 3, 4)), 4)
	wantNumbers(t, "never", false, results(impl.ResiduesNever(threeUp, 3)), nil)
	wantResults(t, "next", results(impl.ResiduesNext(threeUp, 3, 2)), []int{1})
	wantResults(t, "reached", results(impl.ResiduesReached(threeUp, 3, 2)), []int{1, 2})
	wantResults(t, "loops", results(impl.LoopResidues(threeUp, 3)), []int{0, 1, 2})
}

func TestResiduesFallAsTheirWordsDo(t *testing.T) {
	for _, m := range allMaps() {
		for power := range impl.MaxPower + 1 {
			falls := toldFallsOf(m, power)
			var left []int
			for residue, fall := range falls {
				name := fmt.Sprint("FallOfResidue ", m, residue, power)
				if power < 8 || residue%37 == 0 || residue == len(falls)-1 {
					wantUnless(t, name, fall == 0, results(impl.FallOfResidue(m, residue, power)), fall)
				}
				if fall == 0 {
					left = append(left, residue)
				}
			}
			name := fmt.Sprint(m, power)
			wantNumbers(t, "LeftResidues "+name, false, results(impl.LeftResidues(m, power)), left)
			wantResults(t, "CountLeft "+name, results(impl.CountLeft(m, power)), len(left))
			for _, limit := range []int{0, 1, 2, 7, 100, 2000} {
				want := slices.DeleteFunc(toldUpToLimit(limit), func(n int) bool { return falls[n%len(falls)] != 0 })
				wantNumbers(t, fmt.Sprint("SieveUpTo ", name, limit), false, results(impl.SieveUpTo(m, power, limit)), want)
			}
		}
	}
}

func toldUpToLimit(limit int) []int {
	var list []int
	for n := 1; n <= limit; n++ {
		list = append(list, n)
	}
	return list
}

func TestFallsOfResidues(t *testing.T) {
	oneUp, sevenDown, nineUp := impl.Map{Times: 1, Plus: 1}, impl.Map{Times: 7, Plus: -5}, impl.Map{Times: 9, Plus: 1}
	for _, c := range []struct {
		name                 string
		m                    impl.Map
		residue, power, fall int
	}{
		{"0", threeUp, 0, 1, 1}, {"0 of MaxPower", threeUp, 0, impl.MaxPower, 1}, {"greatest even one", threeUp, 4094, impl.MaxPower, 1},
		{"behind just power signs", threeUp, 11, 5, 5}, {"behind fewer", threeUp, 11, 6, 5}, {"behind fewer of MaxPower", threeUp, 2059, impl.MaxPower, 5},
		{"behind MaxPower signs", threeUp, 231, impl.MaxPower, 12}, {"1 modulo 2 by Times 1", oneUp, 1, 1, 1}, {"greatest one by Times 1", oneUp, 4095, impl.MaxPower, 1},
		{"3 by 3x-1", threeDown, 3, 2, 2}, {"13 by 3x-1", threeDown, 13, 4, 4}, {"by 7x-5", sevenDown, 39, 6, 6}, {"by 9x+1", nineUp, 7, 4, 4},
		{"by 9x+1 behind 10", nineUp, 1139, impl.MaxPower, 10},
	} {
		wantResults(t, c.name, results(impl.FallOfResidue(c.m, c.residue, c.power)), c.fall)
	}
	wantFailed(t, map[string][]any{
		"left": results(impl.FallOfResidue(threeUp, 7, 4)), "left of one sign": results(impl.FallOfResidue(threeUp, 1, 1)),
		"modulo 1": results(impl.FallOfResidue(threeUp, 0, 0)), "modulo 1 by Times 1": results(impl.FallOfResidue(oneUp, 0, 0)),
		"not yet": results(impl.FallOfResidue(threeUp, 11, 4)), "all o": results(impl.FallOfResidue(threeUp, 4095, impl.MaxPower)),
		"1 by 3x-1": results(impl.FallOfResidue(threeDown, 1, impl.MaxPower)), "3 by 9x+1": results(impl.FallOfResidue(nineUp, 3, 6)),
	})
}

func TestCountsOfResiduesUpToMaxWide(t *testing.T) {
	for _, m := range allMaps() {
		left, falling := toldCounts(m)
		for power := range impl.MaxWide + 1 {
			name := fmt.Sprint(m, power)
			wantResults(t, "CountLeft "+name, results(impl.CountLeft(m, power)), left[power])
			share := big.NewRat(int64(left[power]), 1<<power)
			wantResults(t, "LeftShare "+name, results(impl.LeftShare(m, power)), int(share.Num().Int64()), int(share.Denom().Int64()))
			wantUnless(t, "CountFallingAt "+name, power == 0, results(impl.CountFallingAt(m, power)), falling[power])
		}
	}
}

func TestCountsOfSomePowers(t *testing.T) {
	for _, c := range []struct {
		times, power, left, falling int
		num, den                    int
	}{
		{3, 1, 1, 1, 1, 2}, {3, 3, 2, 0, 1, 4}, {3, 12, 226, 30, 113, 2048}, {3, 13, 367, 85, 367, 8192},
		{3, impl.MaxWide - 1, 6385637, 663535, 6385637, 1 << 29}, {3, impl.MaxWide, 12771274, 0, 6385637, 1 << 29},
		{5, 28, 55224290, 996158, 27612145, 1 << 27}, {5, impl.MaxWide, 220897160, 0, 27612145, 1 << 27}, {7, 29, 164150525, 478907, 164150525, 1 << 29},
		{7, impl.MaxWide, 328301050, 0, 164150525, 1 << 29}, {9, 29, 208074382, 330330, 104037191, 1 << 28}, {9, impl.MaxWide, 416148764, 0, 104037191, 1 << 28},
		{9, 3, 4, 0, 1, 2}, {1, 1, 0, 2, 0, 1}, {1, 2, 0, 0, 0, 1}, {1, impl.MaxWide, 0, 0, 0, 1},
	} {
		for _, plus := range []int{-9, -1, 1, 7} {
			m := impl.Map{Times: c.times, Plus: plus}
			name := fmt.Sprint(m, c.power)
			wantResults(t, "left "+name, results(impl.CountLeft(m, c.power)), c.left)
			wantResults(t, "falling "+name, results(impl.CountFallingAt(m, c.power)), c.falling)
			wantResults(t, "share "+name, results(impl.LeftShare(m, c.power)), c.num, c.den)
		}
	}
	for _, m := range allMaps() {
		wantResults(t, "left of power 0", results(impl.CountLeft(m, 0)), 1)
		wantResults(t, "share of power 0", results(impl.LeftShare(m, 0)), 1, 1)
		wantFailed(t, map[string][]any{fmt.Sprint(m, " falling at 0"): results(impl.CountFallingAt(m, 0))})
	}
}

func TestResiduesThatAreLeft(t *testing.T) {
	oneUp, nineDown := impl.Map{Times: 1, Plus: 9}, impl.Map{Times: 9, Plus: -9}
	for _, c := range []struct {
		m     impl.Map
		power int
		want  []int
	}{
		{threeUp, 0, []int{0}}, {threeUp, 1, []int{1}}, {threeUp, 2, []int{3}}, {threeUp, 3, []int{3, 7}}, {threeUp, 5, []int{7, 15, 27, 31}},
		{threeDown, 4, []int{1, 5, 9}}, {oneUp, 0, []int{0}}, {oneUp, 1, nil}, {oneUp, impl.MaxPower, nil},
		{nineDown, 2, []int{1, 3}}, {nineDown, 3, []int{1, 3, 5, 7}}, {nineDown, 4, []int{3, 5, 7, 9, 11, 13, 15}},
	} {
		wantNumbers(t, fmt.Sprint(c.m, c.power), false, results(impl.LeftResidues(c.m, c.power)), c.want)
	}
	for _, c := range []struct {
		m            impl.Map
		power, limit int
		want         []int
	}{
		{threeUp, 0, 0, nil}, {threeUp, 0, 1, []int{1}}, {threeUp, 0, 3, []int{1, 2, 3}}, {oneUp, 0, 2, []int{1, 2}}, {oneUp, 1, 2000, nil},
		{threeUp, 4, 6, nil}, {threeUp, 4, 7, []int{7}}, {threeUp, 3, 8, []int{3, 7}}, {threeUp, 2, 16, []int{3, 7, 11, 15}}, {threeUp, impl.MaxPower, 31, []int{27, 31}},
		{threeDown, 2, 10, []int{1, 5, 9}}, {nineDown, 4, 20, []int{3, 5, 7, 9, 11, 13, 15, 19}}, {nineDown, 4, 0, nil},
	} {
		wantNumbers(t, fmt.Sprint("sieve ", c.m, c.power, c.limit), false, results(impl.SieveUpTo(c.m, c.power, c.limit)), c.want)
	}
}

func TestFallenResidues(t *testing.T) {
	for _, m := range allMaps() {
		for power := 1; power <= impl.MaxPower; power++ {
			var want [][]int
			for residue, fall := range toldFallsOf(m, power) {
				if fall == power {
					path := toldPath(toldShort, m, residue, power)
					next := toldPath(toldShort, m, residue+1<<power, power)
					want = append(want, []int{residue, next[power] - path[power], path[power]})
				}
			}
			wantPairs(t, fmt.Sprint("FallenResidues ", m, power), results(impl.FallenResidues(m, power)), want)
		}
	}
}

func TestRowsOfFallenResidues(t *testing.T) {
	oneUp := impl.Map{Times: 1, Plus: 1}
	for _, c := range []struct {
		m     impl.Map
		power int
		want  [][]int
	}{
		{threeUp, 1, [][]int{{0, 1, 0}}}, {threeUp, 2, [][]int{{1, 3, 1}}}, {threeUp, 3, nil}, {threeUp, 5, [][]int{{11, 27, 10}, {23, 27, 20}}},
		{threeUp, 6, nil}, {threeUp, 7, [][]int{{7, 81, 5}, {15, 81, 10}, {59, 81, 38}}}, {threeUp, 11, nil},
		{threeDown, 2, [][]int{{3, 3, 2}}}, {impl.Map{Times: 3, Plus: -9}, 2, [][]int{{3, 3, 0}}}, {impl.Map{Times: 3, Plus: -7}, 2, [][]int{{1, 3, -1}}},
		{oneUp, 1, [][]int{{0, 1, 0}, {1, 1, 1}}}, {oneUp, 2, nil}, {oneUp, impl.MaxPower, nil}, {impl.Map{Times: 1, Plus: -9}, 1, [][]int{{0, 1, 0}, {1, 1, -4}}},
		{impl.Map{Times: 9, Plus: 1}, 2, nil}, {impl.Map{Times: 9, Plus: 1}, 4, [][]int{{7, 9, 4}}}, {impl.Map{Times: 9, Plus: 1}, impl.MaxPower, nil},
	} {
		wantPairs(t, fmt.Sprint(c.m, c.power), results(impl.FallenResidues(c.m, c.power)), c.want)
	}
	for _, m := range someMaps {
		wantFailed(t, map[string][]any{fmt.Sprint(m, " power 0"): results(impl.FallenResidues(m, 0))})
		for power := 1; power <= impl.MaxPower; power++ {
			rows, _ := impl.FallenResidues(m, power)
			for _, row := range rows {
				w, _ := impl.WordOfResidue(m, row[0], power)
				wantResults(t, fmt.Sprint("BehindWord ", m, row, w), results(impl.BehindWord(m, w)), row[1], row[2])
			}
		}
	}
}

func TestFallsWithinSoManyShortSteps(t *testing.T) {
	numbers := sampleNumbers()
	for n := -900; n <= 900; n++ {
		numbers = append(numbers, n)
	}
	isThere := map[int]bool{}
	for _, m := range allMaps() {
		for _, n := range numbers {
			for _, steps := range []int{1, 2, 3, 4, 5, 12, impl.MaxWide - 1, impl.MaxWide} {
				first, _ := toldFirstLess(m, n, steps)
				isThere[first] = true
				if got, ok := impl.FallsWithin(m, n, steps); got != first || ok != (first > 0) {
					t.Error("FallsWithin", m, n, steps, got, ok, "want", first)
				}
			}
		}
	}
	for steps := range impl.MaxWide + 1 {
		if !isThere[steps] {
			t.Error("the test has no number that falls behind", steps)
		}
	}
}

func TestNumbersThatFallWithin(t *testing.T) {
	for _, c := range []struct {
		name            string
		m               impl.Map
		n, steps, first int
	}{
		{"even", threeUp, 2, 1, 1}, {"even of more steps", threeUp, 2, impl.MaxWide, 1}, {"1 modulo 4", threeUp, 5, 2, 2}, {"just", threeUp, 3, 4, 4},
		{"late", threeUp, 167, 29, 29}, {"late of more steps", threeUp, 167, impl.MaxWide, 29}, {"MaxNumber", threeUp, impl.MaxNumber, 1, 1},
		{"at once below 0", threeUp, -3, 1, 1}, {"1 by 3x-9", impl.Map{Times: 3, Plus: -9}, 1, 1, 1}, {"1 by 1x-9", impl.Map{Times: 1, Plus: -9}, 1, 2, 1},
		// By 3x-1 this number comes to MaxNumber, and by 3x+1 that of the other sign to -MaxNumber.
		{"to MaxNumber", threeDown, 666666666667, 2, 2}, {"to -MaxNumber", threeUp, -666666666667, 1, 1},
	} {
		wantResults(t, c.name, results(impl.FallsWithin(c.m, c.n, c.steps)), c.first)
	}
	wantFailed(t, map[string][]any{
		"too few": results(impl.FallsWithin(threeUp, 3, 3)), "too few by one": results(impl.FallsWithin(threeUp, 167, 28)),
		"31": results(impl.FallsWithin(threeUp, 111, impl.MaxWide)), "31 steps": results(impl.FallsWithin(threeUp, 2, impl.MaxWide+1)),
		"0 steps": results(impl.FallsWithin(threeUp, 2, 0)), "-1 steps": results(impl.FallsWithin(threeUp, 2, -1)),
		"on the cycle": results(impl.FallsWithin(threeUp, 1, impl.MaxWide)), "0": results(impl.FallsWithin(threeUp, 0, impl.MaxWide)),
		"up to 0": results(impl.FallsWithin(threeUp, -4, impl.MaxWide)), "never": results(impl.FallsWithin(impl.Map{Times: 9, Plus: -9}, 3, impl.MaxWide)),
		// 3x+1 takes 999999999997 to what is none, and this would be halved to less; the other one is less at once, but is none.
		"past MaxNumber": results(impl.FallsWithin(threeUp, 999999999997, impl.MaxWide)), "past -MaxNumber": results(impl.FallsWithin(threeUp, -999999999997, impl.MaxWide)),
	})
}

func TestNumbersThatKeepToTheirResidue(t *testing.T) {
	numbers := slices.DeleteFunc(sampleNumbers(), func(n int) bool { return n <= 0 })
	for n := 41; n <= 200; n++ {
		numbers = append(numbers, n)
	}
	for n := impl.MaxNumber - 100; n <= impl.MaxNumber; n++ {
		numbers = append(numbers, n, 2*n/3, n/3)
	}
	for _, m := range allMaps() {
		for power := range impl.MaxPower + 1 {
			falls := toldFallsOf(m, power)
			for _, n := range numbers {
				keeps, areNumbers := toldKeeps(m, n, power, falls)
				if got, ok := impl.KeepsToResidue(m, n, power); ok != areNumbers || got != (keeps && areNumbers) {
					t.Error("KeepsToResidue", m, n, power, got, ok, "want", keeps, areNumbers)
				}
			}
		}
	}
}

func TestSomeNumbersThatKeepToTheirResidue(t *testing.T) {
	nineDown, sevenDown := impl.Map{Times: 9, Plus: -9}, impl.Map{Times: 7, Plus: -9}
	for _, c := range []struct {
		name     string
		m        impl.Map
		n, power int
		keeps    bool
	}{
		{"even", threeUp, 2, 1, true}, {"even of MaxPower", threeUp, 2, impl.MaxPower, true}, {"1 of one sign", threeUp, 1, 1, true}, {"1 of MaxPower", threeUp, 1, impl.MaxPower, false},
		{"left", threeUp, 7, 4, true}, {"falls later than is looked", threeUp, 27, impl.MaxPower, true}, {"left of one sign, falls later", threeUp, 5, 1, true},
		{"behind 12", threeUp, 231, impl.MaxPower, true}, {"behind 11, not yet", threeUp, 231, impl.MaxPower - 1, true}, {"same residue", threeUp, 4096 + 231, impl.MaxPower, true},
		{"any of power 0", threeUp, 2, 0, true}, {"1 of power 0 by 3x-9", impl.Map{Times: 3, Plus: -9}, 1, 0, true}, {"MaxNumber of power 0", threeUp, impl.MaxNumber, 0, true},
		{"left, but less", impl.Map{Times: 3, Plus: -9}, 1, 1, false}, {"left, but less behind two", impl.Map{Times: 3, Plus: -9}, 13, 4, false},
		{"sooner than its residue", impl.Map{Times: 3, Plus: -3}, 1, 4, false}, {"later than its residue", impl.Map{Times: 3, Plus: 9}, 9, 4, false},
		{"comes to 0", nineDown, 1, 1, false}, {"left by 9x-9", nineDown, 3, impl.MaxPower, true}, {"11 by 7x-9", sevenDown, 11, impl.MaxPower, false},
		{"all by 1x-9", impl.Map{Times: 1, Plus: -9}, 1, 1, true}, {"9 by 1x+9", impl.Map{Times: 1, Plus: 9}, 9, 1, false}, {"11 by 1x+9", impl.Map{Times: 1, Plus: 9}, 11, 1, true},
		{"to MaxNumber", threeDown, 666666666667, 2, true}, {"MaxNumber", threeUp, impl.MaxNumber, impl.MaxPower, true},
		{"before it is none", threeUp, impl.MaxNumber - 3, 0, true},
	} {
		wantResults(t, c.name, results(impl.KeepsToResidue(c.m, c.n, c.power)), c.keeps)
	}
	wantFailed(t, map[string][]any{
		"none behind the first step": results(impl.KeepsToResidue(threeUp, impl.MaxNumber-3, 2)), "left, none behind it": results(impl.KeepsToResidue(threeUp, impl.MaxNumber-3, 1)),
		"none behind the second one": results(impl.KeepsToResidue(threeUp, 500000000003, 2)), "0": results(impl.KeepsToResidue(threeUp, 0, 1)),
		"0 of power 0": results(impl.KeepsToResidue(threeUp, 0, 0)), "-1": results(impl.KeepsToResidue(threeUp, -1, 1)), "-MaxNumber": results(impl.KeepsToResidue(threeUp, -impl.MaxNumber, 1)),
	})
	wantResults(t, "one before none", results(impl.KeepsToResidue(threeUp, 500000000003, 1)), true)
}

func TestStrayNumbers(t *testing.T) {
	for _, m := range allMaps() {
		for power := 1; power <= impl.MaxPower; power++ {
			falls := toldFallsOf(m, power)
			strays := slices.DeleteFunc(toldUpToLimit(2000), func(n int) bool {
				keeps, areNumbers := toldKeeps(m, n, power, falls)
				if !areNumbers {
					t.Error(m, n, "leaves the numbers within", power)
				}
				return keeps
			})
			for _, limit := range []int{0, 1, 2, 6, 30, 179, 2000} {
				want := slices.DeleteFunc(slices.Clone(strays), func(n int) bool { return n > limit })
				wantNumbers(t, fmt.Sprint("StrayNumbers ", m, power, limit), false, results(impl.StrayNumbers(m, power, limit)), want)
			}
		}
		wantFailed(t, map[string][]any{fmt.Sprint(m, " power 0"): results(impl.StrayNumbers(m, 0, 1)), fmt.Sprint(m, " power and limit 0"): results(impl.StrayNumbers(m, 0, 0))})
	}
}

func TestSomeStrayNumbers(t *testing.T) {
	for _, c := range []struct {
		m            impl.Map
		power, limit int
		want         []int
	}{
		{threeUp, 1, 2000, nil}, {threeUp, 2, 2000, []int{1}}, {threeUp, impl.MaxPower, 2000, []int{1}}, {threeUp, 2, 0, nil}, {threeUp, 2, 1, []int{1}},
		{threeDown, impl.MaxPower, 2000, nil}, {impl.Map{Times: 3, Plus: -9}, 1, 2000, []int{1, 3, 5, 7}},
		{impl.Map{Times: 3, Plus: -9}, impl.MaxPower, 2000, []int{1, 3, 5, 7, 13, 21, 29, 37}}, {impl.Map{Times: 3, Plus: -9}, impl.MaxPower, 29, []int{1, 3, 5, 7, 13, 21, 29}},
		{impl.Map{Times: 3, Plus: -9}, impl.MaxPower, 28, []int{1, 3, 5, 7, 13, 21}}, {impl.Map{Times: 3, Plus: 9}, 4, 2000, []int{1, 5, 9}},
		{impl.Map{Times: 1, Plus: 5}, 7, 2000, []int{1, 3, 5}}, {impl.Map{Times: 1, Plus: -5}, 7, 2000, nil}, {impl.Map{Times: 9, Plus: -9}, 1, 2000, []int{1}},
		{impl.Map{Times: 9, Plus: 9}, impl.MaxPower, 2000, nil}, {impl.Map{Times: 5, Plus: 1}, impl.MaxPower, 2000, []int{1, 13, 17}},
	} {
		wantNumbers(t, fmt.Sprint(c.m, c.power, c.limit), false, results(impl.StrayNumbers(c.m, c.power, c.limit)), c.want)
	}
}

func TestNumbersGoAsTheirResidueTellsButForStrays(t *testing.T) {
	for _, m := range someMaps {
		for power := 1; power <= impl.MaxPower; power++ {
			strays, _ := impl.StrayNumbers(m, power, 2000)
			for n := 1; n <= 2000; n++ {
				if slices.Contains(strays, n) {
					continue
				}
				fall, _ := impl.FallOfResidue(m, n%(1<<power), power)
				if first, _ := impl.FallsWithin(m, n, power); first != fall {
					t.Error(m, n, power, "is less behind", first, "not", fall)
				}
			}
		}
	}
}

func TestResiduesOfNextNumbers(t *testing.T) {
	for _, m := range allMaps() {
		for modulus := 1; modulus <= impl.MaxModulus; modulus++ {
			next := toldNextResidues(m, modulus)
			isBehind := toldIsBehind(next)
			for residue := range modulus {
				name := fmt.Sprint(m, modulus, residue)
				wantResults(t, "ResiduesNext "+name, results(impl.ResiduesNext(m, modulus, residue)), next[residue])
				reached := toldWhere(modulus, func(to int) bool { return to == residue || isBehind[residue][to] })
				wantResults(t, "ResiduesReached "+name, results(impl.ResiduesReached(m, modulus, residue)), reached)
			}
			name := fmt.Sprint(m, modulus)
			never := toldWhere(modulus, func(to int) bool {
				return !slices.ContainsFunc(next, func(list []int) bool { return slices.Contains(list, to) })
			})
			wantNumbers(t, "ResiduesNever "+name, false, results(impl.ResiduesNever(m, modulus)), never)
			loops := toldWhere(modulus, func(residue int) bool { return isBehind[residue][residue] })
			wantResults(t, "LoopResidues "+name, results(impl.LoopResidues(m, modulus)), loops)
		}
	}
}

func TestResiduesOfSomeModuli(t *testing.T) {
	sixty := impl.MaxModulus
	for _, c := range []struct {
		m                impl.Map
		modulus, residue int
		next, reached    []int
	}{
		{threeUp, 1, 0, []int{0}, []int{0}}, {threeUp, 2, 0, []int{0, 1}, []int{0, 1}}, {threeUp, 2, 1, []int{0}, []int{0, 1}},
		{threeUp, 3, 0, []int{0, 1}, []int{0, 1, 2}}, {threeUp, 3, 1, []int{1, 2}, []int{1, 2}}, {threeUp, 6, 4, []int{2, 5}, []int{1, 2, 4, 5}},
		{threeUp, 6, 3, []int{4}, []int{1, 2, 3, 4, 5}}, {threeUp, 6, 0, []int{0, 3}, []int{0, 1, 2, 3, 4, 5}}, {threeDown, 5, 0, []int{0, 4}, []int{0, 1, 2, 3, 4}},
		{threeUp, sixty, 59, []int{58}, nil}, {threeUp, sixty, 0, []int{0, 30}, nil}, {impl.Map{Times: 9, Plus: -9}, sixty, 1, []int{0}, nil},
		{impl.Map{Times: 9, Plus: -9}, 59, 0, []int{0, 50}, nil}, {impl.Map{Times: 1, Plus: -9}, sixty, 1, []int{52}, nil},
		{impl.Map{Times: 3, Plus: 9}, sixty, 3, []int{18}, nil}, {impl.Map{Times: 1, Plus: 1}, 3, 1, []int{2}, []int{0, 1, 2}},
	} {
		name := fmt.Sprint(c.m, c.modulus, c.residue)
		wantResults(t, "next "+name, results(impl.ResiduesNext(c.m, c.modulus, c.residue)), c.next)
		if c.reached != nil {
			wantResults(t, "reached "+name, results(impl.ResiduesReached(c.m, c.modulus, c.residue)), c.reached)
		}
	}
	wantResults(t, "loops modulo 1", results(impl.LoopResidues(threeUp, 1)), []int{0})
	wantResults(t, "loops modulo 2", results(impl.LoopResidues(threeUp, 2)), []int{0, 1})
	// Modulo 6 just 0 comes to 3, and none but 0 to 0.
	wantResults(t, "loops modulo 6", results(impl.LoopResidues(threeUp, 6)), []int{0, 1, 2, 4, 5})
	for modulus := 1; modulus <= impl.MaxModulus; modulus++ {
		wantNumbers(t, fmt.Sprint("never ", modulus), false, results(impl.ResiduesNever(threeDown, modulus)), nil)
	}
}

// powerCalls has all calls of the chapter that take a power.
func powerCalls(m impl.Map, power int, n int) map[string][]any {
	return map[string][]any{
		"FallOfResidue": results(impl.FallOfResidue(m, n, power)), "CountFallingAt": results(impl.CountFallingAt(m, power)), "CountLeft": results(impl.CountLeft(m, power)),
		"LeftShare": results(impl.LeftShare(m, power)), "LeftResidues": results(impl.LeftResidues(m, power)), "FallenResidues": results(impl.FallenResidues(m, power)),
		"KeepsToResidue": results(impl.KeepsToResidue(m, n, power)), "StrayNumbers": results(impl.StrayNumbers(m, power, n)), "SieveUpTo": results(impl.SieveUpTo(m, power, n)),
	}
}

// modulusCalls has those that take a modulus.
func modulusCalls(m impl.Map, modulus int, residue int) map[string][]any {
	return map[string][]any{
		"ResiduesNext": results(impl.ResiduesNext(m, modulus, residue)), "ResiduesReached": results(impl.ResiduesReached(m, modulus, residue)),
		"ResiduesNever": results(impl.ResiduesNever(m, modulus)), "LoopResidues": results(impl.LoopResidues(m, modulus)),
	}
}

func TestInvalidArgumentsOfResiduesFail(t *testing.T) {
	valid := []map[string][]any{powerCalls(threeUp, 2, 2), powerCalls(threeUp, impl.MaxPower, 2000), modulusCalls(threeUp, 1, 0), modulusCalls(threeUp, impl.MaxModulus, 59)}
	for _, calls := range valid {
		for name, got := range calls {
			if got[len(got)-1] != true {
				t.Error(name, "failed with valid arguments")
			}
		}
	}
	for _, m := range noMaps {
		wantFailed(t, powerCalls(m, 2, 2))
		wantFailed(t, powerCalls(m, 0, 0))
		wantFailed(t, powerCalls(m, 1, 0))
		wantFailed(t, powerCalls(m, impl.MaxPower, 2000))
		wantFailed(t, modulusCalls(m, 1, 0))
		wantFailed(t, modulusCalls(m, impl.MaxModulus, 59))
		wantFailed(t, map[string][]any{"FallsWithin": results(impl.FallsWithin(m, 2, 1)), "MaxWide": results(impl.FallsWithin(m, -7, impl.MaxWide))})
	}
	for _, power := range noPowers {
		for _, n := range []int{0, 1, 2} {
			wantFailed(t, only(powerCalls(threeUp, power, n), "FallOfResidue", "LeftResidues", "FallenResidues", "KeepsToResidue", "StrayNumbers", "SieveUpTo"))
		}
	}
	for _, power := range noWides {
		wantFailed(t, powerCalls(threeUp, power, 2))
		wantFailed(t, powerCalls(impl.Map{Times: 1, Plus: 1}, power, 0))
	}
	for _, modulus := range noModuli {
		wantFailed(t, modulusCalls(threeUp, modulus, 0))
		wantFailed(t, modulusCalls(threeUp, modulus, 1))
	}
	wantFailed(t, only(powerCalls(threeUp, 0, 1), "CountFallingAt", "FallenResidues", "StrayNumbers"))
}

func TestInvalidNumbersOfResiduesFail(t *testing.T) {
	for power := range impl.MaxPower + 1 {
		for _, residue := range []int{math.MinInt, -1, 1 << power, 1<<power + 2, impl.MaxNumber, math.MaxInt} {
			wantFailed(t, only(powerCalls(threeUp, power, residue), "FallOfResidue"))
		}
		for _, limit := range noSieveLimits {
			wantFailed(t, only(powerCalls(threeUp, power, limit), "StrayNumbers", "SieveUpTo"))
		}
		for _, n := range slices.Concat(noNumbers, []int{-impl.MaxNumber, -7, -1, 0}) {
			wantFailed(t, only(powerCalls(threeUp, power, n), "KeepsToResidue"))
		}
	}
	for modulus := 1; modulus <= impl.MaxModulus; modulus++ {
		for _, residue := range []int{math.MinInt, -1, modulus, modulus + 1, math.MaxInt} {
			wantFailed(t, only(modulusCalls(threeUp, modulus, residue), "ResiduesNext", "ResiduesReached"))
		}
	}
	for _, n := range noNumbers {
		for _, steps := range []int{1, 2, impl.MaxWide} {
			wantFailed(t, map[string][]any{fmt.Sprint(n, steps): results(impl.FallsWithin(threeUp, n, steps))})
		}
	}
	for _, steps := range append([]int{0}, noWides...) {
		for _, n := range []int{2, 8, -3, -impl.MaxNumber + 1} {
			wantFailed(t, map[string][]any{fmt.Sprint(n, steps): results(impl.FallsWithin(threeUp, n, steps))})
		}
	}
}

func TestLimitsOfResiduesMetExactly(t *testing.T) {
	oneUp := impl.Map{Times: 1, Plus: 1}
	wantResults(t, "residue", results(impl.FallOfResidue(oneUp, 1<<impl.MaxPower-1, impl.MaxPower)), 1)
	wantResults(t, "number", results(impl.KeepsToResidue(oneUp, impl.MaxNumber-1, impl.MaxPower)), true)
	wantResults(t, "steps", results(impl.FallsWithin(oneUp, impl.MaxNumber, 1)), 1)
	wantResults(t, "steps to MaxWide", results(impl.FallsWithin(threeUp, 167, impl.MaxWide)), 29)
	wantNumbers(t, "strays", false, results(impl.StrayNumbers(oneUp, impl.MaxPower, 2000)), []int{1})
	all, ok := impl.SieveUpTo(threeUp, 0, 2000)
	wantNumbers(t, "sieve", false, results(all, ok), toldUpToLimit(2000))
	wantResults(t, "next", results(impl.ResiduesNext(oneUp, impl.MaxModulus, impl.MaxModulus-1)), []int{0})
	wantResults(t, "wide", results(impl.LeftShare(oneUp, impl.MaxWide)), 0, 1)
}

func TestNoArgumentOfResiduesPanics(t *testing.T) {
	powers := append([]int{impl.MaxPower, impl.MaxPower + 1, impl.MaxWide, impl.MaxWide + 1, impl.MaxModulus, impl.MaxModulus + 1, 63, 64}, extremes...)
	for _, m := range []impl.Map{{}, {Times: math.MinInt, Plus: math.MaxInt}, {Times: 3}, threeUp, {Times: 9, Plus: -9}, {Times: 1, Plus: -9}, {Times: 7, Plus: 9}} {
		for _, power := range powers {
			for _, n := range slices.Concat(extremes, []int{59, 1999, 2000, 2001, 4095, 4096}) {
				for name, got := range powerCalls(m, power, n) {
					wantNoHalfFailure(t, fmt.Sprint(name, m, power, n), got)
				}
				for name, got := range modulusCalls(m, power, n) {
					wantNoHalfFailure(t, fmt.Sprint(name, m, power, n), got)
				}
				wantNoHalfFailure(t, fmt.Sprint("FallsWithin", m, n, power), results(impl.FallsWithin(m, n, power)))
			}
		}
	}
}

func TestListsOfResiduesAreNew(t *testing.T) {
	wantNewLists(t, func() map[string][]int {
		left, _ := impl.LeftResidues(threeUp, 4)
		strays, _ := impl.StrayNumbers(impl.Map{Times: 3, Plus: 9}, 4, 100)
		sieved, _ := impl.SieveUpTo(threeUp, 2, 20)
		next, _ := impl.ResiduesNext(threeUp, 6, 4)
		single, _ := impl.ResiduesNext(threeUp, 6, 3)
		reached, _ := impl.ResiduesReached(threeUp, 6, 4)
		loops, _ := impl.LoopResidues(threeUp, 6)
		return map[string][]int{"left": left, "strays": strays, "sieved": sieved, "next": next, "single": single, "reached": reached, "loops": loops}
	})
}

func TestRowsOfResiduesShareNothing(t *testing.T) {
	wantOwnRows(t, "fallen", func() ([][]int, bool) { return impl.FallenResidues(threeUp, 7) })
}
