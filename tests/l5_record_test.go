package tests

import (
	"fmt"
	"math"
	"math/big"
	"slices"
	"testing"

	"loop.example/g01293/impl"
)

var noRecordLimits = []int{math.MinInt, -1, 0, impl.MaxLimit + 1, impl.MaxSteps, math.MaxInt}

var noStepCounts = []int{math.MinInt, -1, impl.MaxSteps + 1, math.MaxInt}

// lostUp and lostDown are maps by which all numbers greater than 0 are lost.
var lostUp = impl.Map{Times: 9, Plus: 1}
var lostDown = impl.Map{Times: 7, Plus: -1}

// wantPairs is wantNumbers for a list of pairs, for a call that succeeds.
func wantPairs(t *testing.T, name string, got []any, want [][]int) {
	t.Helper()
	pairs, isPairs := got[0].([][]int)
	if !isPairs || got[1] != true || !slices.EqualFunc(pairs, want, slices.Equal[[]int]) {
		t.Errorf("%s: got %v, want %v and true", name, got, want)
	}
}

// toldWhole returns the whole path of a number, with the number that comes again at its end, and behind how many steps the least one of its cycle is, or false if it is lost.
func toldWhole(m impl.Map, n int) ([]int, int, bool) {
	lead, cycle, comes := toldLoop(m, n)
	if !comes {
		return nil, 0, false
	}
	path := toldPath(toldNext, m, n, lead+len(cycle))
	return path, slices.Index(path, cycle[0]), true
}

// toldOne is what a number up to a limit has: needs and fall may be -1.
type toldOne struct {
	n, needs, peak, fall int
}

func (one toldOne) isLost() bool { return one.needs < 0 }

// toldUpTo tells of 1, 2, .. MaxLimit.
func toldUpTo(m impl.Map) []toldOne {
	var all []toldOne
	for n := 1; n <= impl.MaxLimit; n++ {
		path, needs, comes := toldWhole(m, n)
		one := toldOne{n: n, needs: needs}
		if !comes {
			one.needs = -1
		} else {
			one.peak = slices.Max(path)
		}
		one.fall = toldFirst(toldPath(toldNext, m, n, impl.MaxSteps), func(at int) bool { return at < n })
		all = append(all, one)
	}
	return all
}

func toldNeeds(one toldOne) int { return one.needs }

func toldPeak(one toldOne) int { return one.peak }

func toldFall(one toldOne) int { return one.fall }

func toldList(all []toldOne, has func(toldOne) int) []int {
	var list []int
	for _, one := range all {
		list = append(list, has(one))
	}
	return list
}

// toldRecords compares each number with each lesser one.
func toldRecords(all []toldOne, has func(toldOne) int) [][]int {
	var records [][]int
	for i, one := range all {
		isOne := !one.isLost()
		for _, lesser := range all[:i] {
			isOne = isOne && (lesser.isLost() || has(lesser) < has(one))
		}
		if isOne {
			records = append(records, []int{one.n, has(one)})
		}
	}
	return records
}

// toldMost returns the first number that has the most, or 0 if none has anything.
func toldMost(all []toldOne, has func(toldOne) int, isLeftOut func(toldOne) bool) (int, int) {
	left := slices.DeleteFunc(slices.Clone(all), isLeftOut)
	if len(left) == 0 {
		return 0, 0
	}
	most, at := toldBest(toldList(left, has), func(a, b int) bool { return a > b })
	return left[at].n, most
}

// toldRun takes from each number on as many as need the same.
func toldRun(all []toldOne) (int, int) {
	first, longest := 0, 0
	for i, one := range all {
		length := 0
		for i+length < len(all) && !one.isLost() && all[i+length].needs == one.needs {
			length++
		}
		if length > longest {
			first, longest = one.n, length
		}
	}
	return first, longest
}

// toldMean returns 0 and 0 if all are lost.
func toldMean(all []toldOne) (int, int) {
	sum, count := 0, 0
	for _, one := range all {
		if !one.isLost() {
			sum, count = sum+one.needs, count+1
		}
	}
	if count == 0 {
		return 0, 0
	}
	mean := big.NewRat(int64(sum), int64(count))
	return int(mean.Num().Int64()), int(mean.Denom().Int64())
}

func TestExampleOfRecords(t *testing.T) {
	wantPairs(t, "steps", results(impl.StepRecords(threeUp, 10)), [][]int{{1, 0}, {2, 1}, {3, 7}, {6, 8}, {7, 16}, {9, 19}})
	wantPairs(t, "peaks", results(impl.PeakRecords(threeUp, 10)), [][]int{{1, 4}, {3, 16}, {7, 52}})
	wantResults(t, "merge", results(impl.PathsMerge(threeUp, 7, 9)), 7)
	wantResults(t, "merge at 10", results(impl.PathsMerge(threeUp, 3, 13)), 10)
	wantResults(t, "merge steps", results(impl.MergeSteps(threeUp, 3, 13)), 1, 3)
	wantResults(t, "falls", results(impl.FallsOf(threeUp, 5)), []int{-1, 1, 6, 1, 3})
	wantResults(t, "with 1", results(impl.WithSteps(threeUp, 10, 1)), []int{2})
	wantResults(t, "needs", results(impl.StepsNeeded(threeUp, 7)), 16)
	wantResults(t, "slowest", results(impl.SlowestUpTo(threeUp, 10)), 9, 19)
	wantResults(t, "list", results(impl.StepsList(threeUp, 5)), []int{0, 1, 7, 2, 5})
	wantResults(t, "mean", results(impl.MeanSteps(threeUp, 10)), 67, 10)
	wantResults(t, "run", results(impl.LongestRun(threeUp, 14)), 12, 2)
	wantResults(t, "fallen", results(impl.CountFallen(threeUp, 5, 3)), 3)
	wantResults(t, "slowest fall", results(impl.SlowestFall(threeUp, 10)), 7, 11)
	wantResults(t, "peak of all", results(impl.PeakOfAll(threeUp, 10)), 7, 52)
}

func TestRecordsUpToALimit(t *testing.T) {
	for _, m := range allMaps() {
		all := toldUpTo(m)
		for _, limit := range []int{1, 2, 3, 4, 5, 6, 9, 12, 31, 53, 171, impl.MaxLimit} {
			checkRecords(t, m, all[:limit])
			checkMeansAndFalls(t, m, all[:limit])
		}
	}
}

// checkRecords compares all calls that tell which numbers have the most.
func checkRecords(t *testing.T, m impl.Map, all []toldOne) {
	t.Helper()
	limit := len(all)
	name := fmt.Sprint(m, limit)
	wantPairs(t, "StepRecords "+name, results(impl.StepRecords(m, limit)), toldRecords(all, toldNeeds))
	wantPairs(t, "PeakRecords "+name, results(impl.PeakRecords(m, limit)), toldRecords(all, toldPeak))
	n, most := toldMost(all, toldNeeds, toldOne.isLost)
	wantUnless(t, "SlowestUpTo "+name, n == 0, results(impl.SlowestUpTo(m, limit)), n, most)
	n, most = toldMost(all, toldPeak, toldOne.isLost)
	wantUnless(t, "PeakOfAll "+name, n == 0, results(impl.PeakOfAll(m, limit)), n, most)
	n, most = toldMost(all, toldFall, func(one toldOne) bool { return one.fall < 0 })
	wantUnless(t, "SlowestFall "+name, n == 0, results(impl.SlowestFall(m, limit)), n, most)
	n, most = toldRun(all)
	wantUnless(t, "LongestRun "+name, n == 0, results(impl.LongestRun(m, limit)), n, most)
}

// checkMeansAndFalls compares all other calls with a limit.
func checkMeansAndFalls(t *testing.T, m impl.Map, all []toldOne) {
	t.Helper()
	limit := len(all)
	name := fmt.Sprint(m, limit)
	needs, falls := toldList(all, toldNeeds), toldList(all, toldFall)
	wantResults(t, "StepsList "+name, results(impl.StepsList(m, limit)), needs)
	wantResults(t, "FallsOf "+name, results(impl.FallsOf(m, limit)), falls)
	num, den := toldMean(all)
	wantUnless(t, "MeanSteps "+name, den == 0, results(impl.MeanSteps(m, limit)), num, den)
	for _, steps := range []int{0, 1, 2, 3, 4, 17, max(0, slices.Max(needs)), max(0, slices.Max(falls)), impl.MaxSteps} {
		var with []int
		fallen := 0
		for _, one := range all {
			if one.needs == steps {
				with = append(with, one.n)
			}
			if 0 <= one.fall && one.fall <= steps {
				fallen++
			}
		}
		wantNumbers(t, fmt.Sprint("WithSteps ", name, steps), false, results(impl.WithSteps(m, limit, steps)), with)
		wantResults(t, fmt.Sprint("CountFallen ", name, steps), results(impl.CountFallen(m, limit, steps)), fallen)
	}
}

func TestStepsNeeded(t *testing.T) {
	for _, m := range allMaps() {
		for _, n := range sampleNumbers() {
			_, needs, comes := toldWhole(m, n)
			wantUnless(t, fmt.Sprint("StepsNeeded ", m, n), !comes, results(impl.StepsNeeded(m, n)), needs)
		}
	}
	for _, c := range []struct {
		name  string
		m     impl.Map
		n     int
		needs int
	}{
		{"the least one", threeUp, 1, 0}, {"on the cycle", threeUp, 4, 2}, {"behind its first one", threeUp, 8, 3},
		{"least of 18", threeDown, 17, 0}, {"behind the least of 18", threeDown, 50, 17}, {"last of 18", threeDown, 34, 1},
		{"0", threeUp, 0, 0}, {"0 by 9x-9", impl.Map{Times: 9, Plus: -9}, 0, 0}, {"to 0", impl.Map{Times: 3, Plus: -9}, 12, 3},
		{"least below 0", threeUp, -20, 0}, {"cycle below 0", threeUp, -7, 1}, {"below 0", threeUp, -9, 9}, {"-1", threeUp, -1, 1},
		{"across 0", impl.Map{Times: 1, Plus: -9}, 3, 3},
	} {
		wantResults(t, c.name, results(impl.StepsNeeded(c.m, c.n)), c.needs)
	}
}

// See TestStepsOfCyclesMetExactly: last is the first number of this path that is not lost.
func TestStepsNeededMetExactly(t *testing.T) {
	late, _ := impl.NumberAfter(threeUp, 2610744987, 50)
	last := toldNext(threeUp, late)
	if _, needs, comes := toldWhole(threeUp, last); needs != impl.MaxSteps-1 || !comes {
		t.Fatal("the number needs", needs)
	}
	wantResults(t, "last", results(impl.StepsNeeded(threeUp, last)), impl.MaxSteps-1)
	wantResults(t, "last and 1", results(impl.MergeSteps(threeUp, last, 1)), impl.MaxSteps-3, 1)
	wantResults(t, "1 and last", results(impl.MergeSteps(threeUp, 1, last)), 0, impl.MaxSteps-1)
	// late comes to last, but is lost.
	wantFailed(t, map[string][]any{
		"late": results(impl.StepsNeeded(threeUp, late)), "late and last": results(impl.MergeSteps(threeUp, late, last)),
		"last and late": results(impl.MergeSteps(threeUp, last, late)), "late and itself": results(impl.MergeSteps(threeUp, late, late)),
		"where late merges": results(impl.PathsMerge(threeUp, late, last)), "where it does with late": results(impl.PathsMerge(threeUp, last, late)),
		"late and 1": results(impl.PathsMerge(threeUp, late, 1)), "past MaxNumber": results(impl.StepsNeeded(threeUp, 333333333335)),
		"both past MaxNumber": results(impl.PathsMerge(threeUp, 666666666670, 333333333335)),
	})
}

func TestRecordsAreGreaterThanAllBefore(t *testing.T) {
	for _, m := range allMaps() {
		needs, _ := impl.StepsList(m, impl.MaxLimit)
		records, ok := impl.StepRecords(m, impl.MaxLimit)
		for _, record := range records {
			n, steps := record[0], record[1]
			if len(record) != 2 || needs[n-1] != steps || n > 1 && slices.Max(needs[:n-1]) >= steps {
				t.Error(m, record, "is no record")
			}
		}
		if most := slices.Max(needs); !ok || most >= 0 && records[len(records)-1][1] != most {
			t.Error(m, records, ok, "do not end with", most)
		}
	}
}

func TestFirstOnesOfSeveral(t *testing.T) {
	// By 1x-1 3 and 4 need 3 steps, 5 and 6 need 4; by 3x+3 10 and 11 need 10.
	wantResults(t, "slowest", results(impl.SlowestUpTo(impl.Map{Times: 1, Plus: -1}, 6)), 5, 4)
	wantPairs(t, "records", results(impl.StepRecords(impl.Map{Times: 1, Plus: -1}, 6)), [][]int{{1, 1}, {2, 2}, {3, 3}, {5, 4}})
	wantResults(t, "slowest of 12", results(impl.SlowestUpTo(impl.Map{Times: 3, Plus: 3}, 12)), 10, 10)
	wantResults(t, "peak of 1 and 2", results(impl.PeakOfAll(threeUp, 2)), 1, 4)
	wantResults(t, "peak of 27 and 31", results(impl.PeakOfAll(threeUp, 100)), 27, 9232)
	wantResults(t, "fall of 3 and 5", results(impl.SlowestFall(impl.Map{Times: 1, Plus: 1}, 9)), 3, 2)
	wantResults(t, "run of 12 and of 14", results(impl.LongestRun(threeUp, 15)), 12, 2)
}

func TestRecordsThatNoneBreaks(t *testing.T) {
	sevenUp := impl.Map{Times: 7, Plus: 3}
	// By 7x+3 1, 2, 4 and 5 are lost, and 3 is on its cycle.
	wantPairs(t, "3 alone", results(impl.StepRecords(sevenUp, 5)), [][]int{{3, 0}})
	wantResults(t, "slowest", results(impl.SlowestUpTo(sevenUp, 5)), 3, 0)
	wantPairs(t, "peak of 3 alone", results(impl.PeakRecords(sevenUp, 14)), [][]int{{3, 24}})
	wantPairs(t, "peak of 1 alone", results(impl.PeakRecords(impl.Map{Times: 5, Plus: 7}, 26)), [][]int{{1, 1312}})
	wantPairs(t, "peak of 27", results(impl.PeakRecords(impl.Map{Times: 5, Plus: 7}, 27)), [][]int{{1, 1312}, {27, 18472}})
	wantResults(t, "peak of all", results(impl.PeakOfAll(impl.Map{Times: 5, Plus: 7}, 26)), 1, 1312)
	wantPairs(t, "limit 1", results(impl.StepRecords(threeUp, 1)), [][]int{{1, 0}})
	wantPairs(t, "limit 1 by 3x-9", results(impl.StepRecords(impl.Map{Times: 3, Plus: -9}, 1)), [][]int{{1, 5}})
	wantPairs(t, "to 299", results(impl.PeakRecords(threeUp, impl.MaxLimit)), [][]int{{1, 4}, {3, 16}, {7, 52}, {15, 160}, {27, 9232}, {255, 13120}})
}

func TestPeaksOfWholePaths(t *testing.T) {
	oneDown := impl.Map{Times: 1, Plus: -1}
	var want [][]int
	for n := 1; n <= impl.MaxLimit; n++ {
		want = append(want, []int{n, n})
	}
	wantPairs(t, "numbers themselves", results(impl.PeakRecords(oneDown, impl.MaxLimit)), want)
	wantResults(t, "greatest number", results(impl.PeakOfAll(oneDown, impl.MaxLimit)), impl.MaxLimit, impl.MaxLimit)
	wantPairs(t, "doubles themselves", results(impl.PeakRecords(impl.Map{Times: 7, Plus: -7}, 9)), [][]int{{1, 1}, {2, 2}, {4, 4}, {8, 8}})
	// By 3x-1 the cycle of 17 has 272; 5 comes again behind 20, and 9 comes to 56 first.
	wantPairs(t, "on cycles", results(impl.PeakRecords(threeDown, 17)), [][]int{{1, 2}, {3, 8}, {5, 20}, {9, 56}, {17, 272}})
	// By 3x+7 1 comes to 10, and on the cycle of 10 to 5, 22, 11, 40, 20 and 10.
	wantResults(t, "far on the cycle", results(impl.PeakOfAll(impl.Map{Times: 3, Plus: 7}, 1)), 1, 40)
	wantResults(t, "limit 1", results(impl.PeakOfAll(threeUp, 1)), 1, 4)
}

func TestPathsMerge(t *testing.T) {
	numbers := sampleNumbers()
	for _, m := range someMaps {
		for i, a := range numbers {
			for _, apart := range []int{0, 1, 5, 50} {
				checkMerge(t, m, a, numbers[(i+apart)%len(numbers)])
			}
		}
	}
	for _, m := range allMaps() {
		for a := -8; a <= 12; a++ {
			for b := -8; b <= 12; b++ {
				checkMerge(t, m, a, b)
			}
		}
	}
}

func checkMerge(t *testing.T, m impl.Map, a int, b int) {
	t.Helper()
	pathOfA, _, _ := toldWhole(m, a)
	pathOfB, _, _ := toldWhole(m, b)
	merge, stepsOfA, stepsOfB := 0, -1, -1
	for i := len(pathOfA) - 1; i >= 0; i-- {
		if slices.Contains(pathOfB, pathOfA[i]) {
			merge, stepsOfA, stepsOfB = pathOfA[i], slices.Index(pathOfA, pathOfA[i]), slices.Index(pathOfB, pathOfA[i])
		}
	}
	name := fmt.Sprint(m, a, b)
	wantUnless(t, "PathsMerge "+name, stepsOfA < 0, results(impl.PathsMerge(m, a, b)), merge)
	wantUnless(t, "MergeSteps "+name, stepsOfA < 0, results(impl.MergeSteps(m, a, b)), stepsOfA, stepsOfB)
}

func TestWherePathsMerge(t *testing.T) {
	toZero := impl.Map{Times: 3, Plus: -9}
	for _, c := range []struct {
		name               string
		m                  impl.Map
		a, b               int
		merge              int
		stepsOfA, stepsOfB int
	}{
		{"at the first number", threeUp, 7, 9, 7, 0, 3}, {"at the first number of the other one", threeUp, 9, 7, 7, 3, 0},
		{"late", threeUp, 27, 6, 10, 105, 2}, {"late in the other one", threeUp, 1024, 27, 16, 6, 107}, {"behind the first number of a cycle", threeUp, 27, 1, 4, 109, 1},
		{"on one cycle", threeUp, 1, 2, 1, 0, 1}, {"on one cycle, the other way", threeUp, 2, 1, 2, 0, 2},
		{"on one of 18", threeDown, 17, 50, 17, 0, 17}, {"on one of 18, the other way", threeDown, 50, 17, 50, 0, 1},
		{"a number with itself", threeUp, 27, 27, 27, 0, 0}, {"on a cycle with itself", threeUp, 2, 2, 2, 0, 0}, {"MaxNumber", threeUp, impl.MaxNumber, impl.MaxNumber, impl.MaxNumber, 0, 0},
		{"0 with itself", threeUp, 0, 0, 0, 0, 0}, {"at 0", toZero, 6, 0, 0, 2, 0}, {"before 0", toZero, 7, 24, 12, 1, 1},
		{"below 0", threeUp, -9, -7, -14, 7, 4}, {"below 0, the other way", threeUp, -7, -9, -7, 0, 8},
	} {
		wantResults(t, "where: "+c.name, results(impl.PathsMerge(c.m, c.a, c.b)), c.merge)
		wantResults(t, "steps: "+c.name, results(impl.MergeSteps(c.m, c.a, c.b)), c.stepsOfA, c.stepsOfB)
	}
}

func TestPathsThatNeverMerge(t *testing.T) {
	fiveUp := impl.Map{Times: 5, Plus: 1}
	for _, c := range []struct {
		name string
		m    impl.Map
		a, b int
	}{
		{"two cycles", threeDown, 1, 5}, {"into two cycles", threeDown, 11, 9}, {"both sides of 0", threeUp, 1, -1}, {"0 and 1", threeUp, 0, 1},
		{"of one length", fiveUp, 13, 17}, {"one lost", fiveUp, 7, 1}, {"both lost", fiveUp, 7, 14}, {"lost with itself", fiveUp, 7, 7},
	} {
		wantFailed(t, map[string][]any{
			"where: " + c.name: results(impl.PathsMerge(c.m, c.a, c.b)), "steps: " + c.name: results(impl.MergeSteps(c.m, c.a, c.b)),
			"where, the other way: " + c.name: results(impl.PathsMerge(c.m, c.b, c.a)), "steps, the other way: " + c.name: results(impl.MergeSteps(c.m, c.b, c.a)),
		})
	}
}

func TestMeansOfSteps(t *testing.T) {
	sevenUp := impl.Map{Times: 7, Plus: 3}
	for _, c := range []struct {
		m        impl.Map
		limit    int
		num, den int
	}{
		{threeUp, 1, 0, 1}, {threeUp, 2, 1, 2}, {threeUp, 4, 5, 2}, {threeUp, 5, 3, 1}, {threeUp, 100, 1571, 50}, {threeUp, impl.MaxLimit, 14167, 300},
		// By 7x+3 just 3 of the first 5 numbers is not lost, and 6 besides of 7.
		{sevenUp, 3, 0, 1}, {sevenUp, 5, 0, 1}, {sevenUp, 7, 1, 2}, {sevenUp, impl.MaxLimit, 8, 1},
		{impl.Map{Times: 1, Plus: -9}, 1, 9, 1}, {impl.Map{Times: 1, Plus: -9}, 2, 19, 2}, {impl.Map{Times: 7, Plus: -7}, impl.MaxLimit, 5, 1},
	} {
		wantResults(t, fmt.Sprint(c), results(impl.MeanSteps(c.m, c.limit)), c.num, c.den)
	}
}

func TestRunsThatNeedTheSame(t *testing.T) {
	wantResults(t, "of one", results(impl.LongestRun(threeUp, 12)), 1, 1)
	wantResults(t, "of two", results(impl.LongestRun(threeUp, 13)), 12, 2)
	wantResults(t, "up to one before its end", results(impl.LongestRun(threeUp, 29)), 12, 2)
	wantResults(t, "up to its end", results(impl.LongestRun(threeUp, 30)), 28, 3)
	wantResults(t, "of five", results(impl.LongestRun(threeUp, 102)), 98, 5)
	wantResults(t, "of six", results(impl.LongestRun(impl.Map{Times: 3, Plus: 3}, impl.MaxLimit)), 194, 6)
	// By 5x+3 51 and 53 need 0 steps, and 52 is lost; by 7x+7 4 and 6 need 4, and 5 is lost.
	needs, _ := impl.StepsList(impl.Map{Times: 5, Plus: 3}, 53)
	if !slices.Equal(needs[50:], []int{0, -1, 0}) {
		t.Fatal(needs[50:])
	}
	wantResults(t, "parted", results(impl.LongestRun(impl.Map{Times: 5, Plus: 3}, 53)), 1, 1)
	wantResults(t, "parted behind two", results(impl.LongestRun(impl.Map{Times: 7, Plus: 7}, 6)), 2, 2)
	// By 7x+3 4 and 5 are lost, and more beside each other behind them.
	wantResults(t, "behind lost ones", results(impl.LongestRun(impl.Map{Times: 7, Plus: 3}, impl.MaxLimit)), 3, 1)
}

func TestMapsByWhichAllNumbersAreLost(t *testing.T) {
	for _, m := range []impl.Map{lostUp, lostDown} {
		for _, limit := range []int{1, 2, impl.MaxLimit} {
			name := fmt.Sprint(m, limit)
			wantFailed(t, map[string][]any{
				"slowest " + name: results(impl.SlowestUpTo(m, limit)), "mean " + name: results(impl.MeanSteps(m, limit)),
				"run " + name: results(impl.LongestRun(m, limit)), "peak " + name: results(impl.PeakOfAll(m, limit)),
				"needs " + name: results(impl.StepsNeeded(m, limit)),
			})
			wantPairs(t, "steps "+name, results(impl.StepRecords(m, limit)), nil)
			wantPairs(t, "peaks "+name, results(impl.PeakRecords(m, limit)), nil)
			wantResults(t, "list "+name, results(impl.StepsList(m, limit)), slices.Repeat([]int{-1}, limit))
			wantNumbers(t, "with 0 "+name, false, results(impl.WithSteps(m, limit, 0)), nil)
		}
	}
	wantResults(t, "falls of lost ones", results(impl.FallsOf(lostUp, 8)), []int{-1, 1, 9, 1, -1, 1, 5, 1})
	wantResults(t, "slowest fall of them", results(impl.SlowestFall(lostUp, 8)), 3, 9)
	wantResults(t, "0 is not", results(impl.StepsNeeded(lostUp, 0)), 0)
}

func TestMapsByWhichSomeNumbersAreLost(t *testing.T) {
	sevenUp := impl.Map{Times: 7, Plus: 3}
	wantResults(t, "list", results(impl.StepsList(sevenUp, 12)), []int{-1, -1, 0, -1, -1, 1, -1, -1, -1, -1, -1, 2})
	wantPairs(t, "records", results(impl.StepRecords(sevenUp, 30)), [][]int{{3, 0}, {6, 1}, {12, 2}, {15, 10}, {30, 11}})
	wantPairs(t, "peaks", results(impl.PeakRecords(sevenUp, 30)), [][]int{{3, 24}, {15, 192}})
	wantResults(t, "slowest", results(impl.SlowestUpTo(sevenUp, 29)), 15, 10)
	wantFailed(t, map[string][]any{"slowest of lost ones": results(impl.SlowestUpTo(sevenUp, 2)), "peak of lost ones": results(impl.PeakOfAll(sevenUp, 2))})
}

func TestNumbersWithSteps(t *testing.T) {
	for _, c := range []struct {
		m            impl.Map
		limit, steps int
		want         []int
	}{
		{threeUp, impl.MaxLimit, 0, []int{1}}, {threeUp, impl.MaxLimit, 5, []int{5, 32}}, {threeUp, 4, 5, nil}, {threeUp, 5, 5, []int{5}},
		{threeUp, impl.MaxLimit, 127, []int{231, 235}}, {threeUp, impl.MaxLimit, 126, nil}, {threeUp, impl.MaxLimit, impl.MaxSteps, nil},
		{threeDown, impl.MaxLimit, 0, []int{1, 5, 17}}, {impl.Map{Times: 7, Plus: -7}, impl.MaxLimit, 0, nil}, {impl.Map{Times: 7, Plus: -7}, impl.MaxLimit, 9, []int{256}},
	} {
		wantNumbers(t, fmt.Sprint(c), false, results(impl.WithSteps(c.m, c.limit, c.steps)), c.want)
	}
}

func TestFalls(t *testing.T) {
	wantResults(t, "of odd numbers beside even ones", results(impl.FallsOf(impl.Map{Times: 5, Plus: 1}, 8)), []int{-1, 1, 4, 1, -1, 1, -1, 1})
	wantResults(t, "all at once", results(impl.FallsOf(impl.Map{Times: 1, Plus: -9}, impl.MaxLimit)), slices.Repeat([]int{1}, impl.MaxLimit))
	wantResults(t, "limit 1", results(impl.FallsOf(threeUp, 1)), []int{-1})
	for steps, want := range map[int]int{0: 0, 1: 5, 2: 5, 3: 7, 5: 7, 6: 8, 10: 8, 11: 9, impl.MaxSteps: 9} {
		wantResults(t, fmt.Sprint("within ", steps), results(impl.CountFallen(threeUp, 10, steps)), want)
	}
	wantResults(t, "none", results(impl.CountFallen(threeUp, 1, impl.MaxSteps)), 0)
	wantResults(t, "all but 1", results(impl.CountFallen(threeUp, impl.MaxLimit, impl.MaxSteps)), impl.MaxLimit-1)
	wantResults(t, "slowest", results(impl.SlowestFall(threeUp, impl.MaxLimit)), 27, 96)
	wantResults(t, "slowest of two", results(impl.SlowestFall(threeUp, 2)), 2, 1)
	wantResults(t, "1 falls", results(impl.SlowestFall(impl.Map{Times: 1, Plus: -9}, 1)), 1, 1)
	wantFailed(t, map[string][]any{"none": results(impl.SlowestFall(threeUp, 1)), "none by 9x+1": results(impl.SlowestFall(lostUp, 1))})
}

// limitCalls has all calls of the chapter that take a limit.
func limitCalls(m impl.Map, limit int, steps int) map[string][]any {
	return map[string][]any{
		"SlowestUpTo": results(impl.SlowestUpTo(m, limit)), "StepRecords": results(impl.StepRecords(m, limit)), "PeakRecords": results(impl.PeakRecords(m, limit)),
		"StepsList": results(impl.StepsList(m, limit)), "MeanSteps": results(impl.MeanSteps(m, limit)), "WithSteps": results(impl.WithSteps(m, limit, steps)),
		"LongestRun": results(impl.LongestRun(m, limit)), "FallsOf": results(impl.FallsOf(m, limit)), "CountFallen": results(impl.CountFallen(m, limit, steps)),
		"SlowestFall": results(impl.SlowestFall(m, limit)), "PeakOfAll": results(impl.PeakOfAll(m, limit)),
	}
}

// mergeCalls has all other calls of the chapter.
func mergeCalls(m impl.Map, a int, b int) map[string][]any {
	return map[string][]any{
		"StepsNeeded": results(impl.StepsNeeded(m, a)), "PathsMerge": results(impl.PathsMerge(m, a, b)), "MergeSteps": results(impl.MergeSteps(m, a, b)),
	}
}

func TestInvalidArgumentsOfRecordsFail(t *testing.T) {
	for _, calls := range []map[string][]any{limitCalls(threeUp, 2, 0), limitCalls(threeUp, impl.MaxLimit, impl.MaxSteps), mergeCalls(threeUp, 7, 9)} {
		for name, got := range calls {
			if got[len(got)-1] != true {
				t.Error(name, "failed with valid arguments")
			}
		}
	}
	for _, m := range noMaps {
		for _, limit := range []int{1, 2, 10, impl.MaxLimit} {
			wantFailed(t, limitCalls(m, limit, 0))
			wantFailed(t, limitCalls(m, limit, impl.MaxSteps))
		}
		wantFailed(t, mergeCalls(m, 7, 7))
		wantFailed(t, mergeCalls(m, 0, 0))
	}
	for _, limit := range noRecordLimits {
		wantFailed(t, limitCalls(threeUp, limit, 0))
		wantFailed(t, limitCalls(lostUp, limit, impl.MaxSteps))
	}
	for _, steps := range noStepCounts {
		for _, m := range []impl.Map{threeUp, {Times: 7, Plus: 3}, lostUp} {
			wantFailed(t, only(limitCalls(m, 10, steps), "WithSteps", "CountFallen"))
			wantFailed(t, only(limitCalls(m, impl.MaxLimit, steps), "WithSteps", "CountFallen"))
		}
	}
	for _, n := range slices.Concat(noNumbers, noRoots) {
		for _, b := range []int{n, 0, 7} {
			wantFailed(t, mergeCalls(threeUp, n, b))
			wantFailed(t, only(mergeCalls(threeUp, b, n), "PathsMerge", "MergeSteps"))
		}
	}
}

func TestNoArgumentOfRecordsPanics(t *testing.T) {
	limits := append([]int{impl.MaxLimit - 1, impl.MaxLimit, impl.MaxLimit + 1}, extremes...)
	for _, m := range []impl.Map{{}, {Times: math.MinInt, Plus: math.MaxInt}, {Times: 3}, threeUp, {Times: 5, Plus: -5}, {Times: 1, Plus: -9}, lostUp} {
		for _, limit := range limits {
			for name, got := range limitCalls(m, limit, limit) {
				wantNoHalfFailure(t, fmt.Sprint(name, m, limit), got)
			}
			for _, b := range extremes {
				for name, got := range mergeCalls(m, limit, b) {
					wantNoHalfFailure(t, fmt.Sprint(name, m, limit, b), got)
				}
			}
		}
		for _, steps := range extremes {
			for name, got := range limitCalls(m, 9, steps) {
				wantNoHalfFailure(t, fmt.Sprint(name, m, steps), got)
			}
		}
	}
}

func TestListsOfRecordsAreNew(t *testing.T) {
	wantNewLists(t, func() map[string][]int {
		list, _ := impl.StepsList(threeUp, 5)
		with, _ := impl.WithSteps(threeUp, 10, 1)
		falls, _ := impl.FallsOf(threeUp, 5)
		return map[string][]int{"list": list, "with": with, "falls": falls}
	})
}

func TestPairsOfRecordsShareNothing(t *testing.T) {
	wantOwnRows(t, "steps", func() ([][]int, bool) { return impl.StepRecords(threeUp, 10) })
	wantOwnRows(t, "peaks", func() ([][]int, bool) { return impl.PeakRecords(threeUp, 10) })
}
