package tests

import (
	"fmt"
	"math"
	"math/big"
	"slices"
	"testing"

	"loop.example/g01293/impl"
)

var noLevels = []int{math.MinInt, -1, impl.MaxLevel + 1, impl.MaxSteps, math.MaxInt}

// noRoots also have some that odd numbers come to: 333333333335 by 3x+1, and the like.
var noRoots = append([]int{impl.MaxNumber + 2, impl.MaxNumber + 6, -impl.MaxNumber - 2, -impl.MaxNumber - 8}, noNumbers...)

var noTreeLimits = []int{math.MinInt, -impl.MaxNumber, -1, impl.MaxNumber + 1, math.MaxInt}

// someRoots have roots of both parities and signs, small, on cycles, and so great that doubles are none.
var someRoots = []int{
	0, 1, 2, -1, 4, -5, 16, 7, -20, 136, 953674, 139468904, 244140614, -244140618, 1 << 38,
	impl.MaxNumber / 2, 1 + impl.MaxNumber/2, -impl.MaxNumber / 2, impl.MaxNumber - 1, impl.MaxNumber, -impl.MaxNumber,
}

// wantNumbers is wantUnless for a list, which may be empty.
func wantNumbers(t *testing.T, name string, fails bool, got []any, want []int) {
	t.Helper()
	if fails || len(want) > 0 {
		wantUnless(t, name, fails, got, want)
	} else if list, isList := got[0].([]int); !isList || len(list) > 0 || got[1] != true {
		t.Errorf("%s: got %v, want an empty list and true", name, got)
	}
}

// toldBefore tries all numbers that next could take to n.
func toldBefore(next func(impl.Map, int) int, m impl.Map, n int) []int {
	tries := []int{2 * n}
	for near := -10; near <= 10; near++ {
		tries = append(tries, n/m.Times+near, 2*n/m.Times+near)
	}
	before := slices.DeleteFunc(tries, func(x int) bool { return isTooGreat(x) || next(m, x) != n })
	slices.Sort(before)
	return slices.Compact(before)
}

// toldLevelBefore returns the numbers before those of a level, however many they are.
func toldLevelBefore(next func(impl.Map, int) int, m impl.Map, level []int) []int {
	var all []int
	for _, n := range level {
		all = append(all, toldBefore(next, m, n)...)
	}
	slices.Sort(all)
	return all
}

// toldLevels ends before the first level that has more than MaxLeaves numbers, so that it may have fewer levels.
func toldLevels(next func(impl.Map, int) int, m impl.Map, root int) [][]int {
	levels := [][]int{{root}}
	for len(levels) <= impl.MaxLevel {
		level := toldLevelBefore(next, m, levels[len(levels)-1])
		if len(level) > impl.MaxLeaves {
			break
		}
		levels = append(levels, level)
	}
	return levels
}

// toldIsBarren tries many more doubles than any Times needs.
func toldIsBarren(m impl.Map, n int) bool {
	for k := range 70 {
		odd, rest := new(big.Int), new(big.Int)
		odd.Lsh(big.NewInt(int64(n)), uint(k)).Sub(odd, big.NewInt(int64(m.Plus)))
		odd.QuoRem(odd, big.NewInt(int64(m.Times)), rest)
		if rest.Sign() == 0 && odd.Bit(0) == 1 {
			return false
		}
	}
	return true
}

func toldOdds(list []int) []int {
	return slices.DeleteFunc(slices.Clone(list), func(n int) bool { return n%2 == 0 })
}

func TestExampleOfTrees(t *testing.T) {
	wantResults(t, "before", results(impl.NumbersBefore(threeUp, 16)), []int{5, 32})
	wantResults(t, "odd before", results(impl.OddBefore(threeUp, 16)), 5)
	wantResults(t, "sizes", results(impl.LevelSizes(threeUp, 16, 4)), []int{1, 2, 2, 4, 4})
	wantResults(t, "level", results(impl.LevelOf(threeUp, 1, 3)), []int{1, 8})
	wantResults(t, "in level", results(impl.IsInLevel(threeUp, 1, 3, 8)), true)
	wantResults(t, "least", results(impl.LeastOfLevel(threeUp, 1, 3)), 1)
	wantResults(t, "odd ones", results(impl.CountOddOfLevel(threeUp, 1, 3)), 1)
	wantResults(t, "3", results(impl.IsBarren(threeUp, 3)), true)
	wantResults(t, "6", results(impl.IsBarren(threeUp, 6)), true)
	wantResults(t, "5", results(impl.IsBarren(threeUp, 5)), false)
	wantResults(t, "barren", results(impl.BarrenOfLevel(threeUp, 16, 4)), []int{6, 42})
	wantResults(t, "branch", results(impl.BranchOf(threeUp, 4, 4)), []int{1, 5, 21})
	wantResults(t, "short before", results(impl.ShortBefore(threeUp, 8)), []int{5, 16})
	wantResults(t, "short level", results(impl.ShortLevel(threeUp, 1, 3)), []int{2, 8})
	wantResults(t, "tree", results(impl.InTreeUpTo(threeUp, 16, 3, 50)), []int{3, 5, 10, 16, 20, 21, 32})
	wantResults(t, "first", results(impl.FirstLevelOf(threeUp, 16, 4, 3)), 3)
	wantResults(t, "path", results(impl.PathToRoot(threeUp, 16, 4, 3)), []int{3, 10, 5, 16})
}

func TestNumbersBefore(t *testing.T) {
	for _, m := range allMaps() {
		for _, n := range slices.Concat(sampleNumbers(), someRoots) {
			name := fmt.Sprint(m, n)
			before := toldBefore(toldNext, m, n)
			wantNumbers(t, "NumbersBefore "+name, false, results(impl.NumbersBefore(m, n)), before)
			wantNumbers(t, "ShortBefore "+name, false, results(impl.ShortBefore(m, n)), toldBefore(toldShort, m, n))
			odd := append(toldOdds(before), 0)
			wantUnless(t, "OddBefore "+name, len(odd) == 1, results(impl.OddBefore(m, n)), odd[0])
		}
	}
}

// TestEachNumberIsBeforeItsNext goes the other way: nothing is missed that comes to a number.
func TestEachNumberIsBeforeItsNext(t *testing.T) {
	for _, m := range allMaps() {
		for _, n := range sampleNumbers() {
			next, short := toldNext(m, n), toldShort(m, n)
			before, ok := impl.NumbersBefore(m, next)
			if ok == isTooGreat(next) || slices.Contains(before, n) != ok {
				t.Error(m, n, "comes to", next, "that has before it", before, ok)
			}
			before, ok = impl.ShortBefore(m, short)
			if ok == isTooGreat(short) || slices.Contains(before, n) != ok {
				t.Error(m, n, "comes in a short step to", short, "that has before it", before, ok)
			}
		}
	}
}

func TestNumbersBeforeAreIncreasing(t *testing.T) {
	oneDown := impl.Map{Times: 1, Plus: -9}
	wantResults(t, "odd first", results(impl.NumbersBefore(oneDown, 10)), []int{19, 20})
	wantResults(t, "even first", results(impl.NumbersBefore(oneDown, 4)), []int{8, 13})
	wantResults(t, "below 0", results(impl.NumbersBefore(threeDown, -4)), []int{-8, -1})
	wantResults(t, "below 0, odd first", results(impl.NumbersBefore(impl.Map{Times: 1, Plus: 9}, -4)), []int{-13, -8})
	wantResults(t, "short below 0", results(impl.ShortBefore(threeUp, -7)), []int{-14, -5})
	wantResults(t, "short, odd first", results(impl.ShortBefore(oneDown, 10)), []int{20, 29})
}

func TestNumbersBeforeZero(t *testing.T) {
	wantResults(t, "itself alone", results(impl.NumbersBefore(threeUp, 0)), []int{0})
	wantResults(t, "short", results(impl.ShortBefore(threeUp, 0)), []int{0})
	wantResults(t, "less", results(impl.NumbersBefore(impl.Map{Times: 3, Plus: 3}, 0)), []int{-1, 0})
	wantResults(t, "greater", results(impl.NumbersBefore(impl.Map{Times: 3, Plus: -9}, 0)), []int{0, 3})
	wantResults(t, "short greater", results(impl.ShortBefore(impl.Map{Times: 9, Plus: -9}, 0)), []int{0, 1})
	wantResults(t, "odd", results(impl.OddBefore(impl.Map{Times: 3, Plus: -9}, 0)), 3)
	wantFailed(t, map[string][]any{"no odd one": results(impl.OddBefore(threeUp, 0))})
}

func TestOddNumbersBefore(t *testing.T) {
	wantResults(t, "10", results(impl.OddBefore(threeUp, 10)), 3)
	wantResults(t, "below 0", results(impl.OddBefore(threeUp, -2)), -1)
	wantResults(t, "across 0", results(impl.OddBefore(impl.Map{Times: 5, Plus: 7}, 2)), -1)
	wantFailed(t, map[string][]any{
		"8": results(impl.OddBefore(threeUp, 8)), "of odd": results(impl.OddBefore(threeUp, 7)), "of odd by 1x+1": results(impl.OddBefore(impl.Map{Times: 1, Plus: 1}, 7)),
		"below 0": results(impl.OddBefore(threeUp, -4)),
	})
	// By 3x+3 just the numbers that 3 divides have one, by 1x-5 all that are even.
	for n := -30; n <= 30; n += 2 {
		wantUnless(t, fmt.Sprint(n, " by 3x+3"), n%3 != 0, results(impl.OddBefore(impl.Map{Times: 3, Plus: 3}, n)), (n-3)/3)
		wantResults(t, fmt.Sprint(n, " by 1x-5"), results(impl.OddBefore(impl.Map{Times: 1, Plus: -5}, n)), n+5)
	}
}

func TestNumbersBeforeMetExactly(t *testing.T) {
	oneUp, oneDown := impl.Map{Times: 1, Plus: 9}, impl.Map{Times: 1, Plus: -9}
	half := impl.MaxNumber / 2
	wantResults(t, "double", results(impl.NumbersBefore(threeUp, half)), []int{impl.MaxNumber})
	wantResults(t, "double below 0", results(impl.NumbersBefore(threeDown, -half)), []int{-impl.MaxNumber})
	wantResults(t, "odd alone", results(impl.NumbersBefore(threeUp, impl.MaxNumber)), []int{333333333333})
	wantResults(t, "odd alone below 0", results(impl.NumbersBefore(threeDown, -impl.MaxNumber)), []int{-333333333333})
	wantResults(t, "odd less than it", results(impl.NumbersBefore(oneUp, impl.MaxNumber)), []int{impl.MaxNumber - 9})
	wantResults(t, "greatest odd", results(impl.OddBefore(oneDown, impl.MaxNumber-10)), impl.MaxNumber-1)
	wantResults(t, "least odd", results(impl.OddBefore(oneUp, 10-impl.MaxNumber)), 1-impl.MaxNumber)
	wantResults(t, "short", results(impl.ShortBefore(impl.Map{Times: 1, Plus: 1}, half)), []int{impl.MaxNumber - 1, impl.MaxNumber})
	wantResults(t, "short without odd", results(impl.ShortBefore(impl.Map{Times: 1, Plus: -1}, half)), []int{impl.MaxNumber})
	// The short step from 333333333335 halves 1000000000006, which is no number.
	wantResults(t, "short past it", results(impl.ShortBefore(threeUp, 500000000003)), []int{333333333335})
	for name, got := range map[string][]any{
		"not past it": results(impl.NumbersBefore(threeUp, 500000000003)), "odd too great": results(impl.NumbersBefore(oneDown, impl.MaxNumber)),
		"odd too great by 1": results(impl.NumbersBefore(oneDown, impl.MaxNumber-8)), "odd too great below 0": results(impl.NumbersBefore(oneUp, -impl.MaxNumber)),
		"none": results(impl.NumbersBefore(threeUp, impl.MaxNumber-1)), "none below 0": results(impl.NumbersBefore(threeUp, 1-impl.MaxNumber)),
		"short none": results(impl.ShortBefore(threeUp, impl.MaxNumber)), "short odd too great": results(impl.ShortBefore(oneDown, impl.MaxNumber)),
	} {
		wantNumbers(t, name, false, got, nil)
	}
	wantFailed(t, map[string][]any{
		"odd too great": results(impl.OddBefore(oneDown, impl.MaxNumber)), "odd too great by 1": results(impl.OddBefore(oneDown, impl.MaxNumber-8)),
		"odd too great below 0": results(impl.OddBefore(oneUp, 8-impl.MaxNumber)),
	})
}

func TestLevelsOfTrees(t *testing.T) {
	for _, m := range allMaps() {
		roots := someRoots
		if !slices.Contains(someMaps, m) {
			roots = roots[:7]
		}
		for _, root := range roots {
			levels := toldLevels(toldNext, m, root)
			for _, level := range []int{0, 1, 2, 5, 12, 15, 16, 17, impl.MaxLevel} {
				checkLevel(t, m, root, level, levels)
			}
			short := toldLevels(toldShort, m, root)
			for _, level := range []int{0, 1, 2, 9, 10, 11, 12, impl.MaxLevel} {
				fails := level >= len(short)
				wantNumbers(t, fmt.Sprint("ShortLevel ", m, root, level), fails, results(impl.ShortLevel(m, root, level)), lastOf(short, level))
			}
		}
	}
}

// lastOf returns nil if there is no such level.
func lastOf(levels [][]int, level int) []int {
	if level >= len(levels) {
		return nil
	}
	return levels[level]
}

// checkLevel compares all calls that tell of a level of a root. It needs the levels that there are.
func checkLevel(t *testing.T, m impl.Map, root int, level int, levels [][]int) {
	t.Helper()
	name := fmt.Sprint(m, root, level)
	fails := level >= len(levels)
	numbers := lastOf(levels, level)
	wantNumbers(t, "LevelOf "+name, fails, results(impl.LevelOf(m, root, level)), numbers)
	wantUnless(t, "CountOddOfLevel "+name, fails, results(impl.CountOddOfLevel(m, root, level)), len(toldOdds(numbers)))
	least := append(slices.Clone(numbers), 0)[0]
	wantUnless(t, "LeastOfLevel "+name, len(numbers) == 0, results(impl.LeastOfLevel(m, root, level)), least)
	wantUnless(t, "IsInLevel "+name, fails, results(impl.IsInLevel(m, root, level, least)), slices.Contains(numbers, least))
	var sizes []int
	for _, numbers := range levels {
		sizes = append(sizes, len(numbers))
	}
	wantUnless(t, "LevelSizes "+name, fails, results(impl.LevelSizes(m, root, level)), sizes[:min(level+1, len(sizes))])
	if len(numbers) < 300 {
		barren := slices.DeleteFunc(slices.Clone(numbers), func(n int) bool { return !toldIsBarren(m, n) })
		wantNumbers(t, "BarrenOfLevel "+name, fails, results(impl.BarrenOfLevel(m, root, level)), barren)
	}
	all := slices.Concat(levels[:min(level+1, len(levels))]...)
	slices.Sort(all)
	all = slices.Compact(all)
	for _, limit := range []int{0, 1, 100, impl.MaxNumber / 2, impl.MaxNumber} {
		within := slices.DeleteFunc(slices.Clone(all), func(n int) bool { return n > limit || n < -limit })
		wantNumbers(t, fmt.Sprint("InTreeUpTo ", name, limit), fails, results(impl.InTreeUpTo(m, root, level, limit)), within)
	}
}

// TestLevelsHaveAllThatComeToTheRoot takes the steps of each number that is near 0, and knows nothing of numbers before.
func TestLevelsHaveAllThatComeToTheRoot(t *testing.T) {
	limit := 1500
	for _, m := range someMaps {
		for _, root := range []int{0, 1, 2, -5, 10, 16, -28} {
			for _, levels := range []int{0, 1, 8} {
				var within []int
				for n := -limit; n <= limit; n++ {
					path := toldPath(toldNext, m, n, levels)
					if slices.Contains(path, root) {
						within = append(within, n)
					}
					if n%43 == 0 || n == root {
						checkNumberInTree(t, m, root, levels, n, path)
					}
				}
				wantNumbers(t, fmt.Sprint("InTreeUpTo ", m, root, levels), false, results(impl.InTreeUpTo(m, root, levels, limit)), within)
				for _, n := range within {
					checkNumberInTree(t, m, root, levels, n, toldPath(toldNext, m, n, levels))
				}
			}
		}
	}
}

func checkNumberInTree(t *testing.T, m impl.Map, root int, levels int, n int, path []int) {
	t.Helper()
	name := fmt.Sprint(m, root, levels, n)
	first := slices.Index(path, root)
	wantUnless(t, "FirstLevelOf "+name, first < 0, results(impl.FirstLevelOf(m, root, levels, n)), first)
	wantUnless(t, "PathToRoot "+name, first < 0, results(impl.PathToRoot(m, root, levels, n)), path[:first+1])
	wantResults(t, "IsInLevel "+name, results(impl.IsInLevel(m, root, levels, n)), len(path) > levels && path[levels] == root)
}

func TestFirstAndLastLevels(t *testing.T) {
	wantResults(t, "level 0", results(impl.LevelOf(threeUp, 7, 0)), []int{7})
	wantResults(t, "level 0 of MaxNumber", results(impl.LevelOf(threeUp, impl.MaxNumber, 0)), []int{impl.MaxNumber})
	wantResults(t, "short level 0", results(impl.ShortLevel(threeUp, -7, 0)), []int{-7})
	wantResults(t, "size of level 0", results(impl.LevelSizes(threeUp, 7, 0)), []int{1})
	wantResults(t, "first level of the root", results(impl.FirstLevelOf(threeUp, 7, 0, 7)), 0)
	wantResults(t, "path of the root", results(impl.PathToRoot(threeUp, 7, 0, 7)), []int{7})
	wantResults(t, "tree of level 0", results(impl.InTreeUpTo(threeUp, 7, 0, 7)), []int{7})
	sizes := []int{1, 1, 1, 2, 2, 3, 4, 6, 7, 10, 12, 15, 20, 26, 33, 44, 55, 69, 88, 113, 141}
	wantResults(t, "sizes", results(impl.LevelSizes(threeUp, 1, impl.MaxLevel)), sizes)
	wantResults(t, "doubles of 3", results(impl.LevelOf(threeUp, 3, impl.MaxLevel)), []int{3 << 20})
	wantResults(t, "18 is in MaxLevel", results(impl.FirstLevelOf(threeUp, 1, impl.MaxLevel, 18)), impl.MaxLevel)
	path, ok := impl.PathToRoot(threeUp, 1, impl.MaxLevel, 18)
	if !ok || !slices.Equal(path, toldPath(toldNext, threeUp, 18, impl.MaxLevel)) || path[impl.MaxLevel] != 1 {
		t.Error("path of 18", path, ok)
	}
	wantFailed(t, map[string][]any{
		"18 is in none before": results(impl.FirstLevelOf(threeUp, 1, impl.MaxLevel-1, 18)), "its path": results(impl.PathToRoot(threeUp, 1, impl.MaxLevel-1, 18)),
		"25 is in none": results(impl.FirstLevelOf(threeUp, 1, impl.MaxLevel, 25)), "path of 25": results(impl.PathToRoot(threeUp, 1, impl.MaxLevel, 25)),
		"0 is in none": results(impl.FirstLevelOf(threeUp, 1, impl.MaxLevel, 0)),
	})
}

// By 3x+1 no number is before 999999999997, which is odd, and just 333333333333 before MaxNumber.
func TestLevelsThatAreEmpty(t *testing.T) {
	for _, c := range []struct{ root, level int }{{999999999997, 1}, {999999999997, impl.MaxLevel}, {impl.MaxNumber, 3}, {-impl.MaxNumber, 1}} {
		name := fmt.Sprint(c)
		wantNumbers(t, "level "+name, false, results(impl.LevelOf(threeUp, c.root, c.level)), nil)
		wantNumbers(t, "barren "+name, false, results(impl.BarrenOfLevel(threeUp, c.root, c.level)), nil)
		wantResults(t, "odds "+name, results(impl.CountOddOfLevel(threeUp, c.root, c.level)), 0)
		wantResults(t, "is in "+name, results(impl.IsInLevel(threeUp, c.root, c.level, c.root)), false)
		wantFailed(t, map[string][]any{"least " + name: results(impl.LeastOfLevel(threeUp, c.root, c.level))})
	}
	wantNumbers(t, "short", false, results(impl.ShortLevel(threeUp, impl.MaxNumber, 1)), nil)
	wantResults(t, "sizes", results(impl.LevelSizes(threeUp, impl.MaxNumber, 4)), []int{1, 1, 1, 0, 0})
	wantResults(t, "tree", results(impl.InTreeUpTo(threeUp, impl.MaxNumber, impl.MaxLevel, impl.MaxNumber)), []int{333333333333, 666666666666, impl.MaxNumber})
	wantResults(t, "before the empty ones", results(impl.FirstLevelOf(threeUp, impl.MaxNumber, impl.MaxLevel, 666666666666)), 2)
}

// TestStepsPastWhatIsNoNumber has 666666666670, which by 3x+1 comes to 333333333335, then to 1000000000006, and then to 500000000003.
func TestStepsPastWhatIsNoNumber(t *testing.T) {
	root, n := 500000000003, 666666666670
	wantResults(t, "short", results(impl.ShortLevel(threeUp, root, 2)), []int{222222222223, n})
	wantNumbers(t, "steps", false, results(impl.LevelOf(threeUp, root, 3)), nil)
	wantResults(t, "is in", results(impl.IsInLevel(threeUp, root, 3, n)), false)
	wantFailed(t, map[string][]any{"first": results(impl.FirstLevelOf(threeUp, root, impl.MaxLevel, n)), "path": results(impl.PathToRoot(threeUp, root, impl.MaxLevel, n))})
}

func TestRootsInACycle(t *testing.T) {
	for level := range impl.MaxLevel + 1 {
		wantResults(t, fmt.Sprint("1 in ", level), results(impl.IsInLevel(threeUp, 1, level, 1)), level%3 == 0)
		wantResults(t, fmt.Sprint("2 in ", level), results(impl.IsInLevel(threeUp, 1, level, 2)), level%3 == 1)
		wantResults(t, fmt.Sprint("-1 in ", level), results(impl.IsInLevel(threeUp, -1, level, -1)), level%2 == 0)
		wantResults(t, fmt.Sprint("0 in ", level), results(impl.IsInLevel(threeUp, 0, level, 0)), true)
		wantResults(t, fmt.Sprint("all of ", level), results(impl.LevelOf(threeUp, 0, level)), []int{0})
	}
	wantResults(t, "level", results(impl.LevelOf(threeUp, 1, 6)), []int{1, 8, 10, 64})
	wantResults(t, "short level", results(impl.ShortLevel(threeUp, 1, 6)), []int{1, 4, 5, 6, 16, 20, 21, 64})
	wantResults(t, "first of 1", results(impl.FirstLevelOf(threeUp, 1, impl.MaxLevel, 1)), 0)
	wantResults(t, "first of 2", results(impl.FirstLevelOf(threeUp, 1, impl.MaxLevel, 2)), 1)
	wantResults(t, "path of 1", results(impl.PathToRoot(threeUp, 1, impl.MaxLevel, 1)), []int{1})
	wantResults(t, "path of 4", results(impl.PathToRoot(threeUp, 1, impl.MaxLevel, 4)), []int{4, 2, 1})
	wantResults(t, "tree", results(impl.InTreeUpTo(threeUp, 1, 6, 40)), []int{1, 2, 4, 5, 8, 10, 16, 32})
	wantResults(t, "first of 0", results(impl.FirstLevelOf(threeUp, 0, impl.MaxLevel, 0)), 0)
	wantResults(t, "below 0", results(impl.LevelOf(threeUp, -5, 5)), []int{-160, -28, -27, -5})
}

func TestLimitsOfTrees(t *testing.T) {
	wantResults(t, "below 10", results(impl.InTreeUpTo(threeUp, 1, 6, 9)), []int{1, 2, 4, 5, 8})
	wantResults(t, "10", results(impl.InTreeUpTo(threeUp, 1, 6, 10)), []int{1, 2, 4, 5, 8, 10})
	wantResults(t, "below 0", results(impl.InTreeUpTo(threeDown, -1, 6, 10)), []int{-10, -8, -5, -4, -2, -1})
	wantResults(t, "on both sides of 0", results(impl.InTreeUpTo(impl.Map{Times: 5, Plus: 7}, 2, 2, 4)), []int{-2, -1, 2, 4})
	wantResults(t, "0 of 0", results(impl.InTreeUpTo(threeUp, 0, impl.MaxLevel, 0)), []int{0})
	wantResults(t, "0 of a tree with 0", results(impl.InTreeUpTo(impl.Map{Times: 3, Plus: 3}, 0, 3, 0)), []int{0})
	wantNumbers(t, "0 of 1", false, results(impl.InTreeUpTo(threeUp, 1, impl.MaxLevel, 0)), nil)
	half := impl.MaxNumber / 2
	wantResults(t, "MaxNumber", results(impl.InTreeUpTo(threeUp, half, 1, impl.MaxNumber)), []int{half, impl.MaxNumber})
	wantResults(t, "-MaxNumber", results(impl.InTreeUpTo(threeDown, -half, 1, impl.MaxNumber)), []int{-impl.MaxNumber, -half})
	wantResults(t, "less than MaxNumber", results(impl.InTreeUpTo(threeUp, half, 1, impl.MaxNumber-1)), []int{half})
	wantResults(t, "more than -MaxNumber", results(impl.InTreeUpTo(threeDown, -half, 1, impl.MaxNumber-1)), []int{-half})
}

// levelCalls has all calls of the chapter that ask for a level of steps.
func levelCalls(m impl.Map, root int, level int, n int, limit int) map[string][]any {
	return map[string][]any{
		"LevelOf": results(impl.LevelOf(m, root, level)), "LevelSizes": results(impl.LevelSizes(m, root, level)),
		"IsInLevel": results(impl.IsInLevel(m, root, level, n)), "LeastOfLevel": results(impl.LeastOfLevel(m, root, level)),
		"CountOddOfLevel": results(impl.CountOddOfLevel(m, root, level)), "BarrenOfLevel": results(impl.BarrenOfLevel(m, root, level)),
		"InTreeUpTo": results(impl.InTreeUpTo(m, root, level, limit)), "FirstLevelOf": results(impl.FirstLevelOf(m, root, level, n)),
		"PathToRoot": results(impl.PathToRoot(m, root, level, n)),
	}
}

// The roots were searched for: no level was found that has just MaxLeaves numbers, or 1999, or more, but less than 2007.
func TestLeavesOfLevels(t *testing.T) {
	m := impl.Map{Times: 1, Plus: -9}
	wantLeaves(t, m, 244140614, 16, 1998)
	wantLeaves(t, m, 244140618, 16, 1854)
	wantLeaves(t, impl.Map{Times: 1, Plus: 1}, 2, 15, 1597)
	wantLeaves(t, impl.Map{Times: 1, Plus: 1}, 1, 16, 1597)
	if level := toldLevelBefore(toldNext, m, toldLevels(toldNext, m, 244140618)[16]); len(level) != 2007 {
		t.Error("the level 17 has", len(level), "numbers")
	}
	wantFailed(t, levelCalls(m, 244140618, 17, 244140618, 0))
	wantFailed(t, levelCalls(m, 244140614, 17, 244140614, 0))
	wantFailed(t, levelCalls(impl.Map{Times: 1, Plus: 1}, 2, 16, 2, 9))
	wantFailed(t, levelCalls(impl.Map{Times: 1, Plus: 1}, 1, 17, 1, 9))
	wantFailed(t, levelCalls(impl.Map{Times: 1, Plus: -1}, 0, impl.MaxLevel, 0, 9))
}

// wantLeaves requires that a level has so many numbers, and that the calls that ask for it succeed.
func wantLeaves(t *testing.T, m impl.Map, root int, level int, count int) {
	t.Helper()
	sizes, ok := impl.LevelSizes(m, root, level)
	if !ok || sizes[level] != count || slices.Max(sizes) > impl.MaxLeaves {
		t.Error(m, root, level, "has", sizes, ok)
	}
	for name, got := range levelCalls(m, root, level, root, impl.MaxNumber) {
		if got[len(got)-1] != true {
			t.Error(name, m, root, level, "failed")
		}
	}
}

// By 1x+1 MaxLevel of 139468904 has just 1518 numbers, as many doubles are none there, but its level 17 has more than MaxLeaves.
func TestOnlyALevelBeforeHasTooManyLeaves(t *testing.T) {
	m, root := impl.Map{Times: 1, Plus: 1}, 139468904
	numbers := []int{root}
	var sizes []int
	for range impl.MaxLevel {
		numbers = toldLevelBefore(toldNext, m, numbers)
		sizes = append(sizes, len(numbers))
	}
	if slices.Max(sizes) <= impl.MaxLeaves || len(numbers) != 1518 {
		t.Error("the levels have", sizes)
	}
	wantFailed(t, levelCalls(m, root, impl.MaxLevel, root, impl.MaxNumber))
	// By 1x-9 the short level 11 of 353636323 has 2048 numbers, the next one none.
	short := impl.Map{Times: 1, Plus: -9}
	wantFailed(t, map[string][]any{
		"short":                 results(impl.ShortLevel(short, 353636323, 11)),
		"short behind it":       results(impl.ShortLevel(short, 353636323, 12)),
		"short far behind it":   results(impl.ShortLevel(short, 353636323, impl.MaxLevel)),
		"short of a small root": results(impl.ShortLevel(short, 4, 11)),
	})
	for root, count := range map[int]int{4: 1024, 353636323: 1024} {
		if numbers, ok := impl.ShortLevel(short, root, 10); len(numbers) != count || !ok {
			t.Error("short", root, len(numbers), ok)
		}
	}
	if numbers, ok := impl.ShortLevel(short, 488281242, 11); len(numbers) != 1821 || !ok {
		t.Error("short of 1821", len(numbers), ok)
	}
}

func TestBarrenNumbers(t *testing.T) {
	for _, m := range allMaps() {
		numbers := slices.Concat(sampleNumbers(), someRoots)
		for n := -100; n <= 100; n++ {
			numbers = append(numbers, n)
		}
		for _, n := range numbers {
			wantResults(t, fmt.Sprint("IsBarren ", m, n), results(impl.IsBarren(m, n)), toldIsBarren(m, n))
		}
	}
}

// TestNothingButDoublesLeadToBarrenNumbers has numbers so small that all of their levels are those of all sizes.
func TestNothingButDoublesLeadToBarrenNumbers(t *testing.T) {
	for _, m := range allMaps() {
		for n := -30; n <= 30; n++ {
			branch, ok := impl.BranchOf(m, n, 6)
			level, _ := impl.LevelOf(m, n, 7)
			is, isOk := impl.IsBarren(m, n)
			if !ok || !isOk || is != (len(branch) == 0) || is && !slices.Equal(level, []int{n << 7}) {
				t.Error(m, n, "is barren:", is, "but has the branch", branch, "and the level", level)
			}
		}
	}
}

func TestFarDoublesOfBarrenNumbers(t *testing.T) {
	nineUp := impl.Map{Times: 9, Plus: 1}
	// 64 is the first double of 1 to which an odd number, 7, comes by 9x+1; to no double of 3 any does.
	wantResults(t, "branch of 1", results(impl.BranchOf(nineUp, 1, 5)), []int(nil))
	wantResults(t, "far double", results(impl.IsBarren(nineUp, 1)), false)
	wantResults(t, "none", results(impl.IsBarren(nineUp, 3)), true)
	wantResults(t, "far double by 5x+1", results(impl.IsBarren(impl.Map{Times: 5, Plus: 1}, 1)), false)
	wantResults(t, "none by 7x+1", results(impl.IsBarren(impl.Map{Times: 7, Plus: 1}, 3)), true)
	wantResults(t, "at once by 7x+1", results(impl.IsBarren(impl.Map{Times: 7, Plus: 1}, 22)), false)
	wantResults(t, "none of an odd kind", results(impl.IsBarren(impl.Map{Times: 3, Plus: 3}, 4)), true)
	wantResults(t, "those alone that 3 divides", results(impl.IsBarren(impl.Map{Times: 3, Plus: 3}, 6)), false)
	wantResults(t, "0", results(impl.IsBarren(threeUp, 0)), true)
	wantResults(t, "0 by 3x+3", results(impl.IsBarren(impl.Map{Times: 3, Plus: 3}, 0)), false)
	wantResults(t, "below 0", results(impl.IsBarren(threeUp, -3)), true)
	wantResults(t, "not below 0", results(impl.IsBarren(threeUp, -1)), false)
	for n := -20; n <= 20; n++ {
		wantResults(t, fmt.Sprint(n, " by 1x+1"), results(impl.IsBarren(impl.Map{Times: 1, Plus: 1}, n)), false)
	}
}

// TestOddNumbersThatAreNoNumbers has numbers that are not barren, as odd ones of a size greater than MaxNumber come to their doubles.
func TestOddNumbersThatAreNoNumbers(t *testing.T) {
	for _, c := range []struct {
		m impl.Map
		n int
	}{
		{impl.Map{Times: 1, Plus: -9}, impl.MaxNumber}, {impl.Map{Times: 1, Plus: 9}, -impl.MaxNumber}, {impl.Map{Times: 1, Plus: 1}, impl.MaxNumber - 1},
		{threeUp, 999999999997}, {threeDown, -999999999997},
		// By 9x+7 MaxNumber + 1 comes to 16 times 562500000001, and no lesser one to its doubles.
		{impl.Map{Times: 9, Plus: 7}, 562500000001},
	} {
		wantResults(t, fmt.Sprint(c), results(impl.IsBarren(c.m, c.n)), false)
		level, ok := impl.LevelOf(c.m, c.n, impl.MaxLevel)
		if len(level) != 0 || !ok {
			t.Error(c, "has the level", level, ok)
		}
	}
	wantResults(t, "barren", results(impl.IsBarren(threeUp, 999999999999)), true)
	wantResults(t, "barren below 0", results(impl.IsBarren(threeUp, -999999999999)), true)
}

func TestBranches(t *testing.T) {
	for _, m := range allMaps() {
		for _, n := range slices.Concat(sampleNumbers(), someRoots) {
			for _, length := range []int{0, 1, 4, impl.MaxLevel - 1, impl.MaxLevel} {
				var branch []int
				double := n
				for range length {
					branch = append(branch, toldOdds(toldBefore(toldNext, m, double))...)
					double *= 2
				}
				branch = append(branch, toldOdds(toldBefore(toldNext, m, double))...)
				wantNumbers(t, fmt.Sprint("BranchOf ", m, n, length), isTooGreat(double), results(impl.BranchOf(m, n, length)), branch)
			}
		}
	}
}

func TestEndsOfBranches(t *testing.T) {
	oneDown := impl.Map{Times: 1, Plus: -9}
	wantResults(t, "length 0", results(impl.BranchOf(threeUp, 4, 0)), []int{1})
	wantNumbers(t, "length 0 of an odd number", false, results(impl.BranchOf(threeUp, 7, 0)), nil)
	wantNumbers(t, "of a barren number", false, results(impl.BranchOf(threeUp, 3, impl.MaxLevel)), nil)
	wantResults(t, "MaxLevel", results(impl.BranchOf(threeUp, 1, impl.MaxLevel)), []int{1, 5, 21, 85, 341, 1365, 5461, 21845, 87381, 349525})
	wantResults(t, "below 0", results(impl.BranchOf(threeUp, -1, 4)), []int{-1, -3})
	wantResults(t, "first one left out", results(impl.BranchOf(impl.Map{Times: 1, Plus: 1}, 3, 2)), []int{5, 11})
	wantResults(t, "less than those before", results(impl.BranchOf(oneDown, -8, 2)), []int{1, -7, -23})
	wantResults(t, "of 0", results(impl.BranchOf(impl.Map{Times: 3, Plus: 3}, 0, 2)), []int{-1, -1, -1})
	wantNumbers(t, "of 0 by 3x+1", false, results(impl.BranchOf(threeUp, 0, impl.MaxLevel)), nil)
	half := impl.MaxNumber / 2
	wantResults(t, "odd one that is no number", results(impl.BranchOf(oneDown, half, 1)), []int{half + 9})
	wantResults(t, "odd one that is a number", results(impl.BranchOf(impl.Map{Times: 1, Plus: 9}, half, 1)), []int{half - 9, impl.MaxNumber - 9})
	greatest, ok := impl.BranchOf(threeUp, 953674, impl.MaxLevel)
	if !ok || len(greatest) != 11 {
		t.Error("of 953674", greatest, ok)
	}
	wantFailed(t, map[string][]any{
		"last double": results(impl.BranchOf(threeUp, 953675, impl.MaxLevel)), "last double below 0": results(impl.BranchOf(threeUp, -953675, impl.MaxLevel)),
		"first double": results(impl.BranchOf(threeUp, half+1, 1)), "many doubles": results(impl.BranchOf(threeUp, impl.MaxNumber, impl.MaxLevel)),
	})
}

// rootCalls has all other calls of the chapter.
func rootCalls(m impl.Map, root int, level int) map[string][]any {
	return map[string][]any{
		"NumbersBefore": results(impl.NumbersBefore(m, root)), "OddBefore": results(impl.OddBefore(m, root)), "IsBarren": results(impl.IsBarren(m, root)),
		"ShortBefore": results(impl.ShortBefore(m, root)), "BranchOf": results(impl.BranchOf(m, root, level)), "ShortLevel": results(impl.ShortLevel(m, root, level)),
	}
}

func TestInvalidArgumentsOfTreesFail(t *testing.T) {
	for _, calls := range []map[string][]any{levelCalls(threeUp, 16, 3, 5, 100), rootCalls(threeUp, 16, 3)} {
		for name, got := range calls {
			if got[len(got)-1] != true {
				t.Error(name, "failed with valid arguments")
			}
		}
	}
	for _, m := range noMaps {
		for _, root := range []int{0, 16, impl.MaxNumber} {
			wantFailed(t, levelCalls(m, root, 0, root, impl.MaxNumber))
			wantFailed(t, levelCalls(m, root, 3, root, 9))
			wantFailed(t, rootCalls(m, root, 0))
			wantFailed(t, rootCalls(m, root, 3))
		}
	}
	for _, n := range noRoots {
		for _, level := range []int{0, 1, impl.MaxLevel} {
			wantFailed(t, levelCalls(threeUp, n, level, n, impl.MaxNumber))
			wantFailed(t, levelCalls(threeUp, n, level, 16, impl.MaxNumber))
			wantFailed(t, rootCalls(threeUp, n, level))
			wantFailed(t, only(levelCalls(threeUp, 16, level, n, 9), "IsInLevel", "FirstLevelOf", "PathToRoot"))
		}
	}
	for _, level := range noLevels {
		for _, root := range []int{0, 16, impl.MaxNumber} {
			wantFailed(t, levelCalls(threeUp, root, level, root, impl.MaxNumber))
			wantFailed(t, only(rootCalls(threeUp, root, level), "BranchOf", "ShortLevel"))
		}
	}
	for _, limit := range noTreeLimits {
		wantFailed(t, map[string][]any{fmt.Sprint(limit): results(impl.InTreeUpTo(threeUp, 16, 3, limit)), fmt.Sprint(limit, 0): results(impl.InTreeUpTo(threeUp, 0, 0, limit))})
	}
}

func TestNoArgumentOfTreesPanics(t *testing.T) {
	levels := append([]int{impl.MaxLevel - 1, impl.MaxLevel, impl.MaxLevel + 1}, extremes...)
	for _, m := range []impl.Map{{}, {Times: math.MinInt, Plus: math.MaxInt}, {Times: 3, Plus: 0}, {Plus: 1}, threeUp, {Times: 1, Plus: -9}, {Times: 9, Plus: 9}} {
		for _, root := range extremes {
			for _, level := range levels {
				for name, got := range rootCalls(m, root, level) {
					wantNoHalfFailure(t, fmt.Sprint(name, m, root, level), got)
				}
				for name, got := range levelCalls(m, root, level, level, root) {
					wantNoHalfFailure(t, fmt.Sprint(name, m, root, level), got)
				}
			}
		}
	}
}

func TestResultsOfTreesAreNew(t *testing.T) {
	wantNewLists(t, func() map[string][]int {
		before, _ := impl.NumbersBefore(threeUp, 16)
		short, _ := impl.ShortBefore(threeUp, 8)
		level, _ := impl.LevelOf(threeUp, 16, 4)
		sizes, _ := impl.LevelSizes(threeUp, 16, 4)
		barren, _ := impl.BarrenOfLevel(threeUp, 16, 4)
		branch, _ := impl.BranchOf(threeUp, 4, 4)
		shortLevel, _ := impl.ShortLevel(threeUp, 1, 4)
		tree, _ := impl.InTreeUpTo(threeUp, 16, 4, 50)
		path, _ := impl.PathToRoot(threeUp, 16, 4, 3)
		return map[string][]int{
			"before": before, "short": short, "level": level, "sizes": sizes, "barren": barren, "branch": branch,
			"short level": shortLevel, "tree": tree, "path": path,
		}
	})
}
