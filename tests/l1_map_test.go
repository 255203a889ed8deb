package tests

import (
	"fmt"
	"math"
	"math/rand"
	"reflect"
	"strings"
	"testing"

	"loop.example/g01293/impl"
)

var threeUp = impl.Map{Times: 3, Plus: 1}
var threeDown = impl.Map{Times: 3, Plus: -1}

// noMaps are structs that are no map, each for one reason or for its size.
var noMaps = []impl.Map{
	{}, {Times: 3}, {Plus: 1}, {Times: 2, Plus: 1}, {Times: 3, Plus: 2}, {Times: 3, Plus: -4}, {Times: -3, Plus: 1},
	{Times: 11, Plus: 1}, {Times: 3, Plus: 11}, {Times: 3, Plus: -11},
	{Times: math.MinInt + 1, Plus: 1}, {Times: math.MaxInt, Plus: 1}, {Times: 3, Plus: math.MinInt + 1}, {Times: 3, Plus: math.MaxInt},
}

func allMaps() []impl.Map {
	var maps []impl.Map
	for times := 1; times <= 9; times += 2 {
		for plus := -9; plus <= 9; plus += 2 {
			maps = append(maps, impl.Map{Times: times, Plus: plus})
		}
	}
	return maps
}

// The functions whose name begins with told go by the words of the document alone, in the plainest way.

func toldNext(m impl.Map, n int) int {
	if n%2 == 0 {
		return n / 2
	}
	return m.Times*n + m.Plus
}

func toldShort(m impl.Map, n int) int {
	if n%2 == 0 {
		return n / 2
	}
	return (m.Times*n + m.Plus) / 2
}

func isTooGreat(n int) bool { return n > impl.MaxNumber || n < -impl.MaxNumber }

// toldPath ends before the first number that is too great, so that it may have fewer steps.
func toldPath(next func(impl.Map, int) int, m impl.Map, n int, steps int) []int {
	path := []int{n}
	for len(path) <= steps {
		n = next(m, n)
		if isTooGreat(n) {
			break
		}
		path = append(path, n)
	}
	return path
}

func toldSum(path []int) int {
	sum := 0
	for _, n := range path {
		sum += n
	}
	return sum
}

func toldSigns(path []int) string {
	var signs []byte
	for _, n := range path[:len(path)-1] {
		if n%2 == 0 {
			signs = append(signs, 'e')
		} else {
			signs = append(signs, 'o')
		}
	}
	return string(signs)
}

// toldFirst returns the index of the first number of which has is true, or -1.
func toldFirst(path []int, has func(int) bool) int {
	for i, n := range path {
		if has(n) {
			return i
		}
	}
	return -1
}

func toldBest(path []int, isBetter func(a, b int) bool) (int, int) {
	best, at := path[0], 0
	for i, n := range path {
		if isBetter(n, best) {
			best, at = n, i
		}
	}
	return best, at
}

func TestExampleOfMaps(t *testing.T) {
	path := []int{7, 22, 11, 34, 17, 52, 26, 13, 40, 20, 10, 5, 16, 8, 4, 2, 1}
	wantResults(t, "path", results(impl.PathOf(threeUp, 7, 16)), path)
	wantResults(t, "to", results(impl.StepsTo(threeUp, 7, 1)), 16)
	wantResults(t, "peak", results(impl.PeakOf(threeUp, 7, 16)), 52, 5)
	wantResults(t, "low", results(impl.LowOf(threeUp, 7, 30)), 1, 16)
	wantResults(t, "signs", results(impl.SignsOf(threeUp, 7, 4)), "oeoe")
	wantResults(t, "odd steps", results(impl.OddSteps(threeUp, 7, 16)), 5)
	wantResults(t, "odd next", results(impl.OddNext(threeUp, 13)), 5, 3)
	wantResults(t, "below", results(impl.FirstBelow(threeUp, 7)), 11)
	wantResults(t, "down", results(impl.PathOf(threeDown, 5, 5)), []int{5, 14, 7, 20, 10, 5})
	wantResults(t, "sum", results(impl.SumOfPath(threeUp, 7, 3)), 74)
}

func TestIsMapTakesJustTheMaps(t *testing.T) {
	isOne := map[impl.Map]bool{}
	for _, m := range allMaps() {
		isOne[m] = true
	}
	if len(isOne) != 50 {
		t.Fatal("the test has", len(isOne), "maps")
	}
	for times := -12; times <= 12; times++ {
		for plus := -12; plus <= 12; plus++ {
			m := impl.Map{Times: times, Plus: plus}
			if got := impl.IsMap(m); got != isOne[m] {
				t.Error(m, got)
			}
		}
	}
	for _, m := range noMaps {
		if impl.IsMap(m) {
			t.Error(m, "is no map")
		}
	}
}

// sampleNumbers has 0, small numbers of both signs, and large ones near the limits.
func sampleNumbers() []int {
	numbers := []int{
		impl.MaxNumber, -impl.MaxNumber, impl.MaxNumber - 1, 1 - impl.MaxNumber, 1 << 39, -1 << 39,
		333333333333, 333333333335, 666666666665, 666666666667, 666666666670, -333333333333, -333333333335,
	}
	for n := -40; n <= 40; n++ {
		numbers = append(numbers, n)
	}
	random := rand.New(rand.NewSource(1))
	for range 20 {
		numbers = append(numbers, random.Intn(2*impl.MaxNumber+1)-impl.MaxNumber, random.Intn(200001)-100000)
	}
	return numbers
}

func TestPathsGoStepByStep(t *testing.T) {
	for _, m := range allMaps() {
		for _, n := range sampleNumbers() {
			for _, steps := range []int{0, 1, 2, 3, 10, 77, impl.MaxPath, impl.MaxPath + 1, impl.MaxSteps} {
				checkPath(t, m, n, steps)
			}
			checkSearches(t, m, n)
		}
	}
}

// checkPath compares all calls that take so many steps.
func checkPath(t *testing.T, m impl.Map, n int, steps int) {
	t.Helper()
	name := fmt.Sprint(m, n, steps)
	path := toldPath(toldNext, m, n, steps)
	calls := map[string][]any{
		"NumberAfter": results(impl.NumberAfter(m, n, steps)), "PeakOf": results(impl.PeakOf(m, n, steps)),
		"LowOf": results(impl.LowOf(m, n, steps)), "OddSteps": results(impl.OddSteps(m, n, steps)),
		"SignsOf": results(impl.SignsOf(m, n, steps)), "SumOfPath": results(impl.SumOfPath(m, n, steps)),
		"PathOf": results(impl.PathOf(m, n, steps)),
	}
	if len(path) <= steps {
		wantFailed(t, calls)
	} else {
		peak, peakAt := toldBest(path, func(a, b int) bool { return a > b })
		low, lowAt := toldBest(path, func(a, b int) bool { return a < b })
		signs := toldSigns(path)
		wantResults(t, "NumberAfter "+name, calls["NumberAfter"], path[steps])
		wantResults(t, "PeakOf "+name, calls["PeakOf"], peak, peakAt)
		wantResults(t, "LowOf "+name, calls["LowOf"], low, lowAt)
		wantResults(t, "OddSteps "+name, calls["OddSteps"], strings.Count(signs, "o"))
		wantResults(t, "SignsOf "+name, calls["SignsOf"], signs)
		wantUnless(t, "SumOfPath "+name, isTooGreat(toldSum(path)), calls["SumOfPath"], toldSum(path))
		wantUnless(t, "PathOf "+name, steps > impl.MaxPath, calls["PathOf"], path)
	}
	short := toldPath(toldShort, m, n, steps)
	wantUnless(t, "ShortAfter "+name, len(short) <= steps, results(impl.ShortAfter(m, n, steps)), short[len(short)-1])
}

func wantUnless(t *testing.T, name string, fails bool, got []any, want ...any) {
	t.Helper()
	if fails {
		wantFailed(t, map[string][]any{name: got})
	} else {
		wantResults(t, name, got, want...)
	}
}

// checkSearches compares all calls that find out themselves how many steps they take.
func checkSearches(t *testing.T, m impl.Map, n int) {
	t.Helper()
	name := fmt.Sprint(m, n)
	path := toldPath(toldNext, m, n, impl.MaxSteps)
	for _, goal := range []int{n, 0, 1, -1, 4, path[len(path)-1], path[len(path)/2]} {
		at := toldFirst(path, func(x int) bool { return x == goal })
		wantUnless(t, fmt.Sprint("StepsTo ", name, goal), at < 0, results(impl.StepsTo(m, n, goal)), at)
	}
	below := toldFirst(path, func(x int) bool { return x < n })
	wantUnless(t, "FirstBelow "+name, below < 0, results(impl.FirstBelow(m, n)), below)
	next, short := toldNext(m, n), toldShort(m, n)
	wantUnless(t, "NextNumber "+name, isTooGreat(next), results(impl.NextNumber(m, n)), next)
	wantUnless(t, "ShortNext "+name, isTooGreat(short), results(impl.ShortNext(m, n)), short)
	isNone := n%2 == 0 || isTooGreat(next) || next == 0
	odd, halved := 0, 0
	if !isNone {
		odd, halved = toldOddPart(next)
	}
	wantUnless(t, "OddNext "+name, isNone, results(impl.OddNext(m, n)), odd, halved)
}

func toldOddPart(n int) (int, int) {
	if n%2 != 0 {
		return n, 0
	}
	odd, halved := toldOddPart(n / 2)
	return odd, halved + 1
}

func TestStepsOfZero(t *testing.T) {
	wantResults(t, "next", results(impl.NextNumber(threeUp, 0)), 0)
	wantResults(t, "short", results(impl.ShortNext(threeUp, 0)), 0)
	wantResults(t, "after", results(impl.NumberAfter(threeUp, 0, impl.MaxSteps)), 0)
	wantResults(t, "signs", results(impl.SignsOf(threeUp, 0, 3)), "eee")
	wantResults(t, "peak", results(impl.PeakOf(threeUp, 0, 9)), 0, 0)
	wantResults(t, "low", results(impl.LowOf(threeUp, 0, 9)), 0, 0)
	wantResults(t, "to itself", results(impl.StepsTo(threeUp, 0, 0)), 0)
	wantResults(t, "to 0 from 3", results(impl.StepsTo(impl.Map{Times: 3, Plus: -9}, 3, 0)), 1)
	wantFailed(t, map[string][]any{
		"below":    results(impl.FirstBelow(threeUp, 0)),
		"odd part": results(impl.OddPart(0)),
		"odd next": results(impl.OddNext(threeUp, 0)),
		"to 1":     results(impl.StepsTo(threeUp, 0, 1)),
		// 3 times -1 and 3 together are 0, which has no odd part.
		"odd next that is 0": results(impl.OddNext(impl.Map{Times: 3, Plus: 3}, -1)),
		"odd next of even":   results(impl.OddNext(threeUp, 6)),
	})
}

func TestNumbersLessThanZero(t *testing.T) {
	wantResults(t, "path", results(impl.PathOf(threeUp, -7, 5)), []int{-7, -20, -10, -5, -14, -7})
	wantResults(t, "short", results(impl.ShortNext(threeUp, -7)), -10)
	wantResults(t, "short of even", results(impl.ShortNext(threeUp, -10)), -5)
	wantResults(t, "peak", results(impl.PeakOf(threeUp, -7, 9)), -5, 3)
	wantResults(t, "low", results(impl.LowOf(threeUp, -7, 9)), -20, 1)
	wantResults(t, "signs", results(impl.SignsOf(threeUp, -7, 5)), "oeeoe")
	wantResults(t, "odd next", results(impl.OddNext(threeUp, -7)), -5, 2)
	wantResults(t, "below", results(impl.FirstBelow(threeUp, -7)), 1)
	wantResults(t, "across 0", results(impl.PathOf(impl.Map{Times: 1, Plus: -9}, 3, 3)), []int{3, -6, -3, -12})
	wantFailed(t, map[string][]any{"never below": results(impl.FirstBelow(threeUp, -2))})
}

func TestOddPart(t *testing.T) {
	for _, c := range [][3]int{
		{1, 1, 0}, {-1, -1, 0}, {2, 1, 1}, {40, 5, 3}, {-12, -3, 2}, {1 << 39, 1, 39}, {-1 << 39, -1, 39},
		{impl.MaxNumber, 244140625, 12}, {-impl.MaxNumber, -244140625, 12}, {impl.MaxNumber - 1, impl.MaxNumber - 1, 0},
	} {
		wantResults(t, fmt.Sprint(c[0]), results(impl.OddPart(c[0])), c[1], c[2])
	}
	wantFailed(t, map[string][]any{
		"too great": results(impl.OddPart(impl.MaxNumber + 1)), "too low": results(impl.OddPart(-impl.MaxNumber - 1)),
		"least int": results(impl.OddPart(math.MinInt)), "greatest int": results(impl.OddPart(math.MaxInt)),
	})
}

func TestNumbersMetExactly(t *testing.T) {
	plusFive := impl.Map{Times: 3, Plus: 5}
	minusFive := impl.Map{Times: 3, Plus: -5}
	wantResults(t, "next", results(impl.NextNumber(threeUp, 333333333333)), impl.MaxNumber)
	wantResults(t, "next below 0", results(impl.NextNumber(threeDown, -333333333333)), -impl.MaxNumber)
	wantResults(t, "short", results(impl.ShortNext(plusFive, 666666666665)), impl.MaxNumber)
	wantResults(t, "short below 0", results(impl.ShortNext(minusFive, -666666666665)), -impl.MaxNumber)
	wantResults(t, "halved", results(impl.NumberAfter(threeUp, impl.MaxNumber, 1)), impl.MaxNumber/2)
	wantResults(t, "halved below 0", results(impl.NumberAfter(threeUp, -impl.MaxNumber, 1)), -impl.MaxNumber/2)
	wantResults(t, "goal", results(impl.StepsTo(threeUp, 333333333333, impl.MaxNumber)), 1)
	wantResults(t, "peak", results(impl.PeakOf(threeUp, 333333333333, 1)), impl.MaxNumber, 1)
	wantResults(t, "sum of one", results(impl.SumOfPath(threeUp, impl.MaxNumber, 0)), impl.MaxNumber)
	// 399999999997, 400000000002 and 200000000001 together.
	wantResults(t, "sum", results(impl.SumOfPath(impl.Map{Times: 1, Plus: 5}, 399999999997, 2)), impl.MaxNumber)
	wantResults(t, "sum below 0", results(impl.SumOfPath(impl.Map{Times: 1, Plus: -5}, -399999999997, 2)), -impl.MaxNumber)
	wantFailed(t, map[string][]any{
		"next":          results(impl.NextNumber(threeUp, 333333333335)),
		"next below 0":  results(impl.NextNumber(threeDown, -333333333335)),
		"short":         results(impl.ShortNext(plusFive, 666666666667)),
		"short below 0": results(impl.ShortNext(minusFive, -666666666667)),
		"sum":           results(impl.SumOfPath(impl.Map{Times: 1, Plus: 5}, 399999999999, 2)),
		"sum below 0":   results(impl.SumOfPath(impl.Map{Times: 1, Plus: -5}, -399999999999, 2)),
		"number":        results(impl.NextNumber(threeUp, impl.MaxNumber+2)),
		"number below":  results(impl.NextNumber(threeUp, -impl.MaxNumber-2)),
	})
}

// By 3x+1 666666666670 comes to 333333333335, then to what is too great, and then to 500000000003, were it allowed.
func TestTooGreatOnTheWay(t *testing.T) {
	n := 666666666670
	wantResults(t, "before", results(impl.NumberAfter(threeUp, n, 1)), 333333333335)
	wantResults(t, "signs before", results(impl.SignsOf(threeUp, n, 1)), "e")
	wantResults(t, "to before", results(impl.StepsTo(threeUp, n, 333333333335)), 1)
	wantResults(t, "below before", results(impl.FirstBelow(threeUp, n)), 1)
	wantResults(t, "short past it", results(impl.ShortAfter(threeUp, n, 2)), 500000000003)
	for _, steps := range []int{2, 3, 4} {
		wantFailed(t, map[string][]any{
			fmt.Sprint("after ", steps): results(impl.NumberAfter(threeUp, n, steps)),
			fmt.Sprint("path ", steps):  results(impl.PathOf(threeUp, n, steps)),
			fmt.Sprint("peak ", steps):  results(impl.PeakOf(threeUp, n, steps)),
			fmt.Sprint("low ", steps):   results(impl.LowOf(threeUp, n, steps)),
			fmt.Sprint("odd ", steps):   results(impl.OddSteps(threeUp, n, steps)),
			fmt.Sprint("signs ", steps): results(impl.SignsOf(threeUp, n, steps)),
			fmt.Sprint("sum ", steps):   results(impl.SumOfPath(threeUp, n, steps)),
		})
	}
	wantFailed(t, map[string][]any{
		"to behind":    results(impl.StepsTo(threeUp, n, 500000000003)),
		"below behind": results(impl.FirstBelow(threeUp, 333333333335)),
		"odd next":     results(impl.OddNext(threeUp, 333333333335)),
		"short":        results(impl.ShortAfter(threeUp, 666666666667, 1)),
	})
}

// The two numbers were searched for: by 5x-7 the first one is first less behind just MaxSteps steps, the second one two steps later.
func TestStepsMetExactly(t *testing.T) {
	m := impl.Map{Times: 5, Plus: -7}
	n, late := -397417322704, -26860070144
	path := toldPath(toldNext, m, late, impl.MaxSteps+2)
	if path[impl.MaxSteps+2] >= late {
		t.Fatal("the number is not less behind MaxSteps + 2 steps")
	}
	wantResults(t, "below", results(impl.FirstBelow(m, n)), impl.MaxSteps)
	wantResults(t, "to", results(impl.StepsTo(m, late, path[impl.MaxSteps])), impl.MaxSteps)
	wantResults(t, "after", results(impl.NumberAfter(m, late, impl.MaxSteps)), path[impl.MaxSteps])
	wantResults(t, "short after", results(impl.ShortAfter(threeUp, 1, impl.MaxSteps)), 1)
	wantResults(t, "peak", results(impl.PeakOf(threeUp, 1, impl.MaxSteps)), 4, 1)
	wantResults(t, "low", results(impl.LowOf(threeUp, 1, impl.MaxSteps)), 1, 0)
	wantResults(t, "odd", results(impl.OddSteps(threeUp, 1, impl.MaxSteps)), 334)
	wantResults(t, "signs", results(impl.SignsOf(threeUp, 1, impl.MaxSteps)), strings.Repeat("oee", 333)+"o")
	wantResults(t, "sum", results(impl.SumOfPath(threeUp, 1, impl.MaxSteps)), 333*7+1+4)
	steps := impl.MaxSteps + 1
	wantFailed(t, map[string][]any{
		"below": results(impl.FirstBelow(m, late)), "to": results(impl.StepsTo(m, late, path[steps])),
		"after": results(impl.NumberAfter(m, 1, steps)), "short after": results(impl.ShortAfter(threeUp, 1, steps)),
		"peak": results(impl.PeakOf(threeUp, 1, steps)), "low": results(impl.LowOf(threeUp, 1, steps)),
		"odd": results(impl.OddSteps(threeUp, 1, steps)), "signs": results(impl.SignsOf(threeUp, 1, steps)),
		"sum": results(impl.SumOfPath(threeUp, 1, steps)), "path": results(impl.PathOf(threeUp, 1, impl.MaxPath+1)),
	})
	if path, ok := impl.PathOf(threeUp, 1, impl.MaxPath); !ok || len(path) != impl.MaxPath+1 {
		t.Error("path of MaxPath steps", len(path), ok)
	}
}

func TestNegativeMapGoesTheOtherWay(t *testing.T) {
	for _, m := range allMaps() {
		negative, ok := impl.NegativeMap(m)
		if !ok || negative != (impl.Map{Times: m.Times, Plus: -m.Plus}) {
			t.Error(m, negative, ok)
		}
		for _, n := range sampleNumbers() {
			a, aOk := impl.NumberAfter(m, n, 7)
			b, bOk := impl.NumberAfter(negative, -n, 7)
			if a != -b || aOk != bOk {
				t.Error(m, n, a, b)
			}
		}
	}
}

func TestMapTexts(t *testing.T) {
	wantResults(t, "up", results(impl.MapText(threeUp)), "3x+1")
	wantResults(t, "down", results(impl.MapText(impl.Map{Times: 9, Plus: -9})), "9x-9")
	for _, m := range allMaps() {
		text, ok := impl.MapText(m)
		if want := fmt.Sprintf("%dx%+d", m.Times, m.Plus); text != want || !ok {
			t.Error(text, ok, want)
		}
		wantResults(t, text, results(impl.ParseMap(text)), m)
	}
	for _, m := range noMaps {
		wantFailed(t, map[string][]any{fmt.Sprint(m): results(impl.MapText(m))})
	}
}

func TestTextsThatAreNoMapText(t *testing.T) {
	for _, text := range []string{
		"", "x", "3", "3x", "x+1", "3x1", "+3x+1", "-3x+1", "3x+01", "03x+1", "3x+-1", "3x--1", "3x++", "3x+", "3x-", "3x+0", "3x-0",
		"2x+1", "3x+2", "11x+1", "3x+11", "3x-11", "0x+1", "3X+1", "3y+1", "3x+1 ", " 3x+1", "3 x+1", "3x+1\n", "3x+1x", "3xx+1",
		"3x+1;3x+1", "3x+1\x00", "\x003x+1", "3x\xe2\x88\x921", "3x+\xff", "3_x+1", "0b11x+1", "3x+0x1", "3.0x+1", "3x+1e0",
		"99999999999999999999x+1", "3x+99999999999999999999", "3x-18446744073709551617", strings.Repeat("3", 5000) + "x+1",
	} {
		wantFailed(t, map[string][]any{text: results(impl.ParseMap(text))})
	}
}

// callsOf has all calls of the chapter that take a map, a number, steps and a goal.
func callsOf(m impl.Map, n int, steps int, goal int) map[string][]any {
	return map[string][]any{
		"NumberAfter": results(impl.NumberAfter(m, n, steps)), "ShortAfter": results(impl.ShortAfter(m, n, steps)),
		"PathOf": results(impl.PathOf(m, n, steps)), "PeakOf": results(impl.PeakOf(m, n, steps)),
		"LowOf": results(impl.LowOf(m, n, steps)), "OddSteps": results(impl.OddSteps(m, n, steps)),
		"SignsOf": results(impl.SignsOf(m, n, steps)), "SumOfPath": results(impl.SumOfPath(m, n, steps)),
		"NextNumber": results(impl.NextNumber(m, n)), "ShortNext": results(impl.ShortNext(m, n)),
		"StepsTo": results(impl.StepsTo(m, n, goal)), "OddNext": results(impl.OddNext(m, n)),
		"FirstBelow": results(impl.FirstBelow(m, n)),
	}
}

func TestInvalidArgumentsFail(t *testing.T) {
	for _, m := range noMaps {
		wantFailed(t, callsOf(m, 7, 0, 7))
		wantFailed(t, callsOf(m, 7, 3, 7))
		wantFailed(t, map[string][]any{"NegativeMap": results(impl.NegativeMap(m))})
	}
	for _, n := range []int{math.MinInt, -impl.MaxNumber - 1, impl.MaxNumber + 1, math.MaxInt} {
		wantFailed(t, callsOf(threeUp, n, 0, n))
		wantFailed(t, callsOf(threeUp, n, 3, 1))
		wantFailed(t, map[string][]any{fmt.Sprint("goal ", n): results(impl.StepsTo(threeUp, 7, n))})
	}
	for _, steps := range []int{math.MinInt, -1, impl.MaxSteps + 1, math.MaxInt} {
		calls := callsOf(threeUp, 7, steps, 1)
		for _, name := range []string{"NextNumber", "ShortNext", "StepsTo", "OddNext", "FirstBelow"} {
			delete(calls, name)
		}
		wantFailed(t, calls)
	}
}

func TestNoArgumentPanics(t *testing.T) {
	maps := append(noMaps, threeUp, threeDown, impl.Map{Times: 9, Plus: -9}, impl.Map{Times: 1, Plus: 9})
	for _, m := range maps {
		for _, n := range extremes {
			for _, steps := range extremes {
				for name, got := range callsOf(m, n, steps, steps) {
					wantNoHalfFailure(t, fmt.Sprint(name, m, n, steps), got)
				}
			}
		}
	}
	for _, n := range extremes {
		wantNoHalfFailure(t, fmt.Sprint("OddPart ", n), results(impl.OddPart(n)))
	}
}

func TestPathsAreNew(t *testing.T) {
	first, _ := impl.PathOf(threeUp, 7, 5)
	second, _ := impl.PathOf(threeUp, 7, 5)
	for i := range first {
		first[i] = 0
	}
	if want := []int{7, 22, 11, 34, 17, 52}; !reflect.DeepEqual(second, want) {
		t.Error(second)
	}
}
