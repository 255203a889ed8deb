package tests

import (
	"fmt"
	"math"
	"math/big"
	"slices"
	"strings"
	"testing"
	"unsafe"

	"loop.example/g01293/impl"
)

// noTurnWords are texts that are no word of this chapter; those of 11 to MaxTold signs are words of chapter 2, as the empty one is.
var noTurnWords = slices.Concat(noWords, []string{
	"", "oe,", "e ", "ox", strings.Repeat("o", impl.MaxWord+1), strings.Repeat("e", impl.MaxWord+1), strings.Repeat("oe", 6), strings.Repeat("o", impl.MaxTold),
})

var noFoundLimits = []int{math.MinInt, -1, 0, impl.MaxFound + 1, impl.MaxSteps, math.MaxInt}

var noTurnLengths = []int{math.MinInt, -1, 0, impl.MaxWord + 1, impl.MaxTold, math.MaxInt}

// toldLoop returns how many steps lead to the cycle of a number, and the cycle from its least number on, or false if the number is lost.
func toldLoop(m impl.Map, n int) (int, []int, bool) {
	path := toldPath(toldNext, m, n, impl.MaxSteps)
	times := map[int]int{}
	for _, at := range path {
		times[at]++
	}
	lead := toldFirst(path, func(at int) bool { return times[at] > 1 })
	if lead < 0 {
		return 0, nil, false
	}
	length := 1 + slices.Index(path[lead+1:], path[lead])
	cycle := path[lead : lead+length]
	least := slices.Index(cycle, slices.Min(cycle))
	return lead, slices.Concat(cycle[least:], cycle[:least]), true
}

// toldWordOfCycle takes short steps around the cycle, however many there are.
func toldWordOfCycle(m impl.Map, cycle []int) string {
	first := cycle[0]
	for _, at := range cycle {
		if at%2 != 0 && (first%2 == 0 || at < first) {
			first = at
		}
	}
	at, signs := first, ""
	for signs == "" || at != first {
		signs += toldSigns([]int{at, 0})
		at = toldShort(m, at)
	}
	return signs
}

// toldDone returns what a word makes of x: it is exact, as no number on the way needs all the bits of a float64.
func toldDone(m impl.Map, w string, x float64) float64 {
	for _, sign := range w {
		if sign == 'o' {
			x = float64(m.Times)*x + float64(m.Plus)
		}
		x /= 2
	}
	return x
}

// toldDoneBig is toldDone for all fractions.
func toldDoneBig(m impl.Map, w string, x *big.Rat) *big.Rat {
	at := new(big.Rat).Set(x)
	for _, sign := range w {
		if sign == 'o' {
			at.Mul(at, big.NewRat(int64(m.Times), 1))
			at.Add(at, big.NewRat(int64(m.Plus), 1))
		}
		at.Mul(at, big.NewRat(1, 2))
	}
	return at
}

// toldTurns returns the words told from each sign on.
func toldTurns(w string) []string {
	var turns []string
	for k := range len(w) {
		var signs []byte
		for i := range len(w) {
			signs = append(signs, w[(k+i)%len(w)])
		}
		turns = append(turns, string(signs))
	}
	return turns
}

func toldIsPrimitive(w string) bool {
	for length := 1; length < len(w); length++ {
		if strings.Repeat(w[:length], len(w)/length) == w {
			return false
		}
	}
	return true
}

// turnWords returns all words of this chapter.
func turnWords() []string {
	var words []string
	for length := 1; length <= impl.MaxWord; length++ {
		words = append(words, toldAllWords(length)...)
	}
	return words
}

func TestExampleOfCycles(t *testing.T) {
	wantResults(t, "cycle", results(impl.CycleOf(threeUp, 7)), []int{1, 4, 2})
	wantResults(t, "lead", results(impl.LeadOf(threeUp, 7)), 14, 3)
	wantResults(t, "up to", results(impl.CyclesUpTo(threeUp, 100)), []int{1})
	wantResults(t, "down", results(impl.CyclesUpTo(threeDown, 100)), []int{1, 5, 17})
	wantResults(t, "does", results(impl.WordDoes(threeUp, "oe")), 3, 1, 4)
	wantResults(t, "number", results(impl.NumberOfWord(threeUp, "oe")), 1, 1)
	wantResults(t, "number below 0", results(impl.NumberOfWord(threeUp, "ooe")), -5, 1)
	wantResults(t, "fraction", results(impl.NumberOfWord(threeDown, "oee")), -1, 5)
	wantResults(t, "cycle word", results(impl.IsCycleWord(threeUp, "oe")), true)
	wantResults(t, "other one", results(impl.IsCycleWord(threeUp, "ooe")), true)
	wantResults(t, "no cycle word", results(impl.IsCycleWord(threeUp, "oee")), false)
	wantResults(t, "word", results(impl.WordOfCycle(threeUp, 7)), "oe")
	wantResults(t, "words", results(impl.CycleWords(threeUp, 2)), []string{"eo"})
	wantResults(t, "count", results(impl.CountCycleWords(threeUp, 2)), 1)
	wantResults(t, "turn", results(impl.TurnWord("ooe", 2)), "eoo")
	wantResults(t, "least turn", results(impl.LeastTurn("oe")), "eo")
	wantResults(t, "primitive", results(impl.IsPrimitive("oeo")), true)
	wantResults(t, "not primitive", results(impl.IsPrimitive("oeoe")), false)
	wantResults(t, "count of primitive", results(impl.CountPrimitive(4, 2)), 1)
}

func TestNumbersComeIntoTheirCycles(t *testing.T) {
	for _, m := range allMaps() {
		for _, n := range sampleNumbers() {
			checkLoop(t, m, n)
		}
	}
}

// checkLoop compares all calls that tell the cycle of a number.
func checkLoop(t *testing.T, m impl.Map, n int) {
	t.Helper()
	name := fmt.Sprint(m, n)
	lead, cycle, comes := toldLoop(m, n)
	wantUnless(t, "CycleOf "+name, !comes, results(impl.CycleOf(m, n)), cycle)
	wantUnless(t, "LeadOf "+name, !comes, results(impl.LeadOf(m, n)), lead, len(cycle))
	wantResults(t, "IsOnCycle "+name, results(impl.IsOnCycle(m, n)), slices.Contains(cycle, n))
	word := ""
	if comes {
		word = toldWordOfCycle(m, cycle)
	}
	wantUnless(t, "WordOfCycle "+name, !comes || len(word) > impl.MaxWord, results(impl.WordOfCycle(m, n)), word)
}

func TestCyclesClose(t *testing.T) {
	for _, m := range allMaps() {
		for _, n := range sampleNumbers() {
			cycle, ok := impl.CycleOf(m, n)
			for i, at := range cycle {
				if next := toldNext(m, at); next != cycle[(i+1)%len(cycle)] {
					t.Error(m, n, cycle, "goes from", at, "to", next)
				}
				wantResults(t, fmt.Sprint(m, at, " on"), results(impl.IsOnCycle(m, at)), true)
				wantResults(t, fmt.Sprint(m, at, " again"), results(impl.CycleOf(m, at)), cycle)
				wantResults(t, fmt.Sprint(m, at, " lead"), results(impl.LeadOf(m, at)), 0, len(cycle))
			}
			if ok && (cycle[0] != slices.Min(cycle) || len(slices.Compact(slices.Sorted(slices.Values(cycle)))) != len(cycle)) {
				t.Error(m, n, cycle, "does not begin with its least number, or has one twice")
			}
		}
	}
}

// TestCyclesOfOneNumber has the cycle of 0 alone: an odd number becomes an even one.
func TestCyclesOfOneNumber(t *testing.T) {
	for _, m := range allMaps() {
		wantResults(t, fmt.Sprint(m, " cycle"), results(impl.CycleOf(m, 0)), []int{0})
		wantResults(t, fmt.Sprint(m, " lead"), results(impl.LeadOf(m, 0)), 0, 1)
		wantResults(t, fmt.Sprint(m, " on"), results(impl.IsOnCycle(m, 0)), true)
		wantResults(t, fmt.Sprint(m, " word"), results(impl.WordOfCycle(m, 0)), "e")
	}
	toZero := impl.Map{Times: 3, Plus: -9}
	wantResults(t, "3 comes to 0", results(impl.CycleOf(toZero, 3)), []int{0})
	wantResults(t, "lead of 12", results(impl.LeadOf(toZero, 12)), 3, 1)
	wantResults(t, "12 is not on it", results(impl.IsOnCycle(toZero, 12)), false)
	wantResults(t, "word of 12", results(impl.WordOfCycle(toZero, 12)), "e")
	wantResults(t, "found", results(impl.CyclesUpTo(impl.Map{Times: 1, Plus: -1}, impl.MaxFound)), []int{0})
}

func TestCyclesLessThanZero(t *testing.T) {
	wantResults(t, "of two", results(impl.CycleOf(threeUp, -1)), []int{-2, -1})
	wantResults(t, "of five", results(impl.CycleOf(threeUp, -7)), []int{-20, -10, -5, -14, -7})
	wantResults(t, "lead", results(impl.LeadOf(threeUp, -9)), 7, 5)
	wantResults(t, "on", results(impl.IsOnCycle(threeUp, -14)), true)
	wantResults(t, "not on", results(impl.IsOnCycle(threeUp, -9)), false)
	wantResults(t, "from the least odd one", results(impl.WordOfCycle(threeUp, -5)), "oeo")
	wantResults(t, "of one sign", results(impl.WordOfCycle(threeUp, -1)), "o")
	wantResults(t, "on both sides of 0", results(impl.CycleOf(impl.Map{Times: 1, Plus: -9}, 3)), []int{-12, -6, -3})
	wantResults(t, "found", results(impl.CyclesUpTo(impl.Map{Times: 3, Plus: -7}, 6)), []int{-40})
}

func TestNumbersThatAreOnTheirCycle(t *testing.T) {
	wantResults(t, "1", results(impl.LeadOf(threeUp, 1)), 0, 3)
	wantResults(t, "2", results(impl.LeadOf(threeUp, 2)), 0, 3)
	wantResults(t, "2 on", results(impl.IsOnCycle(threeUp, 2)), true)
	wantResults(t, "from 1", results(impl.CycleOf(threeUp, 2)), []int{1, 4, 2})
	wantResults(t, "3 is not", results(impl.IsOnCycle(threeUp, 3)), false)
	wantResults(t, "8 is not", results(impl.IsOnCycle(threeUp, 8)), false)
	wantResults(t, "the greatest of 18", results(impl.LeadOf(threeDown, 272)), 0, 18)
	wantResults(t, "beside it", results(impl.IsOnCycle(threeDown, 271)), false)
}

// By 3x+1 2610744987 comes to 1 behind 1050 steps: 50 steps on its way the cycle closes one step too late, and 51 steps on it just in time.
func TestStepsOfCyclesMetExactly(t *testing.T) {
	late, ok := impl.NumberAfter(threeUp, 2610744987, 50)
	last := toldNext(threeUp, late)
	path := toldPath(toldNext, threeUp, late, impl.MaxSteps+1)
	if !ok || len(path) != impl.MaxSteps+2 || path[impl.MaxSteps+1] != path[impl.MaxSteps-2] || slices.Index(path, 4) != impl.MaxSteps-2 {
		t.Fatal("the number does not come to 4 behind MaxSteps - 2 steps")
	}
	wantResults(t, "lead", results(impl.LeadOf(threeUp, last)), impl.MaxSteps-3, 3)
	wantResults(t, "cycle", results(impl.CycleOf(threeUp, last)), []int{1, 4, 2})
	wantResults(t, "on", results(impl.IsOnCycle(threeUp, last)), false)
	wantResults(t, "word", results(impl.WordOfCycle(threeUp, last)), "oe")
	wantResults(t, "late on", results(impl.IsOnCycle(threeUp, late)), false)
	for _, n := range []int{late, 2610744987} {
		wantFailed(t, map[string][]any{
			fmt.Sprint("lead of ", n): results(impl.LeadOf(threeUp, n)), fmt.Sprint("cycle of ", n): results(impl.CycleOf(threeUp, n)),
			fmt.Sprint("word of ", n): results(impl.WordOfCycle(threeUp, n)),
		})
	}
}

func TestNumbersOfCyclesMetExactly(t *testing.T) {
	wantResults(t, "MaxNumber", results(impl.CycleOf(threeUp, impl.MaxNumber)), []int{1, 4, 2})
	wantResults(t, "to MaxNumber", results(impl.CycleOf(threeUp, 333333333333)), []int{1, 4, 2})
	wantResults(t, "to -MaxNumber", results(impl.CycleOf(threeDown, -333333333333)), []int{-4, -2, -1})
	wantResults(t, "MaxNumber on", results(impl.IsOnCycle(threeUp, impl.MaxNumber)), false)
	// By 3x+1 333333333335 comes to what is too great, and 666666666670 to 333333333335.
	for _, n := range []int{333333333335, 666666666670} {
		wantResults(t, "not on", results(impl.IsOnCycle(threeUp, n)), false)
		wantResults(t, "not on below 0", results(impl.IsOnCycle(threeDown, -n)), false)
		wantFailed(t, map[string][]any{
			"cycle": results(impl.CycleOf(threeUp, n)), "lead": results(impl.LeadOf(threeUp, n)), "word": results(impl.WordOfCycle(threeUp, n)),
			"cycle below 0": results(impl.CycleOf(threeDown, -n)), "lead below 0": results(impl.LeadOf(threeDown, -n)),
		})
	}
}

func TestCyclesUpToALimit(t *testing.T) {
	for _, m := range allMaps() {
		found, lost := map[int]bool{}, 0
		for limit := 1; limit <= impl.MaxFound; limit++ {
			if _, cycle, comes := toldLoop(m, limit); comes {
				found[cycle[0]] = true
			} else {
				lost++
			}
			if limit > 9 && limit%97 != 0 && limit < impl.MaxFound {
				continue
			}
			var want []int
			for n := range found {
				want = append(want, n)
			}
			slices.Sort(want)
			name := fmt.Sprint(m, limit)
			if got, ok := impl.CyclesUpTo(m, limit); !ok || !slices.Equal(got, want) {
				t.Error("CyclesUpTo", name, got, ok, "want", want)
			}
			wantResults(t, "CountLost "+name, results(impl.CountLost(m, limit)), lost)
		}
	}
}

func TestMapsByWhichMostNumbersAreLost(t *testing.T) {
	wantResults(t, "none by 3x+1", results(impl.CountLost(threeUp, impl.MaxFound)), 0)
	wantResults(t, "most by 5x+1", results(impl.CountLost(impl.Map{Times: 5, Plus: 1}, impl.MaxFound)), 221)
	wantResults(t, "cycles by 5x+1", results(impl.CyclesUpTo(impl.Map{Times: 5, Plus: 1}, impl.MaxFound)), []int{1, 13, 17})
	all := impl.Map{Times: 9, Plus: 1}
	wantResults(t, "all by 9x+1", results(impl.CountLost(all, impl.MaxFound)), impl.MaxFound)
	wantResults(t, "1 by 9x+1", results(impl.CountLost(all, 1)), 1)
	for _, limit := range []int{1, impl.MaxFound} {
		if got, ok := impl.CyclesUpTo(all, limit); len(got) != 0 || !ok {
			t.Error("cycles by 9x+1", limit, got, ok)
		}
	}
}

func TestWhatWordsDo(t *testing.T) {
	words := turnWords()
	for _, m := range allMaps() {
		for _, w := range words {
			d := float64(int(1) << len(w))
			zero, one := toldDone(m, w, 0), toldDone(m, w, 1)
			wantResults(t, fmt.Sprint("WordDoes ", m, w), results(impl.WordDoes(m, w)), int((one-zero)*d), int(zero*d), int(d))
		}
	}
	wantResults(t, "e", results(impl.WordDoes(threeUp, "e")), 1, 0, 2)
	wantResults(t, "o", results(impl.WordDoes(threeDown, "o")), 3, -1, 2)
	wantResults(t, "all e", results(impl.WordDoes(threeUp, strings.Repeat("e", impl.MaxWord))), 1, 0, 1024)
	wantResults(t, "all o", results(impl.WordDoes(impl.Map{Times: 9, Plus: -9}, strings.Repeat("o", impl.MaxWord))), 3486784401, -9*(3486784401-1024)/7, 1024)
}

func TestWordsDoNotChangeTheirNumbers(t *testing.T) {
	words := turnWords()
	for _, m := range someMaps {
		for _, w := range words {
			num, den, ok := impl.NumberOfWord(m, w)
			name := fmt.Sprint("NumberOfWord ", m, w)
			if !ok || den <= 0 {
				t.Fatal(name, num, den, ok)
			}
			x := big.NewRat(int64(num), int64(den))
			if x.Denom().Int64() != int64(den) {
				t.Error(name, num, den, "are not in lowest terms")
			}
			if behind := toldDoneBig(m, w, x); behind.Cmp(x) != 0 {
				t.Error(name, x, "becomes", behind)
			}
		}
	}
}

func TestNumbersOfWords(t *testing.T) {
	for _, c := range []struct {
		m        impl.Map
		w        string
		num, den int
	}{
		{threeUp, "e", 0, 1}, {threeDown, "eeeeeeeeee", 0, 1}, {threeUp, "o", -1, 1}, {threeDown, "o", 1, 1},
		{threeUp, "oooooooooo", -1, 1}, {threeUp, "eo", 2, 1}, {threeUp, "oee", 1, 5}, {threeUp, "oooe", -19, 11}, {threeUp, "oeoeoe", 1, 1},
		{impl.Map{Times: 3, Plus: 3}, "oee", 3, 5}, {impl.Map{Times: 3, Plus: 5}, "oee", 1, 1}, {impl.Map{Times: 3, Plus: -5}, "oee", -1, 1},
		{impl.Map{Times: 1, Plus: 9}, "oe", 3, 1}, {impl.Map{Times: 9, Plus: -9}, "o", 9, 7}, {impl.Map{Times: 9, Plus: 9}, "oooooooooo", -9, 7},
	} {
		wantResults(t, fmt.Sprint(c), results(impl.NumberOfWord(c.m, c.w)), c.num, c.den)
	}
}

func TestCycleWordsAreThoseOfWholeNumbers(t *testing.T) {
	words := turnWords()
	for _, m := range allMaps() {
		var want []string
		for _, w := range words {
			num, den, _ := impl.NumberOfWord(m, w)
			is := false
			if den == 1 {
				has, behind := toldWord(m, num, len(w))
				is = has == w
				if is && behind.Cmp(big.NewInt(int64(num))) != 0 {
					t.Error(m, w, num, "becomes", behind)
				}
			}
			wantResults(t, fmt.Sprint("IsCycleWord ", m, w), results(impl.IsCycleWord(m, w)), is)
			if is && toldIsPrimitive(w) && slices.Min(toldTurns(w)) == w {
				want = append(want, w)
			}
		}
		checkCycleWords(t, m, want)
	}
}

func TestCycleWords(t *testing.T) {
	for w, want := range map[string]bool{
		"e": true, "o": true, "oe": true, "eo": true, "oeo": true, "oee": false, "oooe": false, "oeoeoeoeoe": true, "oeoeoeoeoo": false,
		strings.Repeat("e", impl.MaxWord): true, strings.Repeat("o", impl.MaxWord): true,
	} {
		wantResults(t, w, results(impl.IsCycleWord(threeUp, w)), want)
	}
	wantResults(t, "whole by 3x+5", results(impl.IsCycleWord(impl.Map{Times: 3, Plus: 5}, "oee")), true)
	wantResults(t, "whole by 3x-5", results(impl.IsCycleWord(impl.Map{Times: 3, Plus: -5}, "oee")), true)
	wantResults(t, "of 1", results(impl.CycleWords(threeUp, 1)), []string{"e", "o"})
	wantResults(t, "of 3", results(impl.CycleWords(threeUp, 3)), []string{"eoo"})
	wantResults(t, "of 7", results(impl.CycleWords(impl.Map{Times: 5, Plus: 1}, 7)), []string{"eeeeooo", "eeoeeoo"})
	wantResults(t, "of 9", results(impl.CountCycleWords(impl.Map{Times: 5, Plus: 9}, 9)), 1)
	for _, m := range allMaps() {
		if got, ok := impl.CycleWords(m, impl.MaxWord); len(got) != 0 || !ok {
			t.Error("of MaxWord", m, got, ok)
		}
	}
}

// checkCycleWords requires that the words of each length are those of this length that are wanted, and belong to cycles.
func checkCycleWords(t *testing.T, m impl.Map, want []string) {
	t.Helper()
	for length := 1; length <= impl.MaxWord; length++ {
		ofLength := slices.DeleteFunc(slices.Clone(want), func(w string) bool { return len(w) != length })
		name := fmt.Sprint(m, length)
		if got, ok := impl.CycleWords(m, length); !ok || !slices.Equal(got, ofLength) {
			t.Error("CycleWords", name, got, ok, "want", ofLength)
		}
		wantResults(t, "CountCycleWords "+name, results(impl.CountCycleWords(m, length)), len(ofLength))
		for _, w := range ofLength {
			num, _, _ := impl.NumberOfWord(m, w)
			wantResults(t, fmt.Sprint(name, num, " on"), results(impl.IsOnCycle(m, num)), true)
			word, ok := impl.WordOfCycle(m, num)
			if !ok || !slices.Contains(toldTurns(word), w) {
				t.Error(name, num, "is the number of", w, "and on the cycle of", word)
			}
		}
	}
}

// TestWordsOfCycles has words of all lengths that there are up to MaxWord: no map has a cycle whose word has just MaxWord signs.
func TestWordsOfCycles(t *testing.T) {
	fiveUp := impl.Map{Times: 5, Plus: 9}
	wantResults(t, "1 sign", results(impl.WordOfCycle(threeDown, 3)), "o")
	wantResults(t, "5 by 3x-1", results(impl.WordOfCycle(threeDown, 20)), "ooe")
	wantResults(t, "two that are odd", results(impl.WordOfCycle(impl.Map{Times: 5, Plus: 1}, 3)), "ooeee")
	wantResults(t, "least not odd", results(impl.WordOfCycle(impl.Map{Times: 3, Plus: -7}, 1)), "oeeo")
	wantResults(t, "9 signs", results(impl.WordOfCycle(fiveUp, 1)), "ooeoeeeee")
	for name, n := range map[string]int{"11 signs": 17, "11 signs from its greatest one": 272, "11 signs from before it": 21} {
		if _, cycle, _ := toldLoop(threeDown, n); len(toldWordOfCycle(threeDown, cycle)) != impl.MaxWord+1 {
			t.Error(n, "has the cycle", cycle)
		}
		wantFailed(t, map[string][]any{name: results(impl.WordOfCycle(threeDown, n))})
	}
	wantFailed(t, map[string][]any{"63 signs": results(impl.WordOfCycle(fiveUp, 29)), "lost": results(impl.WordOfCycle(impl.Map{Times: 9, Plus: 1}, 1))})
}

func TestTurnsOfWords(t *testing.T) {
	for _, w := range turnWords() {
		turns := toldTurns(w)
		for k, want := range turns {
			wantResults(t, fmt.Sprint("TurnWord ", w, k), results(impl.TurnWord(w, k)), want)
		}
		wantResults(t, "LeastTurn "+w, results(impl.LeastTurn(w)), slices.Min(turns))
		wantResults(t, "IsPrimitive "+w, results(impl.IsPrimitive(w)), toldIsPrimitive(w))
		for _, k := range []int{math.MinInt, -1, len(w), len(w) + 1, math.MaxInt} {
			wantFailed(t, map[string][]any{fmt.Sprint("TurnWord ", w, k): results(impl.TurnWord(w, k))})
		}
	}
	wantResults(t, "by 0", results(impl.TurnWord("ooe", 0)), "ooe")
	wantResults(t, "by one less than it has", results(impl.TurnWord("ooeeeeeeee", impl.MaxWord-1)), "eooeeeeeee")
	wantResults(t, "of 1 sign", results(impl.TurnWord("o", 0)), "o")
	wantResults(t, "least of MaxWord", results(impl.LeastTurn("ooeeoeeeoe")), "eeeoeooeeo")
	wantResults(t, "least is itself", results(impl.LeastTurn("eeo")), "eeo")
	wantResults(t, "least of all o", results(impl.LeastTurn("oooooooooo")), "oooooooooo")
}

func TestPrimitiveWords(t *testing.T) {
	for w, want := range map[string]bool{
		"e": true, "o": true, "ee": false, "oo": false, "oe": true, "ooo": false, "oeo": true, "oeoe": false, "oeeo": true, "ooeooe": false,
		"ooeoe": true, "oeoeoeoeoe": false, "ooeeoooeeo": false, "oeoeoeoeoo": true, "eeeeeeeeee": false, "eeeeeeeeeo": true,
	} {
		wantResults(t, w, results(impl.IsPrimitive(w)), want)
	}
}

func TestCountOfPrimitiveWords(t *testing.T) {
	for length := 1; length <= impl.MaxWord; length++ {
		counts := make([]int, length+1)
		for _, w := range toldAllWords(length) {
			if toldIsPrimitive(w) && slices.Min(toldTurns(w)) == w {
				counts[strings.Count(w, "o")]++
			}
		}
		for odd, want := range counts {
			wantResults(t, fmt.Sprint(length, odd), results(impl.CountPrimitive(length, odd)), want)
		}
		for _, odd := range []int{math.MinInt, -1, length + 1, math.MaxInt} {
			wantFailed(t, map[string][]any{fmt.Sprint(length, odd): results(impl.CountPrimitive(length, odd))})
		}
	}
	wantResults(t, "1 and 0", results(impl.CountPrimitive(1, 0)), 1)
	wantResults(t, "1 and 1", results(impl.CountPrimitive(1, 1)), 1)
	wantResults(t, "2 and 2", results(impl.CountPrimitive(2, 2)), 0)
	wantResults(t, "MaxWord and 0", results(impl.CountPrimitive(impl.MaxWord, 0)), 0)
	wantResults(t, "MaxWord and 1", results(impl.CountPrimitive(impl.MaxWord, 1)), 1)
	wantResults(t, "MaxWord and all", results(impl.CountPrimitive(impl.MaxWord, impl.MaxWord)), 0)
	// 252 words have 5 of 10; the 2 turns of oe five times are no primitive ones; the others are 10 turns of one each.
	wantResults(t, "MaxWord and half", results(impl.CountPrimitive(impl.MaxWord, 5)), 25)
}

// cycleCalls has all calls of the chapter that take a map.
func cycleCalls(m impl.Map, n int, w string, limit int, length int) map[string][]any {
	return map[string][]any{
		"CycleOf": results(impl.CycleOf(m, n)), "LeadOf": results(impl.LeadOf(m, n)), "IsOnCycle": results(impl.IsOnCycle(m, n)),
		"WordOfCycle": results(impl.WordOfCycle(m, n)), "CyclesUpTo": results(impl.CyclesUpTo(m, limit)), "CountLost": results(impl.CountLost(m, limit)),
		"WordDoes": results(impl.WordDoes(m, w)), "NumberOfWord": results(impl.NumberOfWord(m, w)), "IsCycleWord": results(impl.IsCycleWord(m, w)),
		"CycleWords": results(impl.CycleWords(m, length)), "CountCycleWords": results(impl.CountCycleWords(m, length)),
	}
}

// turnCalls has all other calls of the chapter.
func turnCalls(w string, k int, length int, odd int) map[string][]any {
	return map[string][]any{
		"TurnWord": results(impl.TurnWord(w, k)), "LeastTurn": results(impl.LeastTurn(w)), "IsPrimitive": results(impl.IsPrimitive(w)),
		"CountPrimitive": results(impl.CountPrimitive(length, odd)),
	}
}

// only leaves the calls for which an argument is invalid.
func only(calls map[string][]any, names ...string) map[string][]any {
	left := map[string][]any{}
	for _, name := range names {
		left[name] = calls[name]
	}
	return left
}

func TestInvalidArgumentsOfCyclesFail(t *testing.T) {
	for _, calls := range []map[string][]any{cycleCalls(threeUp, 7, "oe", 1, 1), turnCalls("oe", 1, 2, 1)} {
		for name, got := range calls {
			if got[len(got)-1] != true {
				t.Error(name, "failed with valid arguments")
			}
		}
	}
	for _, m := range noMaps {
		wantFailed(t, cycleCalls(m, 7, "oe", 9, 2))
		wantFailed(t, cycleCalls(m, 0, "e", impl.MaxFound, 1))
	}
	for _, n := range noNumbers {
		wantFailed(t, only(cycleCalls(threeUp, n, "oe", 9, 2), "CycleOf", "LeadOf", "IsOnCycle", "WordOfCycle"))
	}
	for _, w := range noTurnWords {
		wantFailed(t, only(cycleCalls(threeUp, 7, w, 9, 2), "WordDoes", "NumberOfWord", "IsCycleWord"))
		wantFailed(t, only(turnCalls(w, 0, 2, 1), "TurnWord", "LeastTurn", "IsPrimitive"))
	}
	for _, limit := range noFoundLimits {
		wantFailed(t, only(cycleCalls(threeUp, 7, "oe", limit, 2), "CyclesUpTo", "CountLost"))
	}
	for _, length := range noTurnLengths {
		wantFailed(t, only(cycleCalls(threeUp, 7, "oe", 9, length), "CycleWords", "CountCycleWords"))
		wantFailed(t, only(turnCalls("oe", 0, length, 0), "CountPrimitive"))
		wantFailed(t, only(turnCalls("oe", 0, length, length), "CountPrimitive"))
	}
}

func TestNoArgumentOfCyclesPanics(t *testing.T) {
	for _, m := range []impl.Map{{}, {Times: math.MinInt, Plus: math.MaxInt}, threeUp, {Times: 9, Plus: -9}, {Times: 1, Plus: 9}} {
		for _, w := range []string{"", "oe", strings.Repeat("o", impl.MaxWord), "x", "o\xff", strings.Repeat("e", impl.MaxWord+1)} {
			for _, n := range extremes {
				for name, got := range cycleCalls(m, n, w, n, n) {
					wantNoHalfFailure(t, fmt.Sprint(name, m, w, n), got)
				}
			}
		}
	}
	for _, w := range []string{"", "o", "oee", strings.Repeat("oe", impl.MaxWord/2), strings.Repeat("oe", impl.MaxWord), "\xff"} {
		for _, n := range extremes {
			for _, odd := range extremes {
				for name, got := range turnCalls(w, n, n, odd) {
					wantNoHalfFailure(t, fmt.Sprint(name, w, n, odd), got)
				}
			}
		}
	}
}

func TestResultsOfCyclesAreNew(t *testing.T) {
	cycle, _ := impl.CycleOf(threeUp, 7)
	cycle[0] = 0
	wantResults(t, "cycle", results(impl.CycleOf(threeUp, 7)), []int{1, 4, 2})
	found, _ := impl.CyclesUpTo(threeDown, 20)
	found[0] = 0
	wantResults(t, "found", results(impl.CyclesUpTo(threeDown, 20)), []int{1, 5, 17})
	words, _ := impl.CycleWords(threeUp, 1)
	words[0] = ""
	wantResults(t, "words", results(impl.CycleWords(threeUp, 1)), []string{"e", "o"})
	w := strings.Repeat("eo", 3)
	if same, _ := impl.TurnWord(w, 0); unsafe.StringData(same) == unsafe.StringData(w) {
		t.Error("the turned word is the argument")
	}
	if least, _ := impl.LeastTurn(w); unsafe.StringData(least) == unsafe.StringData(w) {
		t.Error("the least turn is the argument")
	}
}
