package tests

import (
	"fmt"
	"math"
	"math/big"
	"math/rand"
	"reflect"
	"slices"
	"strings"
	"testing"
	"unsafe"

	"loop.example/g01293/impl"
)

// noWords are texts with another sign, or with a sign too many.
var noWords = []string{
	"x", "O", "E", "0", "oex", "xoe", " oe", "oe ", "o e", "oe\n", "\x00", "o\xff", "\xc3", "\xc3o", "o\u0435", "\u043e", "o,e",
	strings.Repeat("o", impl.MaxTold+1), strings.Repeat("e", impl.MaxTold+1), strings.Repeat("oe", 5000),
}

var noNumbers = []int{math.MinInt, -impl.MaxNumber - 1, impl.MaxNumber + 1, math.MaxInt}

var noLengths = []int{math.MinInt, -1, impl.MaxTold + 1, 64, math.MaxInt}

// someMaps have each Times, and Plus of both signs and of different sizes.
var someMaps = []impl.Map{
	threeUp, threeDown, {Times: 1, Plus: 1}, {Times: 1, Plus: -9}, {Times: 3, Plus: -9}, {Times: 5, Plus: 7}, {Times: 7, Plus: -5},
	{Times: 9, Plus: 9}, {Times: 9, Plus: -9}, {Times: 9, Plus: -7}, {Times: 9, Plus: 7},
}

// toldShortBig is toldShort for numbers of whichever size.
func toldShortBig(m impl.Map, n *big.Int) *big.Int {
	next := new(big.Int).Set(n)
	if n.Bit(0) == 1 {
		next.Mul(next, big.NewInt(int64(m.Times)))
		next.Add(next, big.NewInt(int64(m.Plus)))
	}
	return next.Rsh(next, 1)
}

// toldWord returns the word of a number and what it is behind that word.
func toldWord(m impl.Map, n int, length int) (string, *big.Int) {
	at := big.NewInt(int64(n))
	var signs []byte
	for range length {
		signs = append(signs, "eo"[at.Bit(0)])
		at = toldShortBig(m, at)
	}
	return string(signs), at
}

// toldAllWords returns all words of a length as texts in order.
func toldAllWords(length int) []string {
	words := []string{""}
	for range length {
		var longer []string
		for _, w := range words {
			longer = append(longer, w+"e", w+"o")
		}
		words = longer
	}
	return words
}

func toldPower(base int, exponent int) *big.Int {
	return new(big.Int).Exp(big.NewInt(int64(base)), big.NewInt(int64(exponent)), nil)
}

func toldFalls(m impl.Map, w string) bool {
	return toldPower(m.Times, strings.Count(w, "o")).Cmp(toldPower(2, len(w))) < 0
}

func isBigNumber(n *big.Int) bool { return n.CmpAbs(big.NewInt(impl.MaxNumber)) <= 0 }

// sampleWords has all short words, and some that have MaxTold signs.
func sampleWords() []string {
	words := []string{strings.Repeat("o", impl.MaxTold), strings.Repeat("e", impl.MaxTold), "oooooooooooooee", "eeeeeeeeeeeeeeo"}
	for length := range 5 {
		words = append(words, toldAllWords(length)...)
	}
	random := rand.New(rand.NewSource(2))
	for range 12 {
		var signs []byte
		for range 5 + random.Intn(impl.MaxTold-4) {
			signs = append(signs, "eo"[random.Intn(2)])
		}
		words = append(words, string(signs))
	}
	return words
}

func TestExampleOfWords(t *testing.T) {
	wantResults(t, "word", results(impl.WordOf(threeUp, 7, 4)), "oooe")
	wantResults(t, "residue", results(impl.ResidueOfWord(threeUp, "oooe")), 7)
	wantResults(t, "word of residue", results(impl.WordOfResidue(threeUp, 7, 4)), "oooe")
	wantResults(t, "behind", results(impl.BehindWord(threeUp, "oooe")), 27, 13)
	wantResults(t, "7 behind", results(impl.NumberBehind(threeUp, "oooe", 0)), 13)
	wantResults(t, "23 behind", results(impl.NumberBehind(threeUp, "oooe", 1)), 40)
	wantResults(t, "numbers", results(impl.NumbersWithWord(threeUp, "ooo", 1, 3)), []int{7, 15, 23})
	wantResults(t, "common", results(impl.CommonLength(threeUp, 7, 23)), 4)
	wantResults(t, "falling", results(impl.CountFalling(threeUp, 2)), 3)
	wantResults(t, "falling words", results(impl.FallingWords(threeUp, 2)), []string{"ee", "eo", "oe"})
	wantResults(t, "power", results(impl.LeastPower(threeUp, 5)), 8)
	wantResults(t, "odds", results(impl.OddsOfWord("oooe")), 3)
	wantResults(t, "words", results(impl.CountOfWords(threeUp, []int{7, 23, 8}, 4)), 2)
	wantResults(t, "after", results(impl.WordAfter(threeUp, "oooe", 3)), "e")
	wantResults(t, "join", results(impl.JoinResidue(threeUp, "oo", "oe")), 7)
}

// TestWordsTellEachShortStep has numbers that become too great for an int within MaxTold short steps.
func TestWordsTellEachShortStep(t *testing.T) {
	for _, m := range allMaps() {
		for _, n := range sampleNumbers() {
			for _, length := range []int{0, 1, 2, 7, impl.MaxTold - 1, impl.MaxTold} {
				want, _ := toldWord(m, n, length)
				wantResults(t, fmt.Sprint("WordOf ", m, n, length), results(impl.WordOf(m, n, length)), want)
				wantResults(t, fmt.Sprint("HasWord ", m, n, want), results(impl.HasWord(m, n, want)), true)
				if length > 0 {
					other := want[:length-1] + strings.Trim("eo", want[length-1:])
					wantResults(t, fmt.Sprint("HasWord ", m, n, other), results(impl.HasWord(m, n, other)), false)
				}
			}
		}
	}
	if _, at := toldWord(impl.Map{Times: 9, Plus: -7}, -impl.MaxNumber+1, impl.MaxTold); isBigNumber(at) {
		t.Error("the test has no number that becomes too great")
	}
	wantResults(t, "too great", results(impl.WordOf(impl.Map{Times: 9, Plus: -7}, 1+30517578<<15, impl.MaxTold)), strings.Repeat("o", impl.MaxTold))
}

func TestWordsAreThoseOfResidues(t *testing.T) {
	for _, m := range allMaps() {
		for length := range 7 {
			checkResidues(t, m, length)
		}
	}
	for _, m := range []impl.Map{threeUp, {Times: 9, Plus: -9}, {Times: 1, Plus: -1}} {
		checkResidues(t, m, impl.MaxTold)
	}
}

// checkResidues requires that the residues and the words of a length belong together one by one.
func checkResidues(t *testing.T, m impl.Map, length int) {
	t.Helper()
	residueOf := map[string]int{}
	for residue := range 1 << length {
		w, _ := toldWord(m, residue, length)
		residueOf[w] = residue
		if got, ok := impl.WordOfResidue(m, residue, length); got != w || !ok {
			t.Error("WordOfResidue", m, residue, length, got, ok, "want", w)
		}
		if got, ok := impl.ResidueOfWord(m, w); got != residue || !ok {
			t.Error("ResidueOfWord", m, w, got, ok, "want", residue)
		}
	}
	if len(residueOf) != 1<<length {
		t.Error(m, length, "has", len(residueOf), "different words")
	}
	wantFailed(t, map[string][]any{
		fmt.Sprint(m, length, " the power"): results(impl.WordOfResidue(m, 1<<length, length)),
		fmt.Sprint(m, length, " -1"):        results(impl.WordOfResidue(m, -1, length)),
	})
}

func TestNumbersWithWord(t *testing.T) {
	for _, m := range someMaps {
		for _, w := range append(toldAllWords(4), "", "o", "e", "oeo") {
			for _, from := range []int{-impl.MaxNumber, -1000, -17, -1, 0, 1, 16, 999999, impl.MaxNumber - 900} {
				var want []int
				for n := from; len(want) < 50; n++ {
					if has, _ := toldWord(m, n, len(w)); has == w {
						want = append(want, n)
					}
				}
				for _, count := range []int{0, 1, 2, 50} {
					got, ok := impl.NumbersWithWord(m, w, from, count)
					if !ok || !slices.Equal(got, want[:count]) {
						t.Error(m, w, from, count, got, ok, "want", want[:count])
					}
				}
			}
		}
	}
}

// TestNumbersWithWordUpToTheGreatest goes by the word e, which just the even numbers have, and by the empty one, which all have.
func TestNumbersWithWordUpToTheGreatest(t *testing.T) {
	wantResults(t, "last", results(impl.NumbersWithWord(threeUp, "e", impl.MaxNumber, 1)), []int{impl.MaxNumber})
	wantResults(t, "last two", results(impl.NumbersWithWord(threeUp, "e", impl.MaxNumber-3, 2)), []int{impl.MaxNumber - 2, impl.MaxNumber})
	wantResults(t, "of no sign", results(impl.NumbersWithWord(threeUp, "", impl.MaxNumber-1, 2)), []int{impl.MaxNumber - 1, impl.MaxNumber})
	wantResults(t, "first", results(impl.NumbersWithWord(threeUp, "e", -impl.MaxNumber, 2)), []int{-impl.MaxNumber, -impl.MaxNumber + 2})
	for _, w := range []string{"o", "e", ""} {
		if got, ok := impl.NumbersWithWord(threeUp, w, impl.MaxNumber, 0); len(got) != 0 || !ok {
			t.Error("no numbers with", w, got, ok)
		}
	}
	wantFailed(t, map[string][]any{
		"none left":      results(impl.NumbersWithWord(threeUp, "o", impl.MaxNumber, 1)),
		"too few":        results(impl.NumbersWithWord(threeUp, "e", impl.MaxNumber, 2)),
		"one too few":    results(impl.NumbersWithWord(threeUp, "e", impl.MaxNumber-97, 50)),
		"too few of all": results(impl.NumbersWithWord(threeUp, "", impl.MaxNumber-1, 3)),
		"count 51":       results(impl.NumbersWithWord(threeUp, "e", 1, 51)),
		"count -1":       results(impl.NumbersWithWord(threeUp, "e", 1, -1)),
	})
	if got, ok := impl.NumbersWithWord(threeUp, "e", impl.MaxNumber-98, 50); !ok || len(got) != 50 || got[49] != impl.MaxNumber {
		t.Error("the last 50", got, ok)
	}
}

func TestWhatWordsDoToAllNumbers(t *testing.T) {
	for _, m := range allMaps() {
		for _, w := range sampleWords() {
			residue, ok := impl.ResidueOfWord(m, w)
			if !ok {
				t.Fatal("no residue", m, w)
			}
			zero := checkBehind(t, m, w, residue, 0)
			one := checkBehind(t, m, w, residue, 1)
			for _, k := range []int{-1000, -999, -1, 2, 37, 1000} {
				checkBehind(t, m, w, residue, k)
			}
			factor := new(big.Int).Sub(one, zero)
			name := fmt.Sprint("BehindWord ", m, w)
			isNone := !isBigNumber(factor) || !isBigNumber(zero)
			wantUnless(t, name, isNone, results(impl.BehindWord(m, w)), int(factor.Int64()), int(zero.Int64()))
			wantFailed(t, map[string][]any{
				name + " k 1001":  results(impl.NumberBehind(m, w, 1001)),
				name + " k -1001": results(impl.NumberBehind(m, w, -1001)),
			})
		}
	}
}

// checkBehind returns what the number becomes behind its word.
func checkBehind(t *testing.T, m impl.Map, w string, residue int, k int) *big.Int {
	t.Helper()
	has, behind := toldWord(m, k<<len(w)+residue, len(w))
	if has != w {
		t.Error(m, k, "has the word", has, "not", w)
	}
	wantUnless(t, fmt.Sprint("NumberBehind ", m, w, k), !isBigNumber(behind), results(impl.NumberBehind(m, w, k)), int(behind.Int64()))
	return behind
}

// TestBehindWordsThatAreTooGreat goes by 9x-7, by which 1 comes to 1, and by 9x+7, by which -1 comes to -1.
func TestBehindWordsThatAreTooGreat(t *testing.T) {
	minus, plus := impl.Map{Times: 9, Plus: -7}, impl.Map{Times: 9, Plus: 7}
	twelve, thirteen := strings.Repeat("o", 12), strings.Repeat("o", 13)
	wantResults(t, "nothing", results(impl.BehindWord(minus, "")), 1, 0)
	wantResults(t, "nothing for 1000", results(impl.NumberBehind(minus, "", 1000)), 1000)
	wantResults(t, "9 to the power of 12", results(impl.BehindWord(minus, twelve)), 282429536481, 1)
	wantResults(t, "less than 0", results(impl.BehindWord(impl.Map{Times: 3, Plus: -9}, "o")), 3, -3)
	wantResults(t, "thrice", results(impl.NumberBehind(minus, twelve, 3)), 3*282429536481+1)
	wantResults(t, "too great for others", results(impl.NumberBehind(minus, thirteen, 0)), 1)
	wantResults(t, "too great for other ones", results(impl.NumberBehind(plus, thirteen, -1)), -1)
	wantFailed(t, map[string][]any{
		"9 to the power of 13": results(impl.BehindWord(minus, thirteen)),
		"with an e":            results(impl.BehindWord(minus, thirteen+"e")),
		"four times":           results(impl.NumberBehind(minus, twelve, 4)),
		"-4 times":             results(impl.NumberBehind(minus, twelve, -4)),
		"once":                 results(impl.NumberBehind(minus, thirteen, 1)),
		"-1000 times":          results(impl.NumberBehind(minus, strings.Repeat("o", impl.MaxTold), -1000)),
	})
}

func TestCommonLength(t *testing.T) {
	for _, m := range someMaps {
		for _, pair := range [][2]int{
			{7, 23}, {23, 7}, {0, 1}, {0, -1}, {-1, 1}, {0, 1024}, {5, 5 + 1<<15}, {-3, -3 + 3<<20}, {impl.MaxNumber, -impl.MaxNumber},
			{impl.MaxNumber, impl.MaxNumber - 1}, {1 << 39, -1 << 39}, {1<<39 + 1, -1<<39 + 1}, {-impl.MaxNumber, -impl.MaxNumber + 1<<40},
		} {
			length := 0
			for {
				a, _ := toldWord(m, pair[0], length+1)
				b, _ := toldWord(m, pair[1], length+1)
				if a != b {
					break
				}
				length++
			}
			wantResults(t, fmt.Sprint(m, pair), results(impl.CommonLength(m, pair[0], pair[1])), length)
		}
	}
	wantResults(t, "greatest", results(impl.CommonLength(threeUp, 1<<39, -1<<39)), 40)
	for _, n := range []int{0, 1, -7, impl.MaxNumber, -impl.MaxNumber} {
		wantFailed(t, map[string][]any{fmt.Sprint("the same ", n): results(impl.CommonLength(threeUp, n, n))})
	}
}

func TestFallingWords(t *testing.T) {
	for _, m := range allMaps() {
		for length := range 9 {
			var want []string
			for _, w := range toldAllWords(length) {
				isFalling := toldFalls(m, w)
				wantResults(t, fmt.Sprint("IsFalling ", m, w), results(impl.IsFalling(m, w)), isFalling)
				if isFalling {
					want = append(want, w)
				}
			}
			wantResults(t, fmt.Sprint("CountFalling ", m, length), results(impl.CountFalling(m, length)), len(want))
			if got, ok := impl.FallingWords(m, length); !ok || !slices.Equal(got, want) {
				t.Error("FallingWords", m, length, got, ok, "want", want)
			}
		}
		wantFailed(t, map[string][]any{
			"length 9": results(impl.FallingWords(m, 9)), "MaxTold": results(impl.FallingWords(m, impl.MaxTold)),
			"length -1": results(impl.FallingWords(m, -1)), "count of length -1": results(impl.CountFalling(m, -1)),
			"count of length 16": results(impl.CountFalling(m, 16)),
		})
	}
	wantResults(t, "empty", results(impl.IsFalling(threeUp, "")), false)
	wantResults(t, "none is empty", results(impl.CountFalling(threeUp, 0)), 0)
	wantResults(t, "243 and 128", results(impl.IsFalling(threeUp, "oooooee")), false)
	wantResults(t, "243 and 256", results(impl.IsFalling(threeUp, "oooooeee")), true)
	wantResults(t, "all o by 1x+1", results(impl.IsFalling(impl.Map{Times: 1, Plus: 1}, "o")), true)
}

func TestFallingWordsOfMaxTold(t *testing.T) {
	words := toldAllWords(impl.MaxTold)
	for _, m := range someMaps {
		count := 0
		for _, w := range words {
			if toldFalls(m, w) {
				count++
			}
		}
		wantResults(t, fmt.Sprint(m), results(impl.CountFalling(m, impl.MaxTold)), count)
	}
	wantResults(t, "9 to the power of 15", results(impl.IsFalling(impl.Map{Times: 9, Plus: 1}, strings.Repeat("o", impl.MaxTold))), false)
	wantResults(t, "9 to the power of 4", results(impl.IsFalling(impl.Map{Times: 9, Plus: 1}, "ooooeeeeeeeeeee")), true)
	wantResults(t, "9 to the power of 5", results(impl.IsFalling(impl.Map{Times: 9, Plus: 1}, "oooooeeeeeeeeee")), false)
}

func TestLeastPower(t *testing.T) {
	for _, m := range allMaps() {
		for odds := range 21 {
			length := odds
			for toldPower(m.Times, odds).Cmp(toldPower(2, length)) >= 0 {
				length++
			}
			wantResults(t, fmt.Sprint(m, odds), results(impl.LeastPower(m, odds)), length)
		}
		for _, odds := range []int{math.MinInt, -1, 21, math.MaxInt} {
			wantFailed(t, map[string][]any{fmt.Sprint(odds): results(impl.LeastPower(m, odds))})
		}
	}
	wantResults(t, "no o", results(impl.LeastPower(threeUp, 0)), 1)
	wantResults(t, "20 of 9", results(impl.LeastPower(impl.Map{Times: 9, Plus: 1}, 20)), 64)
	wantResults(t, "20 of 1", results(impl.LeastPower(impl.Map{Times: 1, Plus: 1}, 20)), 20)
}

func TestOddsOfWord(t *testing.T) {
	for _, w := range sampleWords() {
		wantResults(t, w, results(impl.OddsOfWord(w)), len(strings.ReplaceAll(w, "e", "")))
	}
	wantResults(t, "empty", results(impl.OddsOfWord("")), 0)
	wantResults(t, "longest", results(impl.OddsOfWord(strings.Repeat("o", impl.MaxTold))), impl.MaxTold)
	for _, w := range noWords {
		wantFailed(t, map[string][]any{w: results(impl.OddsOfWord(w))})
	}
}

func TestCountOfWords(t *testing.T) {
	hundred := append(sampleNumbers()[:60], -7, -7, 9, 25, 41, -16384, 16384)
	for n := 500; len(hundred) < 100; n += 16 {
		hundred = append(hundred, n)
	}
	for _, m := range someMaps {
		for length := range impl.MaxTold + 1 {
			for _, size := range []int{0, 1, 2, 50, 99, 100} {
				words := map[string]bool{}
				for _, n := range hundred[:size] {
					w, _ := toldWord(m, n, length)
					words[w] = true
				}
				wantResults(t, fmt.Sprint(m, length, size), results(impl.CountOfWords(m, hundred[:size], length)), len(words))
			}
		}
	}
	wantResults(t, "nil", results(impl.CountOfWords(threeUp, nil, 3)), 0)
	wantResults(t, "nil of length 0", results(impl.CountOfWords(threeUp, nil, 0)), 0)
	wantResults(t, "length 0", results(impl.CountOfWords(threeUp, []int{1, 2, 3}, 0)), 1)
	wantResults(t, "limits", results(impl.CountOfWords(threeUp, []int{impl.MaxNumber, -impl.MaxNumber}, 15)), 2)
	wantFailed(t, map[string][]any{
		"101":          results(impl.CountOfWords(threeUp, append(hundred, 1), 3)),
		"101 the same": results(impl.CountOfWords(threeUp, make([]int, 101), 3)),
	})
	for _, n := range noNumbers {
		wantFailed(t, map[string][]any{fmt.Sprint(n): results(impl.CountOfWords(threeUp, []int{1, n}, 3))})
	}
}

func TestWordAfterIsTheWordBehindTheSteps(t *testing.T) {
	for _, m := range someMaps {
		for _, w := range sampleWords() {
			residue, _ := impl.ResidueOfWord(m, w)
			for steps := range len(w) + 1 {
				_, behind := toldWord(m, residue, steps)
				want, _ := toldWord(m, int(behind.Int64()), len(w)-steps)
				wantResults(t, fmt.Sprint(m, w, steps), results(impl.WordAfter(m, w, steps)), want)
			}
			for _, steps := range []int{math.MinInt, -1, len(w) + 1, math.MaxInt} {
				wantFailed(t, map[string][]any{fmt.Sprint(w, steps): results(impl.WordAfter(m, w, steps))})
			}
		}
	}
	wantResults(t, "all of it", results(impl.WordAfter(threeUp, "oeo", 0)), "oeo")
	wantResults(t, "none of it", results(impl.WordAfter(threeUp, "oeo", 3)), "")
	wantResults(t, "empty", results(impl.WordAfter(threeUp, "", 0)), "")
}

func TestJoinResidue(t *testing.T) {
	for _, m := range someMaps {
		for _, w := range sampleWords() {
			for _, v := range sampleWords() {
				name := fmt.Sprint("JoinResidue ", m, w, " ", v)
				got, ok := impl.JoinResidue(m, w, v)
				if len(w)+len(v) > impl.MaxTold {
					wantFailed(t, map[string][]any{name: results(got, ok)})
				} else if word, _ := toldWord(m, got, len(w)+len(v)); !ok || word != w+v || got < 0 || got >= 1<<(len(w)+len(v)) {
					t.Error(name, got, ok, "has the word", word)
				}
			}
		}
	}
	wantResults(t, "both empty", results(impl.JoinResidue(threeUp, "", "")), 0)
	wantResults(t, "MaxTold", results(impl.JoinResidue(threeUp, strings.Repeat("o", 8), strings.Repeat("o", 7))), 1<<15-1)
	wantFailed(t, map[string][]any{"too long": results(impl.JoinResidue(threeUp, strings.Repeat("o", 8), strings.Repeat("o", 8)))})
}

// wordCalls has all calls of the chapter that take a map and some of the others.
func wordCalls(m impl.Map, n int, w string, length int) map[string][]any {
	return map[string][]any{
		"WordOf": results(impl.WordOf(m, n, length)), "ResidueOfWord": results(impl.ResidueOfWord(m, w)),
		"WordOfResidue": results(impl.WordOfResidue(m, n, length)), "NumbersWithWord": results(impl.NumbersWithWord(m, w, n, length)),
		"HasWord": results(impl.HasWord(m, n, w)), "BehindWord": results(impl.BehindWord(m, w)),
		"NumberBehind": results(impl.NumberBehind(m, w, n)), "CommonLength": results(impl.CommonLength(m, n, length)),
		"IsFalling": results(impl.IsFalling(m, w)), "CountFalling": results(impl.CountFalling(m, length)),
		"FallingWords": results(impl.FallingWords(m, length)), "LeastPower": results(impl.LeastPower(m, length)),
		"CountOfWords": results(impl.CountOfWords(m, []int{n}, length)), "WordAfter": results(impl.WordAfter(m, w, length)),
		"JoinResidue": results(impl.JoinResidue(m, w, w)),
	}
}

// without leaves out the calls for which an argument that is invalid for others is valid.
func without(calls map[string][]any, names ...string) map[string][]any {
	for _, name := range names {
		delete(calls, name)
	}
	return calls
}

func TestInvalidArgumentsOfWordsFail(t *testing.T) {
	for name, got := range wordCalls(threeUp, 1, "oe", 2) {
		if got[len(got)-1] != true {
			t.Error(name, "failed with valid arguments")
		}
	}
	for _, m := range noMaps {
		wantFailed(t, wordCalls(m, 1, "oe", 2))
		wantFailed(t, wordCalls(m, 0, "", 0))
	}
	for _, n := range noNumbers {
		wantFailed(t, without(wordCalls(threeUp, n, "oe", 2),
			"ResidueOfWord", "BehindWord", "IsFalling", "CountFalling", "FallingWords", "LeastPower", "WordAfter", "JoinResidue"))
		wantFailed(t, map[string][]any{
			"second": results(impl.CommonLength(threeUp, 1, n)), "none": results(impl.NumbersWithWord(threeUp, "oe", n, 0)),
			"length 0": results(impl.WordOf(threeUp, n, 0)), "empty word": results(impl.HasWord(threeUp, n, "")),
		})
	}
	for _, w := range noWords {
		wantFailed(t, without(wordCalls(threeUp, 1, w, 0),
			"WordOf", "WordOfResidue", "CommonLength", "CountFalling", "FallingWords", "LeastPower", "CountOfWords"))
		wantFailed(t, map[string][]any{
			"behind": results(impl.JoinResidue(threeUp, "", w)), "before": results(impl.JoinResidue(threeUp, w, "")),
		})
	}
	for _, length := range noLengths {
		wantFailed(t, without(wordCalls(threeUp, 1, "oe", length),
			"ResidueOfWord", "NumbersWithWord", "HasWord", "BehindWord", "NumberBehind", "CommonLength", "IsFalling", "JoinResidue", "LeastPower"))
		wantFailed(t, map[string][]any{
			"residue 0": results(impl.WordOfResidue(threeUp, 0, length)), "empty list": results(impl.CountOfWords(threeUp, nil, length)),
		})
	}
}

func TestLimitsOfWordsMetExactly(t *testing.T) {
	longest := strings.Repeat("o", impl.MaxTold)
	wantResults(t, "number", results(impl.WordOf(threeUp, impl.MaxNumber, 1)), "e")
	wantResults(t, "number below 0", results(impl.WordOf(threeUp, -impl.MaxNumber, 1)), "e")
	wantResults(t, "has", results(impl.HasWord(threeUp, -impl.MaxNumber, "e")), true)
	wantResults(t, "empty word of 0", results(impl.WordOf(threeUp, 0, 0)), "")
	wantResults(t, "word of 0", results(impl.WordOf(threeUp, 0, impl.MaxTold)), strings.Repeat("e", impl.MaxTold))
	wantResults(t, "word of -1", results(impl.WordOf(threeDown, -1, impl.MaxTold)), strings.Repeat("oe", 7)+"o")
	wantResults(t, "residue", results(impl.ResidueOfWord(threeUp, longest)), 1<<15-1)
	wantResults(t, "no residue but 0", results(impl.ResidueOfWord(threeUp, "")), 0)
	wantResults(t, "word of residue", results(impl.WordOfResidue(threeUp, 1<<15-1, impl.MaxTold)), longest)
	wantResults(t, "empty word of residue", results(impl.WordOfResidue(threeUp, 0, 0)), "")
	wantResults(t, "has empty word", results(impl.HasWord(threeUp, -5, "")), true)
	wantFailed(t, map[string][]any{
		"residue 1":  results(impl.WordOfResidue(threeUp, 1, 0)),
		"residue -1": results(impl.WordOfResidue(threeUp, -1, 0)),
		"32768":      results(impl.WordOfResidue(threeUp, 1<<15, impl.MaxTold)),
		"least":      results(impl.WordOfResidue(threeUp, math.MinInt, impl.MaxTold)),
	})
}

func TestNoArgumentOfWordsPanics(t *testing.T) {
	for _, m := range []impl.Map{{}, {Times: math.MinInt, Plus: math.MaxInt}, threeUp, {Times: 9, Plus: -9}, {Times: 1, Plus: 9}} {
		for _, w := range []string{"", "oe", strings.Repeat("o", impl.MaxTold), "x", "o\xff", strings.Repeat("e", impl.MaxTold+1)} {
			for _, n := range extremes {
				for _, length := range slices.Concat(extremes, []int{8, impl.MaxTold, impl.MaxTold + 1, 50, 51}) {
					for name, got := range wordCalls(m, n, w, length) {
						wantNoHalfFailure(t, fmt.Sprint(name, m, n, w, length), got)
					}
				}
			}
		}
	}
}

func TestWordsChangeNoArgument(t *testing.T) {
	list := []int{7, 5, 7, -1, 0, 99, 98}
	want := slices.Clone(list)
	wantResults(t, "words", results(impl.CountOfWords(threeUp, list[:5], 3)), 3)
	if !reflect.DeepEqual(list, want) {
		t.Error("the list or what is behind it has become", list)
	}
}

func TestResultsOfWordsAreNew(t *testing.T) {
	numbers, _ := impl.NumbersWithWord(threeUp, "oe", 1, 3)
	numbers[0] = 0
	wantResults(t, "numbers", results(impl.NumbersWithWord(threeUp, "oe", 1, 3)), []int{1, 5, 9})
	words, _ := impl.FallingWords(threeUp, 2)
	words[0] = ""
	wantResults(t, "words", results(impl.FallingWords(threeUp, 2)), []string{"ee", "eo", "oe"})
	w := strings.Repeat("oe", 3)
	if rest, _ := impl.WordAfter(threeUp, w, 2); unsafe.StringData(rest) == unsafe.StringData(w[2:]) {
		t.Error("the word is a part of the argument")
	}
}
