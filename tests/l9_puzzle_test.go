package tests

import (
	"fmt"
	"math"
	"math/rand"
	"slices"
	"strconv"
	"strings"
	"testing"

	"loop.example/g01293/impl"
)

// threeFive is the example of the document.
const threeFive = "3x+1:1.3.5,0.3.1"

// toldMostSteps is the greatest A or B that counts steps.
const toldMostSteps = 20

// endClues have A and B at the ends of their ranges.
var endClues = []impl.Clue{
	{Kind: 0, A: 2, B: 0}, {Kind: 0, A: 2, B: 1}, {Kind: 0, A: 3, B: 2}, {Kind: 0, A: 12, B: 0}, {Kind: 0, A: 12, B: 11},
	{Kind: 1, A: 0, B: 0}, {Kind: 1, A: 20, B: 0}, {Kind: 1, A: 0, B: impl.MaxNumber}, {Kind: 1, A: 20, B: impl.MaxNumber}, {Kind: 1, A: 0, B: -impl.MaxNumber}, {Kind: 1, A: 20, B: -impl.MaxNumber},
	{Kind: 2, A: 0, B: 0}, {Kind: 2, A: 20, B: 0}, {Kind: 2, A: 0, B: 20}, {Kind: 2, A: 20, B: 20},
	{Kind: 3, A: 0, B: 0}, {Kind: 3, A: 20, B: 0}, {Kind: 3, A: 0, B: impl.MaxNumber}, {Kind: 3, A: 20, B: impl.MaxNumber}, {Kind: 3, A: 0, B: -impl.MaxNumber}, {Kind: 3, A: 20, B: -impl.MaxNumber},
	{Kind: 4, A: 0, B: 0}, {Kind: 4, A: 20, B: 0}, {Kind: 4, A: 0, B: 9}, {Kind: 4, A: 20, B: 9},
}

// noClues are structs that are no clue, each for one reason.
var noClues = []impl.Clue{
	{Kind: 0, A: 1, B: 0}, {Kind: 0, A: 0, B: 0}, {Kind: 0, A: -2, B: 0}, {Kind: 0, A: 13, B: 0}, {Kind: 0, A: 2, B: 2}, {Kind: 0, A: 2, B: -1}, {Kind: 0, A: 12, B: 12}, {Kind: 0, A: 12, B: -1},
	{Kind: 0, A: math.MinInt, B: 0}, {Kind: 0, A: math.MaxInt, B: 0}, {Kind: 0, A: 3, B: math.MinInt}, {Kind: 0, A: 3, B: math.MaxInt},
	{Kind: 1, A: -1, B: 5}, {Kind: 1, A: 21, B: 5}, {Kind: 1, A: 3, B: impl.MaxNumber + 1}, {Kind: 1, A: 3, B: -impl.MaxNumber - 1},
	{Kind: 1, A: math.MinInt, B: 5}, {Kind: 1, A: math.MaxInt, B: 5}, {Kind: 1, A: 3, B: math.MinInt}, {Kind: 1, A: 3, B: math.MaxInt},
	{Kind: 2, A: -1, B: 0}, {Kind: 2, A: 21, B: 0}, {Kind: 2, A: 20, B: 21}, {Kind: 2, A: 20, B: -1}, {Kind: 2, A: 0, B: -1}, {Kind: 2, A: math.MinInt, B: 0}, {Kind: 2, A: 3, B: math.MaxInt},
	{Kind: 3, A: -1, B: 16}, {Kind: 3, A: 21, B: 16}, {Kind: 3, A: 3, B: impl.MaxNumber + 1}, {Kind: 3, A: 3, B: -impl.MaxNumber - 1}, {Kind: 3, A: math.MaxInt, B: 16}, {Kind: 3, A: 3, B: math.MinInt},
	{Kind: 4, A: -1, B: 5}, {Kind: 4, A: 21, B: 5}, {Kind: 4, A: 3, B: 10}, {Kind: 4, A: 3, B: -1}, {Kind: 4, A: 3, B: -5}, {Kind: 4, A: math.MinInt, B: 5}, {Kind: 4, A: 3, B: math.MaxInt},
	{Kind: -1, A: 2, B: 0}, {Kind: 5, A: 2, B: 0}, {Kind: 6, A: 2, B: 1}, {Kind: math.MinInt, A: 2, B: 0}, {Kind: math.MaxInt, A: 2, B: 0},
}

var noHidden = []int{math.MinInt, -impl.MaxHidden, -1, 0, impl.MaxHidden + 1, impl.MaxNumber, math.MaxInt}

var noSeeds = []int{math.MinInt, -1, 10000, 10007, math.MaxInt}

var noClueCounts = []int{math.MinInt, -1, impl.MaxClues + 1, math.MaxInt}

// toldPuzzle returns the struct with a text, whose numbers may be any.
func toldPuzzle(text string) impl.Puzzle {
	var p impl.Puzzle
	head, tail, _ := strings.Cut(text, ":")
	if _, err := fmt.Sscanf(head, "%dx%d", &p.Map.Times, &p.Map.Plus); err != nil {
		panic(err)
	}
	for _, clue := range strings.FieldsFunc(tail, func(sign rune) bool { return sign == ',' }) {
		var c impl.Clue
		if _, err := fmt.Sscanf(clue, "%d.%d.%d", &c.Kind, &c.A, &c.B); err != nil {
			panic(err)
		}
		p.Clues = append(p.Clues, c)
	}
	return p
}

func toldPuzzleText(p impl.Puzzle) string {
	var clues []string
	for _, c := range p.Clues {
		clues = append(clues, fmt.Sprintf("%d.%d.%d", c.Kind, c.A, c.B))
	}
	return fmt.Sprintf("%dx%+d:%s", p.Map.Times, p.Map.Plus, strings.Join(clues, ","))
}

func toldIsClue(c impl.Clue) bool {
	areSteps := c.A >= 0 && c.A <= toldMostSteps
	switch c.Kind {
	case 0:
		return c.A >= 2 && c.A <= 12 && c.B >= 0 && c.B <= c.A-1
	case 1, 3:
		return areSteps && !isTooGreat(c.B)
	case 2:
		return areSteps && c.B >= 0 && c.B <= toldMostSteps
	case 4:
		return areSteps && c.B >= 0 && c.B <= 9
	}
	return false
}

// toldValue returns the B that a hidden number has for a kind and A. It fails if its path has what is no number.
func toldValue(m impl.Map, kind int, a int, n int) (int, bool) {
	if kind == 0 {
		return n - n/a*a, true
	}
	path := toldPath(toldNext, m, n, a)
	if len(path) <= a {
		return 0, false
	}
	switch kind {
	case 1:
		return path[a], true
	case 2:
		return strings.Count(toldSigns(path), "o"), true
	case 3:
		return slices.Max(path), true
	}
	text := strconv.Itoa(path[a])
	return int(text[len(text)-1] - '0'), true
}

func toldFitsAll(m impl.Map, clues []impl.Clue, n int) bool {
	for _, c := range clues {
		if value, ok := toldValue(m, c.Kind, c.A, n); !ok || value != c.B {
			return false
		}
	}
	return true
}

// toldSolutions returns the hidden numbers that fit all of some clues.
func toldSolutions(m impl.Map, clues []impl.Clue) []int {
	var list []int
	for n := 1; n <= impl.MaxHidden; n++ {
		if toldFitsAll(m, clues, n) {
			list = append(list, n)
		}
	}
	return list
}

func toldLeftOut(clues []impl.Clue, k int) []impl.Clue {
	var left []impl.Clue
	for i, c := range clues {
		if i != k {
			left = append(left, c)
		}
	}
	return left
}

// toldHarder requires a puzzle that is solved.
func toldHarder(p impl.Puzzle) impl.Puzzle {
	isOut := make([]bool, len(p.Clues))
	rest := func() []impl.Clue {
		var clues []impl.Clue
		for i, c := range p.Clues {
			if !isOut[i] {
				clues = append(clues, c)
			}
		}
		return clues
	}
	for i := range p.Clues {
		isOut[i] = true
		isOut[i] = len(toldSolutions(p.Map, rest())) == 1
	}
	return impl.Puzzle{Map: p.Map, Clues: rest()}
}

func chanceClue(random *rand.Rand, m impl.Map, n int) impl.Clue {
	c := impl.Clue{Kind: random.Intn(5), A: random.Intn(toldMostSteps + 1)}
	if c.Kind == 0 {
		c.A = 2 + random.Intn(11)
	}
	c.B, _ = toldValue(m, c.Kind, c.A, n)
	return c
}

// samplePuzzles has puzzles of one clue, and puzzles by chance: a number fits them, or each clue has what one of two numbers has, and some have clues twice.
func samplePuzzles() []impl.Puzzle {
	var puzzles []impl.Puzzle
	for _, c := range endClues {
		puzzles = append(puzzles, impl.Puzzle{Map: threeUp, Clues: []impl.Clue{c}})
	}
	random := rand.New(rand.NewSource(90))
	for _, m := range allMaps() {
		for i := range 5 * (impl.MaxClues + 1) {
			hidden := []int{1 + random.Intn(impl.MaxHidden), 1 + random.Intn(impl.MaxHidden)}
			p := impl.Puzzle{Map: m}
			for len(p.Clues) < i%(impl.MaxClues+1) {
				n := hidden[0]
				if i%4 == 0 {
					n = hidden[random.Intn(2)]
				}
				p.Clues = append(p.Clues, chanceClue(random, m, n))
				if i%3 == 0 {
					p.Clues[len(p.Clues)-1] = p.Clues[random.Intn(len(p.Clues))]
				}
			}
			puzzles = append(puzzles, p)
		}
	}
	return puzzles
}

// noPuzzles are structs that are no puzzle, each for one reason.
func noPuzzles() []impl.Puzzle {
	fine := toldPuzzle("3x+1:1.3.5,0.3.1,2.0.0,3.0.40,4.0.0,1.0.40")
	puzzles := []impl.Puzzle{
		{}, {Clues: fine.Clues}, {Map: threeUp, Clues: slices.Repeat(fine.Clues[:1], impl.MaxClues+1)}, {Map: threeUp, Clues: slices.Repeat(fine.Clues[:1], 5000)}, {Map: threeUp, Clues: make([]impl.Clue, impl.MaxClues)},
	}
	for _, m := range noMaps {
		puzzles = append(puzzles, impl.Puzzle{Map: m}, impl.Puzzle{Map: m, Clues: fine.Clues[:2]})
	}
	for i, c := range noClues {
		clues := slices.Clone(fine.Clues)
		clues[i%len(clues)] = c
		puzzles = append(puzzles, impl.Puzzle{Map: threeUp, Clues: []impl.Clue{c}}, impl.Puzzle{Map: threeUp, Clues: clues})
	}
	for k := range fine.Clues {
		clues := slices.Clone(fine.Clues)
		clues[k] = impl.Clue{Kind: 5}
		puzzles = append(puzzles, impl.Puzzle{Map: threeUp, Clues: clues})
	}
	return puzzles
}

func wantPuzzle(t *testing.T, name string, got []any, want impl.Puzzle) {
	t.Helper()
	p, isPuzzle := got[0].(impl.Puzzle)
	if !isPuzzle || got[1] != true || p.Map != want.Map || !slices.Equal(p.Clues, want.Clues) {
		t.Errorf("%s: got %v, want %v and true", name, got, want)
	}
}

func TestExampleOfPuzzles(t *testing.T) {
	p, ok := impl.ParsePuzzle(threeFive)
	wantPuzzle(t, "parse", results(p, ok), impl.Puzzle{Map: threeUp, Clues: []impl.Clue{{Kind: 1, A: 3, B: 5}, {Kind: 0, A: 3, B: 1}}})
	wantResults(t, "solutions", results(impl.Solutions(p)), []int{40})
	wantResults(t, "by the first clue", results(impl.Solutions(toldPuzzle("3x+1:1.3.5"))), []int{6, 40})
	wantResults(t, "6 leaves 0", results(impl.DoesFit(threeUp, p.Clues[1], 6)), false)
	wantResults(t, "40 leaves 1", results(impl.DoesFit(threeUp, p.Clues[1], 40)), true)
	wantResults(t, "left", results(impl.LeftByClues(p)), []int{60, 2, 1})
	wantResults(t, "text", results(impl.PuzzleText(p)), threeFive)
}

func TestIsClueTakesJustTheClues(t *testing.T) {
	for _, c := range endClues {
		if !impl.IsClue(c) || !toldIsClue(c) {
			t.Error(c, "is a clue")
		}
	}
	for _, c := range noClues {
		if impl.IsClue(c) || toldIsClue(c) {
			t.Error(c, "is no clue")
		}
	}
	numbers := append(toldCount(-3, 25), extremes...)
	for kind := -3; kind <= 8; kind++ {
		for _, a := range numbers {
			for _, b := range numbers {
				c := impl.Clue{Kind: kind, A: a, B: b}
				if impl.IsClue(c) != toldIsClue(c) {
					t.Error(c, impl.IsClue(c))
				}
			}
		}
	}
}

func TestIsPuzzleTakesJustThePuzzles(t *testing.T) {
	for _, p := range samplePuzzles() {
		if !impl.IsPuzzle(p) {
			t.Error(p, "is a puzzle")
		}
	}
	for _, p := range noPuzzles() {
		if impl.IsPuzzle(p) {
			t.Error(p, "is no puzzle")
		}
	}
	for count := range 4 * impl.MaxClues {
		p := impl.Puzzle{Map: threeUp, Clues: slices.Repeat([]impl.Clue{{Kind: 4, A: 20, B: 9}}, count)}
		if impl.IsPuzzle(p) != (count <= impl.MaxClues) {
			t.Error(count, "clues")
		}
	}
	for _, m := range allMaps() {
		if !impl.IsPuzzle(impl.Puzzle{Map: m}) || !impl.IsPuzzle(impl.Puzzle{Map: m, Clues: []impl.Clue{}}) {
			t.Error(m, "without clues")
		}
	}
}

// TestNumbersFitTheirClues has clues with the B that a number has, and with others near it.
func TestNumbersFitTheirClues(t *testing.T) {
	for _, m := range allMaps() {
		for n := 1; n <= impl.MaxHidden; n++ {
			for kind := range 5 {
				for a := range toldMostSteps + 1 {
					checkFits(t, m, kind, a, n)
				}
			}
		}
	}
}

func checkFits(t *testing.T, m impl.Map, kind int, a int, n int) {
	t.Helper()
	if kind == 0 && (a < 2 || a > 12) {
		return
	}
	value, ok := toldValue(m, kind, a, n)
	for b := value - 1; b <= value+1; b++ {
		c := impl.Clue{Kind: kind, A: a, B: b}
		wantUnless(t, fmt.Sprint(m, c, n), !toldIsClue(c), results(impl.DoesFit(m, c, n)), ok && b == value)
	}
}

func TestSomeNumbersThatFit(t *testing.T) {
	for _, c := range []struct {
		text string
		n    int
		want bool
	}{
		{"3x+1:0.2.1", 1, true}, {"3x+1:0.2.0", 1, false}, {"3x+1:0.12.0", 60, true}, {"3x+1:0.12.1", 60, false}, {"3x+1:0.12.11", 59, true}, {"3x+1:0.11.5", 60, true},
		{"3x+1:1.0.7", 7, true}, {"3x+1:1.0.22", 7, false}, {"3x+1:1.1.22", 7, true}, {"3x+1:1.16.1", 7, true}, {"3x+1:1.20.4", 7, true}, {"3x+1:1.20.2", 7, false}, {"1x-9:1.1.-8", 1, true}, {"1x-9:1.1.8", 1, false}, {"3x+1:1.3.1000000000000", 7, false},
		{"3x+1:2.0.0", 7, true}, {"3x+1:2.0.1", 7, false}, {"3x+1:2.1.1", 7, true}, {"3x+1:2.16.5", 7, true}, {"3x+1:2.16.11", 7, false}, {"3x+1:2.1.0", 60, true}, {"3x+1:2.20.20", 7, false}, {"3x+1:2.0.20", 7, false},
		{"3x+1:3.0.7", 7, true}, {"3x+1:3.4.34", 7, true}, {"3x+1:3.5.52", 7, true}, {"3x+1:3.20.52", 7, true}, {"3x+1:3.20.2", 7, false}, {"3x+1:3.5.5", 7, false}, {"1x-9:3.20.1", 1, true}, {"3x+1:3.20.60", 60, false}, {"3x+1:3.2.60", 60, true},
		{"3x+1:4.0.7", 7, true}, {"3x+1:4.1.2", 7, true}, {"3x+1:4.8.0", 7, true}, {"3x+1:4.8.4", 7, false}, {"3x+1:4.0.0", 60, true}, {"1x-9:4.1.8", 1, true}, {"1x-9:4.1.2", 1, false}, {"3x-9:4.1.6", 1, true}, {"3x-9:4.1.4", 1, false},
	} {
		p := toldPuzzle(c.text)
		wantResults(t, fmt.Sprint(c.text, " ", c.n), results(impl.DoesFit(p.Map, p.Clues[0], c.n)), c.want)
	}
}

// TestNoHiddenNumberLeavesTheNumbers tells why no test has a hidden number whose path has what is no number: there is none.
func TestNoHiddenNumberLeavesTheNumbers(t *testing.T) {
	greatest := 0
	for _, m := range allMaps() {
		for n := 1; n <= impl.MaxHidden; n++ {
			path := toldPath(toldNext, m, n, toldMostSteps)
			greatest = max(greatest, slices.Max(path), -slices.Min(path))
			if len(path) != toldMostSteps+1 {
				t.Error(m, n, "has a path that ends with", path)
			}
		}
	}
	if greatest != 46699322 {
		t.Error(greatest, "is the greatest size")
	}
}

// tally counts the kinds of puzzles that a test has met.
type tally map[string]int

func (counts tally) countIf(is bool, kind string) {
	if is {
		counts[kind]++
	}
}

func (counts tally) wantEach(t *testing.T, kinds ...string) {
	t.Helper()
	for _, kind := range kinds {
		if counts[kind] == 0 {
			t.Error("no puzzle has", kind)
		}
	}
}

func TestSolutionsFitAllClues(t *testing.T) {
	met := tally{}
	for _, p := range samplePuzzles() {
		want := toldSolutions(p.Map, p.Clues)
		checkSolutions(t, p, want)
		for n := 1; n <= impl.MaxHidden; n++ {
			fitted := 0
			for _, c := range p.Clues {
				if fits, _ := impl.DoesFit(p.Map, c, n); fits {
					fitted++
				}
			}
			if slices.Contains(want, n) != (fitted == len(p.Clues)) {
				t.Error(n, "fits", fitted, "clues of", p)
			}
		}
		met.countIf(len(want) == 0, "no solution")
		met.countIf(len(want) == 1, "one solution")
		met.countIf(len(want) > 1 && len(want) < impl.MaxHidden, "several solutions")
		met.countIf(len(want) == impl.MaxHidden && len(p.Clues) > 0, "all numbers with clues")
		met.countIf(len(p.Clues) == 0, "no clues")
		met.countIf(len(p.Clues) == impl.MaxClues, "MaxClues")
	}
	met.wantEach(t, "no solution", "one solution", "several solutions", "all numbers with clues", "no clues", "MaxClues")
}

// checkSolutions compares all calls that tell solutions.
func checkSolutions(t *testing.T, p impl.Puzzle, want []int) {
	t.Helper()
	text := toldPuzzleText(p)
	first, greatest := 0, 0
	if len(want) > 0 {
		first, greatest = want[0], want[len(want)-1]
	}
	wantNumbers(t, "Solutions "+text, false, results(impl.Solutions(p)), want)
	wantResults(t, "CountSolutions "+text, results(impl.CountSolutions(p)), len(want))
	wantUnless(t, "FirstSolution "+text, len(want) == 0, results(impl.FirstSolution(p)), first)
	wantUnless(t, "GreatestSolution "+text, len(want) == 0, results(impl.GreatestSolution(p)), greatest)
	wantResults(t, "IsSolved "+text, results(impl.IsSolved(p)), len(want) == 1)
}

func TestSomeSolutions(t *testing.T) {
	for text, want := range map[string][]int{
		"3x+1:": toldCount(1, 60), "9x-9:": toldCount(1, 60), "3x+1:2.0.0": toldCount(1, 60), "3x+1:2.0.0,2.0.0,2.0.0,2.0.0,2.0.0,2.0.0": toldCount(1, 60), "1x+1:3.0.1": {1}, "1x+1:3.0.60": {60}, "3x+1:1.0.1": {1}, "3x+1:1.0.60": {60},
		"3x+1:1.0.0": nil, "3x+1:1.0.61": nil, "3x+1:1.0.-1": nil, "3x+1:0.2.0,0.2.1": nil, "3x+1:2.20.20": nil, "3x+1:0.12.0": {12, 24, 36, 48, 60}, "3x+1:0.12.11": {11, 23, 35, 47, 59}, "3x+1:0.12.11,0.5.4": {59}, "3x+1:4.0.0": {10, 20, 30, 40, 50, 60},
		threeFive: {40}, "3x+1:0.3.0,1.3.5": {6}, "1x-9:1.1.-8": {1}, "1x-9:4.1.8": {1, 16, 17, 27, 36, 37, 47, 56, 57}, "1x-9:4.1.8,0.2.0": {16, 36, 56}, "3x+1:2.1.1,0.7.0": {7, 21, 35, 49}, "3x+1:3.20.52,0.2.1": {7, 9, 11, 17},
	} {
		checkSolutions(t, toldPuzzle(text), want)
	}
}

// TestTheLastClueCounts has MaxClues clues of which just one, at each index, leaves one number.
func TestTheLastClueCounts(t *testing.T) {
	for k := range impl.MaxClues {
		p := toldPuzzle("3x+1:2.0.0,2.0.0,2.0.0,2.0.0,2.0.0,2.0.0")
		p.Clues[k] = impl.Clue{Kind: 1, A: 0, B: 33}
		checkSolutions(t, p, []int{33})
		wantResults(t, "best", results(impl.BestClue(p)), k)
	}
}

func TestNeedlessClues(t *testing.T) {
	met := tally{}
	for _, p := range samplePuzzles() {
		solutions := len(toldSolutions(p.Map, p.Clues))
		var want []int
		for k := range p.Clues {
			if len(toldSolutions(p.Map, toldLeftOut(p.Clues, k))) == solutions {
				want = append(want, k)
			}
		}
		wantNumbers(t, toldPuzzleText(p), false, results(impl.NeedlessClues(p)), want)
		met.countIf(len(want) == 0 && len(p.Clues) > 1, "none")
		met.countIf(len(want) > 0 && len(want) < len(p.Clues), "some")
		met.countIf(len(want) == len(p.Clues) && len(p.Clues) > 1, "all")
		met.countIf(len(want) > 0 && solutions == 0, "some without solutions")
	}
	met.wantEach(t, "none", "some", "all", "some without solutions")
	for text, want := range map[string][]int{
		"3x+1:": nil, "3x+1:1.0.7": nil, "3x+1:2.0.0": {0}, threeFive: nil, "3x+1:2.0.0,1.0.7": {0}, "3x+1:1.0.7,2.0.0": {1}, "3x+1:1.0.7,1.0.7": {0, 1}, "3x+1:1.0.7,3.0.7": {0, 1}, "3x+1:0.2.1,1.0.7,0.2.1": {0, 2},
		"3x+1:0.2.0,0.2.1": nil, "3x+1:1.0.61": nil, "3x+1:1.0.61,1.0.62": {0, 1}, "3x+1:1.0.61,0.2.0": {1}, "3x+1:0.2.0,0.2.1,0.2.0": {0, 2}, "3x+1:0.2.0,0.4.0,0.8.0": {0, 1}, "3x+1:0.8.0,0.4.0,0.2.0": {1, 2}, "3x+1:2.0.0,2.0.0,2.0.0,2.0.0,2.0.0,2.0.0": {0, 1, 2, 3, 4, 5},
	} {
		wantNumbers(t, text, false, results(impl.NeedlessClues(toldPuzzle(text))), want)
	}
}

func TestCluesThatAreDropped(t *testing.T) {
	for _, p := range samplePuzzles() {
		text := toldPuzzleText(p)
		for k := range p.Clues {
			wantPuzzle(t, fmt.Sprint(text, k), results(impl.DropClue(p, k)), impl.Puzzle{Map: p.Map, Clues: toldLeftOut(p.Clues, k)})
		}
		for _, k := range []int{math.MinInt, -1, len(p.Clues), len(p.Clues) + 1, math.MaxInt} {
			wantFailed(t, map[string][]any{fmt.Sprint(text, k): results(impl.DropClue(p, k))})
		}
	}
	p := toldPuzzle("3x-5:0.2.1,1.0.7,4.20.9")
	for k, want := range []string{"3x-5:1.0.7,4.20.9", "3x-5:0.2.1,4.20.9", "3x-5:0.2.1,1.0.7"} {
		wantPuzzle(t, fmt.Sprint(k), results(impl.DropClue(p, k)), toldPuzzle(want))
	}
	wantPuzzle(t, "the only one", results(impl.DropClue(toldPuzzle("3x-5:0.2.1"), 0)), toldPuzzle("3x-5:"))
	wantFailed(t, map[string][]any{"of none": results(impl.DropClue(toldPuzzle("3x-5:"), 0))})
}

func TestCluesThatAreAdded(t *testing.T) {
	for i, p := range samplePuzzles() {
		text := toldPuzzleText(p)
		c := endClues[i%len(endClues)]
		more := impl.Puzzle{Map: p.Map, Clues: slices.Concat(p.Clues, []impl.Clue{c})}
		if len(p.Clues) == impl.MaxClues {
			wantFailed(t, map[string][]any{text: results(impl.AddClue(p, c))})
			continue
		}
		wantPuzzle(t, text, results(impl.AddClue(p, c)), more)
		added, _ := impl.AddClue(p, c)
		wantPuzzle(t, "dropped again "+text, results(impl.DropClue(added, len(p.Clues))), p)
		none := noClues[i%len(noClues)]
		wantFailed(t, map[string][]any{fmt.Sprint(text, none): results(impl.AddClue(p, none))})
	}
	p := toldPuzzle("7x+9:")
	for count, text := range []string{"7x+9:0.12.0", "7x+9:0.12.0,1.0.-3", "7x+9:0.12.0,1.0.-3,2.20.20", "7x+9:0.12.0,1.0.-3,2.20.20,3.0.4", "7x+9:0.12.0,1.0.-3,2.20.20,3.0.4,4.0.9", "7x+9:0.12.0,1.0.-3,2.20.20,3.0.4,4.0.9,0.12.0"} {
		want := toldPuzzle(text)
		more, ok := impl.AddClue(p, want.Clues[count])
		wantPuzzle(t, text, results(more, ok), want)
		p = more
	}
	wantFailed(t, map[string][]any{"beyond MaxClues": results(impl.AddClue(p, p.Clues[0]))})
}

func TestNumbersLeftByClues(t *testing.T) {
	for _, p := range samplePuzzles() {
		var want []int
		for count := range len(p.Clues) + 1 {
			want = append(want, len(toldSolutions(p.Map, p.Clues[:count])))
		}
		wantResults(t, toldPuzzleText(p), results(impl.LeftByClues(p)), want)
	}
	for text, want := range map[string][]int{
		"3x+1:": {60}, threeFive: {60, 2, 1}, "3x+1:0.3.1,1.3.5": {60, 20, 1}, "3x+1:2.0.0": {60, 60}, "3x+1:1.0.61": {60, 0}, "3x+1:0.2.0,0.4.0,0.8.0,0.3.0,0.6.0,0.5.4": {60, 30, 15, 7, 2, 2, 1}, "3x+1:0.2.0,0.2.1,0.2.0": {60, 30, 0, 0},
	} {
		wantResults(t, text, results(impl.LeftByClues(toldPuzzle(text))), want)
	}
}

func TestBestClues(t *testing.T) {
	for _, p := range samplePuzzles() {
		best, fewest := 0, impl.MaxHidden+1
		for k := range p.Clues {
			if count := len(toldSolutions(p.Map, p.Clues[k:k+1])); count < fewest {
				best, fewest = k, count
			}
		}
		wantUnless(t, toldPuzzleText(p), len(p.Clues) == 0, results(impl.BestClue(p)), best)
	}
	for text, want := range map[string]int{
		"3x+1:2.0.0": 0, "3x+1:1.0.61": 0, threeFive: 0, "3x+1:0.3.1,1.3.5": 1, "3x+1:0.2.0,0.3.0,0.3.1": 1, "3x+1:0.3.2,0.2.0,0.3.0,0.3.1": 0, "3x+1:2.0.0,2.0.0": 0, "3x+1:1.0.7,1.0.61": 1, "3x+1:0.2.0,1.0.61,1.0.7,1.0.62": 1,
		"3x+1:0.2.0,0.3.0,0.4.0,0.5.0,0.6.0,0.7.0": 5, "3x+1:0.12.0,0.11.0,0.10.0,0.9.0,0.8.0,0.7.0": 0, "3x+1:0.11.0,0.12.0,0.10.0": 0, "3x+1:0.10.0,0.11.0,0.12.0": 1,
	} {
		wantResults(t, text, results(impl.BestClue(toldPuzzle(text))), want)
	}
	wantFailed(t, map[string][]any{"no clues": results(impl.BestClue(toldPuzzle("3x+1:")))})
}

func TestHarderPuzzlesAreSolvedByTheSameNumber(t *testing.T) {
	met := tally{}
	for _, p := range samplePuzzles() {
		text := toldPuzzleText(p)
		solutions := toldSolutions(p.Map, p.Clues)
		harder, ok := impl.HarderPuzzle(p)
		if len(solutions) != 1 {
			wantFailed(t, map[string][]any{text: results(harder, ok)})
			continue
		}
		wantPuzzle(t, text, results(harder, ok), toldHarder(p))
		checkSolutions(t, harder, solutions)
		wantNumbers(t, "needless in the harder of "+text, false, results(impl.NeedlessClues(harder)), nil)
		wantPuzzle(t, "harder again "+text, results(impl.HarderPuzzle(harder)), harder)
		taken := len(p.Clues) - len(harder.Clues)
		met.countIf(taken == 0 && len(p.Clues) > 1, "none taken out")
		met.countIf(taken > 0 && len(harder.Clues) > 1, "some taken out")
		met.countIf(taken > 1 && len(harder.Clues) == 1, "all but one taken out")
	}
	met.wantEach(t, "none taken out", "some taken out", "all but one taken out")
}

func TestSomeHarderPuzzles(t *testing.T) {
	for text, want := range map[string]string{
		"3x+1:1.0.7": "3x+1:1.0.7", threeFive: threeFive, "3x+1:0.3.1,1.3.5": "3x+1:0.3.1,1.3.5", "3x+1:1.0.7,0.2.1": "3x+1:1.0.7", "3x+1:0.2.1,1.0.7": "3x+1:1.0.7", "3x+1:1.0.7,3.0.7": "3x+1:3.0.7", "3x+1:3.0.7,1.0.7": "3x+1:1.0.7",
		// One clue alone would do, but it is taken out first.
		"3x+1:1.0.40,1.3.5,0.3.1": "3x+1:1.3.5,0.3.1", "3x+1:1.3.5,1.0.40,0.3.1": "3x+1:1.0.40", "3x+1:1.3.5,0.3.1,1.0.40": "3x+1:1.0.40",
		"3x+1:2.7.3,0.9.7,2.19.6,4.16.1,3.17.52,0.4.3": "3x+1:4.16.1,3.17.52,0.4.3", "3x+1:1.0.7,1.0.7,1.0.7,1.0.7,1.0.7,1.0.7": "3x+1:1.0.7", "3x+1:2.0.0,1.3.5,2.0.0,0.3.1,2.0.0,2.0.0": threeFive, "3x+1:1.3.5,0.3.1,0.3.1,1.3.5": "3x+1:0.3.1,1.3.5", "3x+1:1.0.61,0.2.0": "", "3x+1:": "", "3x+1:0.2.0": "", "3x+1:2.0.0": "", "3x+1:1.3.5": "",
	} {
		wantPuzzleUnless(t, text, want == "", results(impl.HarderPuzzle(toldPuzzle(text))), want)
	}
}

func wantPuzzleUnless(t *testing.T, name string, fails bool, got []any, text string) {
	t.Helper()
	if fails {
		wantFailed(t, map[string][]any{name: got})
	} else {
		wantPuzzle(t, name, got, toldPuzzle(text))
	}
}

// toldMade goes by the words of MakePuzzle.
func toldMade(m impl.Map, n int, clues int, seed int) impl.Puzzle {
	p := impl.Puzzle{Map: m}
	z := seed
	for range clues {
		z = (127*z + 2843) % 10007
		c := impl.Clue{Kind: z % 5}
		z = (127*z + 2843) % 10007
		if c.Kind == 0 {
			c.A = z%11 + 2
		} else {
			c.A = z % 21
		}
		c.B, _ = toldValue(m, c.Kind, c.A, n)
		p.Clues = append(p.Clues, c)
	}
	return p
}

func TestMadePuzzlesAreFitByTheirNumber(t *testing.T) {
	maps := allMaps()
	for seed := range 10000 {
		m, n, clues := maps[seed%len(maps)], 1+seed%impl.MaxHidden, seed%(impl.MaxClues+1)
		made, ok := impl.MakePuzzle(m, n, clues, seed)
		wantPuzzle(t, fmt.Sprint(m, n, clues, seed), results(made, ok), toldMade(m, n, clues, seed))
		wantPuzzle(t, "again", results(impl.MakePuzzle(m, n, clues, seed)), made)
		solutions, ok := impl.Solutions(made)
		if !ok || !impl.IsPuzzle(made) || !slices.Contains(solutions, n) {
			t.Error(made, "is not fit by", n, "but by", solutions)
		}
	}
}

func TestSomeMadePuzzles(t *testing.T) {
	for _, c := range []struct {
		text  string
		n     int
		clues int
		seed  int
	}{
		{"3x+1:", 7, 0, 0}, {"3x+1:", 60, 0, 9999}, {"9x+9:", 59, 0, 5000}, {"5x+1:2.9.3", 1, 1, 2}, {"7x-5:0.11.0,2.0.0,2.20.8", 33, 3, 77},
		{"3x+1:3.19.52,0.5.2,4.6.6,4.15.2,0.11.7,4.18.2", 7, 6, 0}, {"3x+1:3.19.52,0.5.2", 7, 2, 0}, {"3x+1:2.7.3,0.9.7,2.19.6,4.16.1,3.17.52,0.4.3", 7, 6, 9999}, {"3x-1:0.8.4,3.16.60,4.20.2,4.20.2,0.6.0,2.18.6", 60, 6, 1},
		{"9x+9:2.13.5,0.12.11,3.4.1224,4.13.8,4.8.6,1.17.284724", 59, 6, 5000}, {"1x-9:1.17.-7,4.18.6,3.16.1,1.4.-1,1.13.-1,1.11.-4", 1, 6, 1234},
	} {
		want := toldPuzzle(c.text)
		wantPuzzle(t, c.text, results(impl.MakePuzzle(want.Map, c.n, c.clues, c.seed)), want)
	}
}

func TestPuzzleTexts(t *testing.T) {
	for _, p := range samplePuzzles() {
		text := toldPuzzleText(p)
		wantResults(t, text, results(impl.PuzzleText(p)), text)
		wantPuzzle(t, text, results(impl.ParsePuzzle(text)), p)
	}
	for _, c := range []struct {
		text string
		p    impl.Puzzle
	}{
		{"3x+1:", impl.Puzzle{Map: threeUp}}, {"9x-9:", impl.Puzzle{Map: impl.Map{Times: 9, Plus: -9}, Clues: []impl.Clue{}}}, {"3x-1:0.2.1", impl.Puzzle{Map: threeDown, Clues: []impl.Clue{{Kind: 0, A: 2, B: 1}}}},
		{"3x-1:1.20.-1000000000000", impl.Puzzle{Map: threeDown, Clues: []impl.Clue{{Kind: 1, A: 20, B: -impl.MaxNumber}}}}, {"3x-1:3.0.1000000000000,1.1.-8", impl.Puzzle{Map: threeDown, Clues: []impl.Clue{{Kind: 3, A: 0, B: impl.MaxNumber}, {Kind: 1, A: 1, B: -8}}}},
		{"3x+1:0.12.11,1.0.0,2.20.20,3.0.-1,4.20.9,4.0.0", impl.Puzzle{Map: threeUp, Clues: []impl.Clue{{Kind: 0, A: 12, B: 11}, {Kind: 1}, {Kind: 2, A: 20, B: 20}, {Kind: 3, A: 0, B: -1}, {Kind: 4, A: 20, B: 9}, {Kind: 4}}}},
	} {
		wantResults(t, c.text, results(impl.PuzzleText(c.p)), c.text)
		wantPuzzle(t, c.text, results(impl.ParsePuzzle(c.text)), c.p)
	}
	for _, p := range noPuzzles() {
		wantFailed(t, map[string][]any{toldPuzzleText(p): results(impl.PuzzleText(p)), "back " + toldPuzzleText(p): results(impl.ParsePuzzle(toldPuzzleText(p)))})
	}
}

func TestTextsThatAreNoPuzzleText(t *testing.T) {
	for _, text := range []string{
		"", " ", ":", ",", ".", "..", ":,", ":..", "-", "3x+1", "3x+1 ", "3x+11.3.5", "3x+1;1.3.5", "3x+1,1.3.5", "3x+1 1.3.5", "3x+1.1.3.5", "3x+1::", "3x+1::1.3.5", ":3x+1", ":1.3.5", ":3x+1:1.3.5", "1.3.5", "1.3.5:3x+1", "3x+1:1.3.5:", "3x+1:1.3.5:0.3.1", "3x+1:3x+1:",
		"3x+1:,", "3x+1:1.3.5,", "3x+1:,1.3.5", "3x+1:1.3.5,,0.3.1", "3x+1:1.3.5,0.3.1,", "3x+1:1.3.5;0.3.1", "3x+1:1.3.50.3.1", "3x+1:1.3.5 0.3.1", "3x+1:1.3.5\n0.3.1", "3x+1:1.3.5.0.3.1", "3x+1:1,3,5", "3x+1:1.3.5,0", "3x+1:1.3.5,0.3", "3x+1:1.3.5,0.3.",
		"3x+1:1", "3x+1:1.", "3x+1:1.3", "3x+1:1.3.", "3x+1:.3.5", "3x+1:1..5", "3x+1:..", "3x+1:.", "3x+1:1.3.5.", "3x+1:1.3.5.0", "3x+1:.1.3.5", "3x+1:1..3.5", "3x+1:135", "3x+1:1-3-5", "3x+1:1:3:5", "3x+1:2..", "3x+1:2.0.", "3x+1:.0.0", "3x+1:4..0",
		"3x+1:01.3.5", "3x+1:1.03.5", "3x+1:1.3.05", "3x+1:1.3.-05", "3x+1:1.3.00", "3x+1:00.3.1", "3x+1:0.03.1", "3x+1:0.3.01", "3x+1:1.00.5", "3x+1:+1.3.5", "3x+1:1.+3.5", "3x+1:1.3.+5", "3x+1:1.3.+0", "3x+1:1.3.-0", "3x+1:-0.3.1", "3x+1:0.3.-0", "3x+1:1.-0.5", "3x+1:0.3.+1", "3x+1:1.3.--5",
		" 3x+1:1.3.5", "3x+1:1.3.5 ", "3x+1 :1.3.5", "3x+1: 1.3.5", "3x+1:1 .3.5", "3x+1:1. 3.5", "3x+1:1.3 .5", "3x+1:1.3. 5", "3x+1:1.3.5, 0.3.1", "3x+1:1.3.5 ,0.3.1", "3x+1: ", " 3x+1:", "3x+1:\n", "3x+1:1.3.5\n", "\t3x+1:1.3.5", "3x+1:1.3.5\x00", "\x003x+1:1.3.5", "3x+1:1.3.\xff5", "3x+1:1.3.\xef\xbc\x95",
		"3x+1:1.3.\xe2\x88\x925", "3x+1\xef\xbc\x9a1.3.5", "3x+1:0x1.3.5", "3x+1:1.0x3.5", "3x+1:1.3.0x5", "3x+1:1.3.5_0", "3x+1:1.3.1e1", "3x+1:a.b.c", "3x+1:x", "3x+1:1.3.5x", "3X+1:1.3.5",
		"3x1:1.3.5", "03x+1:1.3.5", "3x+01:1.3.5", "+3x+1:1.3.5", "2x+1:1.3.5", "3x+2:1.3.5", "11x+1:1.3.5", "3x+11:1.3.5", "x+1:1.3.5", "3x:1.3.5", "0x+0:", "3:", "x:", "2x+1:", "3x+2:", "3x1:", "03x+1:",
		"3x+1:-1.3.5", "3x+1:5.3.5", "3x+1:10.3.5", "3x+1:0.1.0", "3x+1:0.0.0", "3x+1:0.13.0", "3x+1:0.3.3", "3x+1:0.3.-1", "3x+1:1.-1.5", "3x+1:1.21.5", "3x+1:1.3.1000000000001", "3x+1:1.3.-1000000000001", "3x+1:2.21.0", "3x+1:2.3.21", "3x+1:2.3.-1", "3x+1:3.21.5", "3x+1:3.-1.5", "3x+1:3.3.1000000000001", "3x+1:3.3.-1000000000001",
		"3x+1:4.21.5", "3x+1:4.-1.5", "3x+1:4.3.10", "3x+1:4.3.-5", "3x+1:1.3.5,0.3.3", "3x+1:0.3.3,1.3.5", "3x+1:18446744073709551617.3.5", "3x+1:1.18446744073709551619.5", "3x+1:1.3.18446744073709551621", "3x+1:1.3.-18446744073709551611", "3x+1:9223372036854775808.3.5", "3x+1:1.3.9223372036854775807", "3x+1:1.3.-9223372036854775808",
		"3x+1:2.0.0,2.0.0,2.0.0,2.0.0,2.0.0,2.0.0,2.0.0", "3x+1:2.0.0,2.0.0,2.0.0,2.0.0,2.0.0,2.0.0,", "3x+1:" + strings.Repeat("2.0.0,", 5000) + "2.0.0", "3x+1:" + strings.Repeat(",", 5000), "3x+1:" + strings.Repeat(".", 5000), strings.Repeat(":", 5000), "3x+1:1.3." + strings.Repeat("5", 5000), "3x+1:1.3." + strings.Repeat("0", 5000), strings.Repeat("3", 5000) + "x+1:",
		"1n+0/2;3n+1/1", "3/2", "3x+1:3/2", "3x+1:-",
	} {
		wantFailed(t, map[string][]any{text: results(impl.ParsePuzzle(text))})
	}
}

// puzzleCalls has all calls of the chapter that take a puzzle alone.
func puzzleCalls(p impl.Puzzle) map[string][]any {
	return map[string][]any{
		"Solutions": results(impl.Solutions(p)), "CountSolutions": results(impl.CountSolutions(p)), "FirstSolution": results(impl.FirstSolution(p)), "GreatestSolution": results(impl.GreatestSolution(p)), "IsSolved": results(impl.IsSolved(p)), "NeedlessClues": results(impl.NeedlessClues(p)),
		"LeftByClues": results(impl.LeftByClues(p)), "BestClue": results(impl.BestClue(p)), "HarderPuzzle": results(impl.HarderPuzzle(p)), "PuzzleText": results(impl.PuzzleText(p)),
	}
}

// clueCalls has those that take something more.
func clueCalls(p impl.Puzzle, c impl.Clue, k int) map[string][]any {
	return map[string][]any{"DropClue": results(impl.DropClue(p, k)), "AddClue": results(impl.AddClue(p, c))}
}

func TestInvalidArgumentsOfPuzzlesFail(t *testing.T) {
	fine := toldPuzzle(threeFive)
	c := fine.Clues[0]
	for _, calls := range []map[string][]any{
		puzzleCalls(fine), clueCalls(fine, c, 0), clueCalls(fine, c, 1), {"DoesFit 1": results(impl.DoesFit(threeUp, c, 1)), "DoesFit 60": results(impl.DoesFit(threeUp, c, impl.MaxHidden))},
		{"Make 1": results(impl.MakePuzzle(threeUp, 1, 0, 0)), "Make 60": results(impl.MakePuzzle(threeUp, impl.MaxHidden, impl.MaxClues, 9999))},
	} {
		for name, got := range calls {
			if got[len(got)-1] != true {
				t.Error(name, "failed with valid arguments")
			}
		}
	}
	for _, p := range noPuzzles() {
		wantFailed(t, puzzleCalls(p))
		wantFailed(t, clueCalls(p, c, 0))
		wantFailed(t, clueCalls(p, c, len(p.Clues)-1))
	}
	for _, m := range noMaps {
		for _, end := range endClues {
			wantFailed(t, map[string][]any{fmt.Sprint(m, end): results(impl.DoesFit(m, end, 7))})
		}
		wantFailed(t, map[string][]any{fmt.Sprint(m, " none"): results(impl.MakePuzzle(m, 7, 0, 0)), fmt.Sprint(m, " six"): results(impl.MakePuzzle(m, 7, 6, 0))})
	}
	for _, none := range noClues {
		wantFailed(t, map[string][]any{fmt.Sprint("fit ", none): results(impl.DoesFit(threeUp, none, 7)), fmt.Sprint("add ", none): results(impl.AddClue(toldPuzzle("3x+1:"), none))})
	}
}

func TestInvalidNumbersOfPuzzlesFail(t *testing.T) {
	for _, n := range noHidden {
		for _, c := range endClues {
			wantFailed(t, map[string][]any{fmt.Sprint(c, n): results(impl.DoesFit(threeUp, c, n))})
		}
		wantFailed(t, map[string][]any{fmt.Sprint(n, " none"): results(impl.MakePuzzle(threeUp, n, 0, 0)), fmt.Sprint(n, " six"): results(impl.MakePuzzle(threeUp, n, 6, 0))})
	}
	for _, clues := range noClueCounts {
		wantFailed(t, map[string][]any{fmt.Sprint(clues, " clues"): results(impl.MakePuzzle(threeUp, 7, clues, 0))})
	}
	for _, seed := range noSeeds {
		wantFailed(t, map[string][]any{fmt.Sprint("seed ", seed): results(impl.MakePuzzle(threeUp, 7, 0, seed)), fmt.Sprint("six of ", seed): results(impl.MakePuzzle(threeUp, 7, 6, seed))})
	}
}

func TestNoArgumentOfPuzzlesPanics(t *testing.T) {
	numbers := append([]int{4, 5, 6, 7, 12, 13, 20, 21, impl.MaxHidden, impl.MaxHidden + 1, 9999, 10000}, extremes...)
	maps := append([]impl.Map{threeUp, {Times: 9, Plus: 9}}, noMaps...)
	for _, kind := range numbers {
		for _, a := range numbers {
			for _, b := range numbers {
				c := impl.Clue{Kind: kind, A: a, B: b}
				if impl.IsClue(c) != toldIsClue(c) {
					t.Error(c)
				}
				wantNoHalfFailure(t, fmt.Sprint("DoesFit", c), results(impl.DoesFit(threeUp, c, 7)))
				wantNoHalfFailure(t, fmt.Sprint("AddClue", c), results(impl.AddClue(impl.Puzzle{Map: threeUp}, c)))
			}
		}
	}
	for _, m := range maps {
		for _, n := range numbers {
			for _, seed := range numbers {
				wantNoHalfFailure(t, fmt.Sprint("MakePuzzle", m, n, seed), results(impl.MakePuzzle(m, n, 6, seed)))
				wantNoHalfFailure(t, fmt.Sprint("MakePuzzle", m, n, seed), results(impl.MakePuzzle(m, 7, n, seed)))
			}
			for _, c := range slices.Concat(endClues, noClues) {
				wantNoHalfFailure(t, fmt.Sprint("DoesFit", m, c, n), results(impl.DoesFit(m, c, n)))
			}
		}
	}
	for _, p := range slices.Concat(noPuzzles(), samplePuzzles()[:200]) {
		checkNoHalfFailure(t, p, numbers)
	}
}

func checkNoHalfFailure(t *testing.T, p impl.Puzzle, numbers []int) {
	t.Helper()
	for name, got := range puzzleCalls(p) {
		wantNoHalfFailure(t, fmt.Sprint(name, p), got)
	}
	for i, k := range numbers {
		for name, got := range clueCalls(p, noClues[i%len(noClues)], k) {
			wantNoHalfFailure(t, fmt.Sprint(name, p, k), got)
		}
	}
}

func TestListsOfPuzzlesAreNew(t *testing.T) {
	p := toldPuzzle("3x+1:2.0.0,0.2.0,0.3.0")
	wantNewLists(t, func() map[string][]int {
		solutions, _ := impl.Solutions(p)
		needless, _ := impl.NeedlessClues(p)
		left, _ := impl.LeftByClues(p)
		all, _ := impl.Solutions(toldPuzzle("3x+1:"))
		return map[string][]int{"solutions": solutions, "needless": needless, "left": left, "all": all}
	})
}

// wantOwnClues requires that the clues of a puzzle which a call returns share no memory with those which it returns later.
func wantOwnClues(t *testing.T, name string, call func() (impl.Puzzle, bool)) {
	t.Helper()
	none := impl.Clue{Kind: -99, A: -99, B: -99}
	p, _ := call()
	want, _ := call()
	if len(p.Clues) == 0 {
		t.Error(name, "has no clues")
	}
	// What is appended would be written behind the clues, were there room in another list.
	_ = append(p.Clues, none, none, none, none, none, none)
	for i := range p.Clues {
		p.Clues[i] = none
	}
	wantPuzzle(t, name, results(call()), want)
}

func TestCluesWithinPuzzlesAreTheirOwn(t *testing.T) {
	wantOwnClues(t, "MakePuzzle", func() (impl.Puzzle, bool) { return impl.MakePuzzle(threeUp, 7, 5, 0) })
	wantOwnClues(t, "ParsePuzzle", func() (impl.Puzzle, bool) { return impl.ParsePuzzle(threeFive) })
	clues := toldPuzzle("3x+1:1.3.5,0.3.1,2.0.0,1.0.40,4.0.0,0.2.0").Clues
	want := slices.Clone(clues)
	for name, list := range map[string][]impl.Clue{"two, with room": clues[:2], "two, without": clues[:2:2], "four, with room": clues[:4], "one, with room": clues[3:4], "the last ones": clues[3:], "all": clues} {
		p := impl.Puzzle{Map: threeUp, Clues: list}
		for k := range list {
			if len(list) > 1 {
				wantOwnClues(t, fmt.Sprint("drop ", k, " of ", name), func() (impl.Puzzle, bool) { return impl.DropClue(p, k) })
			}
		}
		if len(list) < impl.MaxClues {
			wantOwnClues(t, "add to "+name, func() (impl.Puzzle, bool) { return impl.AddClue(p, clues[5]) })
		}
		wantOwnClues(t, "harder than "+name, func() (impl.Puzzle, bool) { return impl.HarderPuzzle(p) })
	}
	if !slices.Equal(clues, want) {
		t.Error(clues, "have been changed by what was done to results")
	}
}

// TestDroppingTheOnlyClueLeavesNoRoom appends to a list of no clues, which must not be the beginning of the argument.
func TestDroppingTheOnlyClueLeavesNoRoom(t *testing.T) {
	clues := toldPuzzle("3x+1:1.3.5,0.3.1").Clues
	dropped, ok := impl.DropClue(impl.Puzzle{Map: threeUp, Clues: clues[:1]}, 0)
	wantPuzzle(t, "dropped", results(dropped, ok), toldPuzzle("3x+1:"))
	_ = append(dropped.Clues, impl.Clue{Kind: 9}, impl.Clue{Kind: 9})
	if !slices.Equal(clues, toldPuzzle(threeFive).Clues) {
		t.Error(clues, "have been changed")
	}
}

// TestPuzzlesChangeNoArgument has behind the clues what is none, and would be no puzzle if it were read.
func TestPuzzlesChangeNoArgument(t *testing.T) {
	behind := impl.Clue{Kind: -5, A: -5, B: -5}
	for _, text := range []string{"3x+1:", "3x+1:1.0.40", threeFive, "3x+1:1.0.40,1.3.5,0.3.1", "3x+1:0.2.0,1.3.5,0.3.1,2.0.0,1.0.40"} {
		fine := toldPuzzle(text)
		clues := append(slices.Clone(fine.Clues), behind, behind, behind, behind, behind, behind, behind)
		want := slices.Clone(clues)
		p := impl.Puzzle{Map: threeUp, Clues: clues[:len(fine.Clues)]}
		added, ok := impl.AddClue(p, endClues[0])
		wantPuzzle(t, "add to "+text, results(added, ok), impl.Puzzle{Map: threeUp, Clues: slices.Concat(fine.Clues, endClues[:1])})
		puzzleCalls(p)
		for k := range fine.Clues {
			clueCalls(p, endClues[k], k)
		}
		if !impl.IsPuzzle(p) || !slices.Equal(clues, want) || len(p.Clues) != len(fine.Clues) {
			t.Error("the clues, or what is behind them, have become", clues)
		}
	}
}

func TestResultsOfPuzzlesKeepWithoutTheArgument(t *testing.T) {
	p := toldPuzzle("3x+1:1.3.5,0.3.1")
	dropped, _ := impl.DropClue(p, 1)
	first, _ := impl.DropClue(p, 0)
	added, _ := impl.AddClue(p, endClues[0])
	harder, _ := impl.HarderPuzzle(p)
	p.Clues[0], p.Clues[1] = impl.Clue{Kind: 9}, impl.Clue{Kind: 9}
	wantPuzzle(t, "dropped", results(dropped, true), toldPuzzle("3x+1:1.3.5"))
	wantPuzzle(t, "the first one", results(first, true), toldPuzzle("3x+1:0.3.1"))
	wantPuzzle(t, "added", results(added, true), toldPuzzle("3x+1:1.3.5,0.3.1,0.2.0"))
	wantPuzzle(t, "harder", results(harder, true), toldPuzzle(threeFive))
}
