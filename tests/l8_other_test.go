package tests

import (
	"fmt"
	"math"
	"math/rand"
	"reflect"
	"runtime"
	"slices"
	"strings"
	"testing"
	"time"

	"loop.example/g01293/impl"
)

const (
	// swaps is one to one; by it 4 comes to 5, 7, 9, 6 and 4 again.
	swaps = "2n+0/3;4n-1/3;4n+1/3"
	// unswaps undoes it.
	unswaps = "3n+0/2;3n+1/4;3n+0/2;3n-1/4"
	// threes is one to one; by it n with the residue 2 becomes 2 n - 4, n - 1 and n again.
	threes = "1n+2/2;1n+1/1;2n-4/1;2n-2/1"
	// floors is the whole part of a fourth.
	floors = "1n+0/4;1n-1/4;1n-2/4;1n-3/4"
	// turns takes around eight numbers beside each other.
	turns = "1n+1/1;1n+1/1;1n+1/1;1n+1/1;1n+1/1;1n+1/1;1n+1/1;1n-7/1"
	// cycle400 has a cycle of just MaxWalk numbers, in which cycle400From is.
	cycle400     = "5n+8/8;18n+6/2;2n-4/16;14n-6/2;1n-20/2;11n+13/2;6n+0/3;20n-3/1"
	cycle400From = 78
	// cycle401 has one of one number more.
	cycle401     = "10n+6/6;7n-1/3;1n-2/3"
	cycle401From = -365579
	// slowFrom comes behind 522 steps by 3x+1 to 4, 2 and 1.
	slowFrom = 837799
)

var noWalks = []int{math.MinInt, -impl.MaxWalk, -1, impl.MaxWalk + 1, impl.MaxSteps, math.MaxInt}

// noOthers are structs that are no other map, each for one reason.
var noOthers = []impl.Other{
	{}, {Parts: []impl.Part{}}, {Parts: make([]impl.Part, 3)}, {Parts: slices.Repeat([]impl.Part{{Times: 1, Over: 1}}, impl.MaxParts+1)},
	{Parts: slices.Repeat([]impl.Part{{Times: 1, Over: 1}}, 5000)}, toldOther(turns + ";1n+0/1"),
	toldOther("0n+0/1"), toldOther("-1n+0/1"), toldOther("21n+0/1"), toldOther("1n+21/1"), toldOther("1n-21/1"), toldOther("1n+0/0"), toldOther("1n+0/-1"), toldOther("21n+0/21"), toldOther("21n+0/1"),
	toldOther("-1n+0/-1"), toldOther("42n+0/21"), toldOther("1n+0/2;0n+1/1"), toldOther("1n+0/2;3n+21/1"), toldOther("1n+0/2;3n-21/1"), toldOther("1n+0/2;21n+1/1"), toldOther("1n+0/2;3n+1/0"), toldOther("0n+0/2;3n+1/1"),
	{Parts: []impl.Part{{Times: math.MinInt, Over: 1}}}, {Parts: []impl.Part{{Times: math.MaxInt, Over: 1}}}, {Parts: []impl.Part{{Times: 1, Plus: math.MinInt, Over: 1}}}, {Parts: []impl.Part{{Times: 1, Plus: math.MaxInt, Over: 1}}},
	{Parts: []impl.Part{{Times: 1, Over: math.MinInt}}}, {Parts: []impl.Part{{Times: 1, Over: math.MaxInt}}}, {Parts: []impl.Part{{Times: 1, Over: 1}, {Times: math.MinInt, Plus: math.MinInt, Over: -1}}},
	// Not whole for some numbers of a residue, or for none.
	toldOther("1n+0/2"), toldOther("1n+1/2"), toldOther("2n+1/2"), toldOther("3n+0/2"), toldOther("1n+0/2;1n+0/2"), toldOther("1n+1/2;3n+1/1"), toldOther("1n+0/4;3n+1/1"), toldOther("1n+0/2;3n+0/2"), toldOther("1n+0/2;1n+1/4"),
	toldOther("2n+0/3;4n+1/3;4n+1/3"), toldOther("2n+0/3;4n-1/3;4n-1/3"), toldOther("1n+0/3;1n-1/3;1n-1/3"), toldOther("1n+0/1;1n+0/1;1n+0/1;1n+0/2"), toldOther("1n+0/16;1n+0/1;1n+0/1;1n+0/1;1n+0/1;1n+0/1;1n+0/1;1n+0/1"), toldOther("20n+1/20"), toldOther("1n+20/20"),
}

// toldOther returns the struct with a text, whose numbers may be any.
func toldOther(text string) impl.Other {
	var o impl.Other
	for _, part := range strings.Split(text, ";") {
		var p impl.Part
		if _, err := fmt.Sscanf(part, "%dn%d/%d", &p.Times, &p.Plus, &p.Over); err != nil {
			panic(err)
		}
		o.Parts = append(o.Parts, p)
	}
	return o
}

func toldOtherText(o impl.Other) string {
	var parts []string
	for _, p := range o.Parts {
		parts = append(parts, fmt.Sprintf("%dn%+d/%d", p.Times, p.Plus, p.Over))
	}
	return strings.Join(parts, ";")
}

// toldIsWhole tries numbers with the residue on both sides of 0.
func toldIsWhole(p impl.Part, residue int, modulus int) bool {
	for n := residue - 20*modulus; n <= residue+20*modulus; n += modulus {
		if (p.Times*n+p.Plus)%p.Over != 0 {
			return false
		}
	}
	return true
}

// toldBehind returns what is behind a step, which may be no number.
func toldBehind(o impl.Other, n int) int {
	p := o.Parts[toldResidue(n, len(o.Parts))]
	made := p.Times*n + p.Plus
	if made%p.Over != 0 {
		panic(fmt.Sprint(o, " is no other map"))
	}
	return made / p.Over
}

// toldWay returns a number and those behind 1, 2, .. MaxWalk steps, up to before what is no number.
func toldWay(o impl.Other, n int) []int {
	var way []int
	for len(way) <= impl.MaxWalk && !isTooGreat(n) {
		way = append(way, n)
		n = toldBehind(o, n)
	}
	return way
}

// toldAgain returns behind how many steps of a way the first number is that comes again, and behind how many steps more it does.
func toldAgain(way []int) (int, int, bool) {
	for again, n := range way {
		if lead := slices.Index(way[:again], n); lead >= 0 {
			return lead, again - lead, true
		}
	}
	return 0, 0, false
}

// toldFromLeast returns a cycle told from its least number on.
func toldFromLeast(cycle []int) []int {
	least := slices.Index(cycle, slices.Min(cycle))
	return slices.Concat(cycle[least:], cycle[:least])
}

// toldOtherBefore tries all numbers that a part could take to n, and some near them.
func toldOtherBefore(o impl.Other, n int) []int {
	var list []int
	for _, p := range o.Parts {
		for x := n*p.Over/p.Times - 30; x <= n*p.Over/p.Times+30; x++ {
			if toldBehind(o, x) == n && !isTooGreat(x) && !slices.Contains(list, x) {
				list = append(list, x)
			}
		}
	}
	slices.Sort(list)
	return list
}

// toldIsOneToOne counts how many numbers come to each of so many beside each other that two residues that meet do so among them, their moduli being at most 160.
func toldIsOneToOne(o impl.Other) bool {
	counts := make([]int, 160*160)
	for x := -impl.MaxFactor; x <= impl.MaxFactor*(len(counts)+1); x++ {
		if n := toldBehind(o, x); 0 <= n && n < len(counts) {
			counts[n]++
		}
	}
	return slices.Min(counts) == 1 && slices.Max(counts) == 1
}

func chancePart(random *rand.Rand) impl.Part {
	return impl.Part{Times: 1 + random.Intn(impl.MaxFactor), Plus: random.Intn(2*impl.MaxFactor+1) - impl.MaxFactor, Over: 1 + random.Intn(impl.MaxFactor)}
}

// chanceOther returns an other map of so many parts.
func chanceOther(random *rand.Rand, count int) impl.Other {
	var o impl.Other
	for len(o.Parts) < count {
		if p := chancePart(random); toldIsWhole(p, len(o.Parts), count) {
			o.Parts = append(o.Parts, p)
		}
	}
	return o
}

// chanceOneToOne splits all numbers into as many residues as there are parts, and tries parts that take numbers to them. It fails if there are none.
func chanceOneToOne(random *rand.Rand, count int) (impl.Other, bool) {
	images := [][2]int{{0, 1}}
	for len(images) < count {
		i := random.Intn(len(images))
		residue, modulus := images[i][0], images[i][1]
		shares := 2 + random.Intn(min(2, count-len(images)))
		images[i][1] = shares * modulus
		for share := 1; share < shares; share++ {
			images = append(images, [2]int{residue + share*modulus, shares * modulus})
		}
	}
	random.Shuffle(count, func(i, j int) { images[i], images[j] = images[j], images[i] })
	var o impl.Other
	for tries := 0; tries < 100000 && len(o.Parts) < count; tries++ {
		p, residue := chancePart(random), len(o.Parts)
		image := images[residue]
		if p.Times*count == p.Over*image[1] && (p.Times*residue+p.Plus)%p.Over == 0 && toldResidue((p.Times*residue+p.Plus)/p.Over, image[1]) == image[0] {
			o.Parts = append(o.Parts, p)
		}
	}
	return o, len(o.Parts) == count
}

// oneToOnes has other maps that are one to one.
func oneToOnes() []impl.Other {
	var others []impl.Other
	for _, text := range []string{
		"1n+0/1", "1n+1/1", "1n-20/1", "1n+20/1", "20n+20/20", "20n-20/20", "7n+0/7", "1n+1/1;1n-1/1", "1n+1/1;1n+1/1", "1n+20/1;1n-20/1", "1n+0/1;2n+0/2", "1n+0/2;1n+0/1;2n-1/1;2n+1/1",
		swaps, unswaps, threes, turns,
	} {
		others = append(others, toldOther(text))
	}
	random := rand.New(rand.NewSource(81))
	for i := range 60 {
		if o, ok := chanceOneToOne(random, 1+i%impl.MaxParts); ok {
			others = append(others, o)
		}
	}
	return others
}

// sampleOthers has ordinary other maps, other maps at the limits, those of chapter 1, one to one ones, and others by chance.
func sampleOthers() []impl.Other {
	others := oneToOnes()
	for _, text := range []string{
		"1n+0/2;3n+1/1", "2n+0/1", "20n+20/1", "20n-20/1", "20n+0/20", "1n+0/2;1n-1/2", "1n+0/2;1n+1/2", "1n+1/1;1n+1/1;1n-1/1", floors, cycle400, cycle401,
		"1n+0/8;1n-1/8;1n-2/8;1n-3/8;1n-4/8;1n-5/8;1n-6/8;1n-7/8", "20n-20/1;20n+20/20;20n+0/1;1n+20/1;1n-20/1;5n+15/20;1n+2/8;20n+20/20",
	} {
		others = append(others, toldOther(text))
	}
	for _, m := range allMaps() {
		others = append(others, impl.Other{Parts: []impl.Part{{Times: 1, Over: 2}, {Times: m.Times, Plus: m.Plus, Over: 1}}})
	}
	random := rand.New(rand.NewSource(80))
	for i := range 80 {
		others = append(others, chanceOther(random, 1+i%impl.MaxParts))
	}
	return others
}

// toldIsOther tries the numbers of each residue.
func toldIsOther(o impl.Other) bool {
	for residue, p := range o.Parts {
		if p.Times < 1 || p.Times > impl.MaxFactor || p.Plus < -impl.MaxFactor || p.Plus > impl.MaxFactor || p.Over < 1 || p.Over > impl.MaxFactor || !toldIsWhole(p, residue, len(o.Parts)) {
			return false
		}
	}
	return len(o.Parts) >= 1 && len(o.Parts) <= impl.MaxParts
}

// otherNumbers has numbers around 0, around the limits, and others.
func otherNumbers() []int {
	numbers := append(toldCount(-17, 17), 27, 78, 97, 837799, -365579, 333333333333, 1<<39, -1<<39, 999999999, -123456789)
	for near := range 9 {
		numbers = append(numbers, impl.MaxNumber-near, near-impl.MaxNumber, impl.MaxNumber/20-near, impl.MaxNumber/3+near, near-impl.MaxNumber/2)
	}
	return numbers
}

// wantOther requires that a call succeeded with an other map.
func wantOther(t *testing.T, name string, got []any, want impl.Other) {
	t.Helper()
	o, isOther := got[0].(impl.Other)
	if !isOther || got[1] != true || !slices.Equal(o.Parts, want.Parts) {
		t.Errorf("%s: got %v, want %v and true", name, got, want)
	}
}

func TestExampleOfOthers(t *testing.T) {
	three, _ := impl.OtherOfMap(threeUp)
	wantResults(t, "text", results(impl.OtherText(three)), "1n+0/2;3n+1/1")
	wantResults(t, "not one to one", results(impl.IsOneToOne(three)), false)
	wantResults(t, "two before 4", results(impl.OtherBefore(three, 4)), []int{1, 8})
	o, _ := impl.ParseOther(swaps)
	wantResults(t, "one to one", results(impl.IsOneToOne(o)), true)
	wantPairs(t, "images", results(impl.ImagesOf(o)), [][]int{{0, 2}, {1, 4}, {3, 4}})
	wantResults(t, "cycle", results(impl.OtherCycle(o, 4)), []int{4, 5, 7, 9, 6})
	wantResults(t, "fixed", results(impl.FixedNumbers(o)), []int{-1, 0, 1})
}

func TestIsOtherTakesJustTheOtherMaps(t *testing.T) {
	for _, o := range sampleOthers() {
		if !impl.IsOther(o) {
			t.Error(o, "is an other map")
		}
	}
	for _, o := range noOthers {
		if impl.IsOther(o) {
			t.Error(o, "is no other map")
		}
	}
	for count := range 3 * impl.MaxParts {
		o := impl.Other{Parts: slices.Repeat([]impl.Part{{Times: 1, Over: 1}}, count)}
		if impl.IsOther(o) != (1 <= count && count <= impl.MaxParts) {
			t.Error(count, "parts")
		}
	}
}

// TestEachPartHasToBeWhole has, in the place of each part, all parts within the limits and those just beyond.
func TestEachPartHasToBeWhole(t *testing.T) {
	for _, count := range []int{1, 2, 3, 6, impl.MaxParts} {
		for residue := range count {
			o := impl.Other{Parts: slices.Repeat([]impl.Part{{Times: 1, Over: 1}}, count)}
			for times := 0; times <= impl.MaxFactor+1; times++ {
				for plus := -impl.MaxFactor - 1; plus <= impl.MaxFactor+1; plus++ {
					for over := -1; over <= impl.MaxFactor+1; over++ {
						o.Parts[residue] = impl.Part{Times: times, Plus: plus, Over: over}
						if impl.IsOther(o) != toldIsOther(o) {
							t.Error(o, "with the part", residue)
						}
					}
				}
			}
		}
	}
}

func TestOthersGoStepByStep(t *testing.T) {
	for _, o := range sampleOthers() {
		for _, n := range otherNumbers() {
			way := toldWay(o, n)
			for _, steps := range []int{0, 1, 2, 7, 41, 199, 200, 201, impl.MaxWalk - 1, impl.MaxWalk} {
				checkWay(t, o, n, steps, way)
			}
			checkAgain(t, o, n, way)
		}
	}
}

// checkWay compares all calls that are told how many steps to take.
func checkWay(t *testing.T, o impl.Other, n int, steps int, way []int) {
	t.Helper()
	name := fmt.Sprint(toldOtherText(o), " from ", n, " steps ", steps)
	leaves := steps >= len(way)
	made := min(steps, len(way)-1)
	wantUnless(t, "OtherAfter "+name, leaves, results(impl.OtherAfter(o, n, steps)), way[made])
	wantUnless(t, "OtherPath "+name, leaves || steps > 200, results(impl.OtherPath(o, n, steps)), way[:made+1])
	if steps == 1 {
		wantUnless(t, "OtherNext "+name, leaves, results(impl.OtherNext(o, n)), way[made])
	}
}

// checkAgain compares the calls that find out themselves how many steps they take.
func checkAgain(t *testing.T, o impl.Other, n int, way []int) {
	t.Helper()
	name := fmt.Sprint(toldOtherText(o), " from ", n)
	lead, length, comes := toldAgain(way)
	wantUnless(t, "OtherLead "+name, !comes, results(impl.OtherLead(o, n)), lead, length)
	got := results(impl.OtherCycle(o, n))
	if comes {
		wantResults(t, "OtherCycle "+name, got, toldFromLeast(way[lead:lead+length]))
	} else {
		wantFailed(t, map[string][]any{"OtherCycle " + name: got})
	}
}

func TestStepsByTheResidue(t *testing.T) {
	for _, c := range []struct {
		text    string
		n, next int
	}{
		{"1n+0/1", 0, 0}, {"1n+0/1", -5, -5}, {"1n+1/1", -1, 0}, {"20n+20/20", 7, 8}, {"20n-20/20", 7, 6}, {"20n-20/1", 0, -20}, {"20n+20/1", 1, 40}, {"20n+20/1", -1, 0}, {"20n+20/1", -2, -20},
		{"1n+0/2;3n+1/1", 0, 0}, {"1n+0/2;3n+1/1", 1, 4}, {"1n+0/2;3n+1/1", -1, -2}, {"1n+0/2;3n+1/1", -2, -1}, {"1n+0/2;3n+1/1", -3, -8},
		{swaps, 0, 0}, {swaps, 1, 1}, {swaps, 2, 3}, {swaps, -1, -1}, {swaps, -2, -3}, {swaps, -3, -2}, {swaps, -4, -5}, {swaps, -5, -7}, {swaps, 999999999999, 666666666666}, {swaps, -999999999999, -666666666666},
		{floors, 3, 0}, {floors, 4, 1}, {floors, -1, -1}, {floors, -2, -1}, {floors, -3, -1}, {floors, -4, -1}, {floors, -5, -2}, {floors, -8, -2}, {floors, impl.MaxNumber, impl.MaxNumber / 4}, {floors, -impl.MaxNumber, -impl.MaxNumber / 4}, {floors, 1 - impl.MaxNumber, -impl.MaxNumber / 4},
		{turns, 0, 1}, {turns, 6, 7}, {turns, 7, 0}, {turns, 8, 9}, {turns, -1, -8}, {turns, -2, -1}, {turns, -8, -7}, {turns, -9, -16}, {turns, impl.MaxNumber - 1, impl.MaxNumber - 8},
		{"1n+5/1;1n-7/1;1n+11/1", -1, 10}, {"1n+5/1;1n-7/1;1n+11/1", -2, -9}, {"1n+5/1;1n-7/1;1n+11/1", -3, 2}, {"1n+5/1;1n-7/1;1n+11/1", 1, -6},
	} {
		o, name := toldOther(c.text), fmt.Sprint(c.text, " from ", c.n)
		wantResults(t, "next "+name, results(impl.OtherNext(o, c.n)), c.next)
		wantResults(t, "after "+name, results(impl.OtherAfter(o, c.n, 1)), c.next)
		wantResults(t, "path "+name, results(impl.OtherPath(o, c.n, 1)), []int{c.n, c.next})
	}
}

func TestOthersThatLeaveTheNumbers(t *testing.T) {
	up, down, double := toldOther("1n+20/1"), toldOther("1n-20/1"), toldOther("2n+0/1")
	wantResults(t, "up to MaxNumber", results(impl.OtherNext(up, impl.MaxNumber-20)), impl.MaxNumber)
	wantResults(t, "down to it", results(impl.OtherNext(down, 20-impl.MaxNumber)), -impl.MaxNumber)
	wantResults(t, "MaxWalk steps up", results(impl.OtherAfter(up, impl.MaxNumber-20*impl.MaxWalk, impl.MaxWalk)), impl.MaxNumber)
	wantResults(t, "MaxWalk steps down", results(impl.OtherAfter(down, 20*impl.MaxWalk-impl.MaxNumber, impl.MaxWalk)), -impl.MaxNumber)
	wantResults(t, "path to it", results(impl.OtherPath(double, impl.MaxNumber/4, 2)), []int{impl.MaxNumber / 4, impl.MaxNumber / 2, impl.MaxNumber})
	wantResults(t, "from it", results(impl.OtherNext(toldOther(floors), impl.MaxNumber)), impl.MaxNumber/4)
	wantResults(t, "stays", results(impl.OtherCycle(toldOther("20n+0/20"), impl.MaxNumber)), []int{impl.MaxNumber})
	wantResults(t, "stays below", results(impl.OtherLead(toldOther("20n+0/20"), -impl.MaxNumber)), 0, 1)
	for _, c := range []struct {
		text     string
		n, steps int
	}{
		{"1n+20/1", impl.MaxNumber - 19, 1}, {"1n-20/1", 19 - impl.MaxNumber, 1}, {"1n+20/1", impl.MaxNumber - 20*impl.MaxWalk + 1, impl.MaxWalk}, {"1n-20/1", 20*impl.MaxWalk - 1 - impl.MaxNumber, impl.MaxWalk},
		{"1n+1/1", impl.MaxNumber, 1}, {"1n-1/1", -impl.MaxNumber, 1}, {"2n+0/1", impl.MaxNumber/2 + 1, 1}, {"2n+0/1", -impl.MaxNumber/2 - 1, 1}, {"2n+0/1", 1, 40}, {"20n+20/1", impl.MaxNumber, 1}, {"20n-20/1", -impl.MaxNumber, 1},
		{"1n+0/2;3n+1/1", impl.MaxNumber - 1, 1}, {"1n+0/2;3n+1/1", 1 - impl.MaxNumber, 1}, {threes, impl.MaxNumber - 2, 1},
	} {
		o, name := toldOther(c.text), fmt.Sprint(c.text, " from ", c.n)
		wantFailed(t, map[string][]any{
			"after " + name: results(impl.OtherAfter(o, c.n, c.steps)), "last " + name: results(impl.OtherAfter(o, c.n, impl.MaxWalk)), "path " + name: results(impl.OtherPath(o, c.n, c.steps)),
			"cycle " + name: results(impl.OtherCycle(o, c.n)), "lead " + name: results(impl.OtherLead(o, c.n)),
		})
		if _, ok := impl.OtherAfter(o, c.n, c.steps-1); !ok {
			t.Error(name, "leaves the numbers too soon")
		}
	}
}

// TestOnlyANumberOnTheWayIsNone has a way on which what is behind one step is no number, but what is behind two is one.
func TestOnlyANumberOnTheWayIsNone(t *testing.T) {
	o, n := toldOther(threes), impl.MaxNumber-2
	if n%4 != 2 || !isTooGreat(toldBehind(o, n)) || toldBehind(o, toldBehind(o, n)) != n-1 || toldBehind(o, n-1) != n {
		t.Fatal("the sample is none")
	}
	for steps := 1; steps < 7; steps++ {
		name := fmt.Sprint(steps)
		wantFailed(t, map[string][]any{"after " + name: results(impl.OtherAfter(o, n, steps)), "path " + name: results(impl.OtherPath(o, n, steps)), "undo " + name: results(impl.UndoOther(o, n-1, steps))})
	}
	wantFailed(t, map[string][]any{
		"cycle": results(impl.OtherCycle(o, n)), "lead": results(impl.OtherLead(o, n)), "cycle to it": results(impl.OtherCycle(o, n-1)), "after": results(impl.OtherAfter(o, n-1, 2)), "undo": results(impl.UndoOther(o, n, 2)),
	})
	wantResults(t, "up to it", results(impl.OtherAfter(o, n-1, 1)), n)
	wantResults(t, "undone to it", results(impl.UndoOther(o, n, 1)), n-1)
	wantNumbers(t, "not before", false, results(impl.OtherBefore(o, n-1)), nil)
	// Just half as great, the numbers come around.
	wantResults(t, "around", results(impl.OtherCycle(o, impl.MaxNumber/2-2)), []int{impl.MaxNumber/2 - 4 + 1, impl.MaxNumber/2 - 2, impl.MaxNumber - 8})
}

func TestStepsOfOthersMetExactly(t *testing.T) {
	for _, text := range []string{"1n+0/1", "1n+1/1", "1n+0/2;3n+1/1", swaps, turns} {
		o := toldOther(text)
		for _, n := range []int{-4, -1, 0, 1, 5, 44} {
			way, name := toldWay(o, n), fmt.Sprint(text, n)
			wantResults(t, "0 steps "+name, results(impl.OtherAfter(o, n, 0)), n)
			wantResults(t, "path of 0 "+name, results(impl.OtherPath(o, n, 0)), []int{n})
			wantResults(t, "path of 200 "+name, results(impl.OtherPath(o, n, 200)), way[:201])
			wantResults(t, "MaxWalk "+name, results(impl.OtherAfter(o, n, impl.MaxWalk)), way[impl.MaxWalk])
			wantFailed(t, map[string][]any{
				"after " + name: results(impl.OtherAfter(o, n, impl.MaxWalk+1)), "path " + name: results(impl.OtherPath(o, n, 201)), "long path " + name: results(impl.OtherPath(o, n, impl.MaxWalk)),
				"less " + name: results(impl.OtherAfter(o, n, -1)), "path less " + name: results(impl.OtherPath(o, n, -1)), "undo " + name: results(impl.UndoOther(o, n, impl.MaxWalk+1)), "undo less " + name: results(impl.UndoOther(o, n, -1)),
			})
		}
	}
}

func TestSomeCyclesOfOthers(t *testing.T) {
	for _, c := range []struct {
		text  string
		n     int
		lead  int
		cycle []int
	}{
		{"1n+0/1", 0, 0, []int{0}}, {"1n+0/1", -7, 0, []int{-7}}, {"20n+0/20", 5, 0, []int{5}}, {"1n+1/1;1n-1/1", 0, 0, []int{0, 1}}, {"1n+1/1;1n-1/1", 1, 0, []int{0, 1}}, {"1n+1/1;1n-1/1", -1, 0, []int{-2, -1}},
		{"1n+0/2;3n+1/1", 7, 14, []int{1, 4, 2}}, {"1n+0/2;3n+1/1", 1, 0, []int{1, 4, 2}}, {"1n+0/2;3n+1/1", 4, 0, []int{1, 4, 2}}, {"1n+0/2;3n+1/1", 8, 1, []int{1, 4, 2}}, {"1n+0/2;3n+1/1", 0, 0, []int{0}},
		{"1n+0/2;3n+1/1", -1, 0, []int{-2, -1}}, {"1n+0/2;3n+1/1", -5, 0, []int{-20, -10, -5, -14, -7}}, {"1n+0/2;3n+1/1", -3, 3, []int{-2, -1}}, {"1n+0/2;3n+1/1", -40, 1, []int{-20, -10, -5, -14, -7}},
		{swaps, 4, 0, []int{4, 5, 7, 9, 6}}, {swaps, 9, 0, []int{4, 5, 7, 9, 6}}, {swaps, 2, 0, []int{2, 3}}, {swaps, -4, 0, []int{-9, -6, -4, -5, -7}}, {swaps, 44, 0, []int{44, 59, 79, 105, 70, 93, 62, 83, 111, 74, 99, 66}},
		{turns, 13, 0, []int{8, 9, 10, 11, 12, 13, 14, 15}}, {turns, -3, 0, []int{-8, -7, -6, -5, -4, -3, -2, -1}}, {threes, 10, 0, []int{9, 10, 16}}, {threes, 0, 0, []int{0, 1, 2}},
		{floors, impl.MaxNumber, 20, []int{0}}, {floors, -impl.MaxNumber, 20, []int{-1}}, {"1n+1/1;1n+1/1;1n-1/1", 0, 1, []int{1, 2}}, {"1n+1/1;1n+1/1;1n-1/1", -3, 1, []int{-2, -1}},
		{"1n+1/1", 0, -1, nil}, {"1n-1/1", 0, -1, nil}, {"1n+20/1", -4000, -1, nil}, {"2n+0/1", 1, -1, nil}, {"2n+0/1", 0, 0, []int{0}}, {"2n+20/1", -20, 0, []int{-20}}, {swaps, 8, -1, nil}, {unswaps, 8, -1, nil},
	} {
		o, name := toldOther(c.text), fmt.Sprint(c.text, " from ", c.n)
		wantUnless(t, "lead "+name, c.lead < 0, results(impl.OtherLead(o, c.n)), c.lead, len(c.cycle))
		wantUnless(t, "cycle "+name, c.lead < 0, results(impl.OtherCycle(o, c.n)), c.cycle)
	}
}

// TestCyclesOfMaxWalkMetExactly has cycles that close just within MaxWalk steps, and just behind.
func TestCyclesOfMaxWalkMetExactly(t *testing.T) {
	just, late := toldOther(cycle400), toldOther(cycle401)
	wantResults(t, "lead of just so many numbers", results(impl.OtherLead(just, cycle400From)), 0, impl.MaxWalk)
	way := toldWay(just, cycle400From)
	wantResults(t, "cycle of just so many numbers", results(impl.OtherCycle(just, cycle400From)), toldFromLeast(way[:impl.MaxWalk]))
	if around := toldBehind(late, toldWay(late, cycle401From)[impl.MaxWalk]); around != cycle401From {
		t.Fatal("the sample is none:", around)
	}
	wantFailed(t, map[string][]any{"lead of one number more": results(impl.OtherLead(late, cycle401From)), "cycle of one number more": results(impl.OtherCycle(late, cycle401From))})
	for _, text := range []string{"1n+0/2;3n+1/1", "1n+0/2;3n+1/1;1n+0/2;3n+1/1"} {
		o := toldOther(text)
		slow, _ := impl.OtherAfter(o, slowFrom, 525-impl.MaxWalk-1)
		next, _ := impl.OtherNext(o, slow)
		wantFailed(t, map[string][]any{"lead just behind " + text: results(impl.OtherLead(o, slow)), "cycle just behind " + text: results(impl.OtherCycle(o, slow)), "far behind " + text: results(impl.OtherCycle(o, slowFrom))})
		wantResults(t, "lead just within "+text, results(impl.OtherLead(o, next)), impl.MaxWalk-3, 3)
		wantResults(t, "cycle just within "+text, results(impl.OtherCycle(o, next)), []int{1, 4, 2})
	}
}

// TestOneStepBeforeALongCycle has numbers that are not on their cycle: one step more than the cycle has is just too much.
func TestOneStepBeforeALongCycle(t *testing.T) {
	o := toldOther(cycle400)
	cycle, _ := impl.OtherCycle(o, cycle400From)
	checked := 0
	for _, n := range cycle {
		before, _ := impl.OtherBefore(o, n)
		for _, x := range before {
			if slices.Contains(cycle, x) {
				wantResults(t, fmt.Sprint("on it ", x), results(impl.OtherLead(o, x)), 0, impl.MaxWalk)
				continue
			}
			wantFailed(t, map[string][]any{fmt.Sprint("before it ", x): results(impl.OtherLead(o, x)), fmt.Sprint("cycle before it ", x): results(impl.OtherCycle(o, x))})
			checked++
		}
	}
	if checked == 0 {
		t.Error("no number is before the cycle")
	}
}

func TestOthersOfMapsGoAsTheMaps(t *testing.T) {
	for _, m := range allMaps() {
		o, ok := impl.OtherOfMap(m)
		if !ok || !impl.IsOther(o) {
			t.Fatal(m, o, ok)
		}
		wantOther(t, fmt.Sprint(m), results(o, ok), impl.Other{Parts: []impl.Part{{Times: 1, Plus: 0, Over: 2}, {Times: m.Times, Plus: m.Plus, Over: 1}}})
		for _, n := range otherNumbers() {
			name := fmt.Sprint(m, n)
			if got, want := results(impl.OtherNext(o, n)), results(impl.NextNumber(m, n)); !reflect.DeepEqual(got, want) {
				t.Error(name, got, "want", want)
			}
			if got, want := results(impl.OtherPath(o, n, 200)), results(impl.PathOf(m, n, 200)); !reflect.DeepEqual(got, want) {
				t.Error(name, got, "want", want)
			}
			lead, length, comes := impl.LeadOf(m, n)
			if comes && lead+length <= impl.MaxWalk {
				cycle, _ := impl.CycleOf(m, n)
				wantResults(t, name, results(impl.OtherLead(o, n)), lead, length)
				wantResults(t, name, results(impl.OtherCycle(o, n)), cycle)
			}
		}
	}
	for _, m := range append(noMaps, impl.Map{Times: math.MinInt, Plus: 1}, impl.Map{Times: 3, Plus: math.MaxInt}) {
		wantFailed(t, map[string][]any{fmt.Sprint(m): results(impl.OtherOfMap(m))})
	}
	wantOther(t, "least", results(impl.OtherOfMap(impl.Map{Times: 1, Plus: -9})), toldOther("1n+0/2;1n-9/1"))
	wantOther(t, "greatest", results(impl.OtherOfMap(impl.Map{Times: 9, Plus: 9})), toldOther("1n+0/2;9n+9/1"))
}

func TestNumbersBeforeByOthers(t *testing.T) {
	for _, o := range sampleOthers() {
		for _, n := range otherNumbers() {
			wantNumbers(t, fmt.Sprint(toldOtherText(o), " before ", n), false, results(impl.OtherBefore(o, n)), toldOtherBefore(o, n))
		}
	}
}

// TestAllNumbersBeforeByOthers tries all numbers near 0.
func TestAllNumbersBeforeByOthers(t *testing.T) {
	for _, o := range sampleOthers() {
		before := map[int][]int{}
		for x := -1000; x <= 1000; x++ {
			before[toldBehind(o, x)] = append(before[toldBehind(o, x)], x)
		}
		for n := -40; n <= 40; n++ {
			wantNumbers(t, fmt.Sprint(toldOtherText(o), " before ", n), false, results(impl.OtherBefore(o, n)), before[n])
		}
	}
}

func TestSomeNumbersBeforeByOthers(t *testing.T) {
	const most = impl.MaxNumber
	for _, c := range []struct {
		text string
		n    int
		want []int
	}{
		{"1n+0/2;3n+1/1", 16, []int{5, 32}}, {"1n+0/2;3n+1/1", 5, []int{10}}, {"1n+0/2;3n+1/1", -2, []int{-4, -1}}, {"1n+0/2;3n+1/1", 0, []int{0}}, {"2n+0/1", 1, nil}, {"2n+0/1", -3, nil}, {"20n+1/1", 0, nil},
		{"1n+0/1", most, []int{most}}, {"1n+0/1", -most, []int{-most}}, {"1n+1/1", -most, nil}, {"1n-1/1", most, nil}, {"1n+1/1", 1 - most, []int{-most}}, {"1n-1/1", most - 1, []int{most}}, {"1n+20/1", 19 - most, nil}, {"1n-20/1", most - 19, nil},
		{"1n+0/2;3n+1/1", most, []int{333333333333}}, {"1n+0/2;3n+1/1", -most, nil}, {"1n+0/2;3n-1/1", -most, []int{-333333333333}}, {"1n+0/2;3n+1/1", most / 2, []int{most}}, {"1n+0/2;3n+1/1", most/2 + 1, nil}, {"1n+0/2;3n-1/1", -most / 2, []int{-most}},
		{floors, 0, []int{0, 1, 2, 3}}, {floors, -1, []int{-4, -3, -2, -1}}, {floors, 9, []int{36, 37, 38, 39}}, {floors, most / 4, []int{most}}, {floors, -most / 4, []int{-most, 1 - most, 2 - most, 3 - most}}, {floors, -most/4 - 1, nil}, {floors, most/4 - 1, []int{most - 4, most - 3, most - 2, most - 1}},
		{"1n+0/8;1n-1/8;1n-2/8;1n-3/8;1n-4/8;1n-5/8;1n-6/8;1n-7/8", -1, []int{-8, -7, -6, -5, -4, -3, -2, -1}}, {"1n+4/1;1n+2/1;1n+0/1", 5, []int{5}}, {"1n+3/1;1n+2/1;1n+1/1", 3, []int{0, 1, 2}}, {"1n+3/1;1n+2/1;1n+1/1", -3, []int{-6, -5, -4}}, {"1n+3/1;1n+2/1;1n+1/1", 4, nil},
		// By the part of a greater residue a lesser number comes there.
		{"1n+1/1;1n+4/1;1n+1/1", 5, []int{1}}, {"1n-9/1;1n+9/1", 10, []int{1}}, {"1n-9/1;1n+9/1", 11, []int{20}}, {"1n-20/1;20n+0/1", 100, []int{5, 120}}, {"4n+0/2;2n-10/1", 0, []int{0, 5}}, {"4n+20/2;2n-20/1", 10, []int{0, 15}}, {"2n+20/1;2n-18/1", 0, []int{-10, 9}},
	} {
		wantNumbers(t, fmt.Sprint(c.text, " before ", c.n), false, results(impl.OtherBefore(toldOther(c.text), c.n)), c.want)
	}
}

// TestImagesAreWhatNumbersBecome takes numbers with each residue, one after the other: behind a step they have to be all with the residue of the image, one after the other.
func TestImagesAreWhatNumbersBecome(t *testing.T) {
	for _, o := range sampleOthers() {
		images, ok := impl.ImagesOf(o)
		if !ok || len(images) != len(o.Parts) {
			t.Fatal(o, images, ok)
		}
		for residue, image := range images {
			if len(image) != 2 || image[0] < 0 || image[0] >= image[1] {
				t.Fatal(o, image, "is no residue and modulus")
			}
			for n := residue - 50*len(o.Parts); n <= 400; n += len(o.Parts) {
				if behind := toldBehind(o, n); toldResidue(behind, image[1]) != image[0] || toldBehind(o, n+len(o.Parts)) != behind+image[1] {
					t.Error(o, n, "becomes", behind, "not as", image)
				}
			}
		}
	}
}

func TestSomeImages(t *testing.T) {
	for text, want := range map[string][][]int{
		"1n+0/1": {{0, 1}}, "1n+20/1": {{0, 1}}, "20n+20/20": {{0, 1}}, "20n+19/1": {{19, 20}}, "20n+20/1": {{0, 20}}, "20n-20/1": {{0, 20}}, "20n-1/1": {{19, 20}}, "3n-20/1": {{1, 3}}, "6n+4/2": {{2, 3}},
		"1n+0/2;3n+1/1": {{0, 1}, {4, 6}}, "1n+0/2;3n-1/1": {{0, 1}, {2, 6}}, "1n+0/2;9n-9/1": {{0, 1}, {0, 18}}, "1n+0/2;1n-9/1": {{0, 1}, {0, 2}}, "1n+1/1;1n+1/1": {{1, 2}, {0, 2}}, "1n-3/1;1n-3/1": {{1, 2}, {0, 2}},
		swaps: {{0, 2}, {1, 4}, {3, 4}}, unswaps: {{0, 6}, {1, 3}, {3, 6}, {2, 3}}, threes: {{1, 2}, {2, 4}, {0, 8}, {4, 8}}, floors: {{0, 1}, {0, 1}, {0, 1}, {0, 1}},
		turns: {{1, 8}, {2, 8}, {3, 8}, {4, 8}, {5, 8}, {6, 8}, {7, 8}, {0, 8}}, "20n-20/1;1n+0/1;1n+0/1;1n+0/1;1n+0/1;1n+0/1;1n+0/1;20n+20/1": {{140, 160}, {1, 8}, {2, 8}, {3, 8}, {4, 8}, {5, 8}, {6, 8}, {0, 160}},
	} {
		wantPairs(t, text, results(impl.ImagesOf(toldOther(text))), want)
	}
}

func TestOthersThatAreOneToOne(t *testing.T) {
	for _, o := range oneToOnes() {
		if !toldIsOneToOne(o) {
			t.Fatal(o, "is no sample")
		}
		wantResults(t, toldOtherText(o), results(impl.IsOneToOne(o)), true)
	}
	for _, o := range sampleOthers() {
		wantResults(t, toldOtherText(o), results(impl.IsOneToOne(o)), toldIsOneToOne(o))
	}
	random := rand.New(rand.NewSource(82))
	for range 200 {
		// Parts such as n and some more have moduli that are the count of parts, so that they meet or have all numbers.
		o := chanceOther(random, 1+random.Intn(3))
		for i := range o.Parts {
			o.Parts[i].Times, o.Parts[i].Over = 1, 1
		}
		wantResults(t, toldOtherText(o), results(impl.IsOneToOne(o)), toldIsOneToOne(o))
	}
}

func TestOthersThatAreNotOneToOne(t *testing.T) {
	for _, text := range []string{
		// Some numbers are behind none.
		"2n+0/1", "20n+20/1", "3n+0/2;3n+1/2", "2n+0/1;2n+0/1", "1n+0/1;3n+0/1", "2n+0/3;4n-1/3;8n-1/3", "1n+0/2;1n+0/1;2n-1/1;4n-5/1", "1n+1/1;1n+1/1;1n+1/1;1n+1/1;1n+1/1;1n+1/1;1n+1/1;20n-20/1",
		// Some are behind several.
		"1n+0/2;3n+1/1", "1n+0/2;1n-1/2", floors, "1n+0/2;1n+0/1", "1n+0/2;1n+1/2", "1n+0/2;1n+0/1;1n-2/2;1n+0/1", "3n+0/2;3n+1/4;3n+0/2;1n+0/1",
		// Both: the shares are 1, but images meet.
		"1n+0/1;1n+1/1", "1n+1/1;1n+0/1", "1n+1/1;1n+1/1;1n-1/1", "2n+0/3;4n-4/3;4n-2/3", "2n+0/3;4n-1/3;4n-5/3", "1n+1/1;1n+1/1;1n+1/1;1n+1/1;1n+1/1;1n+1/1;1n+1/1;1n-6/1",
	} {
		o := toldOther(text)
		if !toldIsOther(o) || toldIsOneToOne(o) {
			t.Fatal(text, "is no sample")
		}
		wantResults(t, text, results(impl.IsOneToOne(o)), false)
		for _, n := range []int{0, 1, 4} {
			for _, steps := range []int{0, 1, impl.MaxWalk} {
				wantFailed(t, map[string][]any{text: results(impl.UndoOther(o, n, steps))})
			}
		}
	}
}

func TestOneToOneOthersAreUndone(t *testing.T) {
	for _, o := range oneToOnes() {
		for _, n := range otherNumbers() {
			way := toldWay(o, n)
			for _, steps := range []int{0, 1, 2, 7, 41, 200, impl.MaxWalk} {
				if steps < len(way) {
					wantResults(t, fmt.Sprint(toldOtherText(o), way[steps], steps), results(impl.UndoOther(o, way[steps], steps)), n)
				}
			}
			checkUndo(t, o, n)
		}
	}
}

// checkUndo goes back step by step, as long as there are numbers.
func checkUndo(t *testing.T, o impl.Other, n int) {
	t.Helper()
	at, isThere := n, true
	for steps := 0; steps <= impl.MaxWalk; steps++ {
		if steps < 5 || steps%57 == 0 || steps == impl.MaxWalk {
			wantUnless(t, fmt.Sprint("undo ", toldOtherText(o), n, steps), !isThere, results(impl.UndoOther(o, n, steps)), at)
		}
		if before := toldOtherBefore(o, at); isThere && len(before) == 1 {
			at = before[0]
		} else {
			isThere = false
		}
	}
}

func TestSomeStepsUndone(t *testing.T) {
	for _, c := range []struct {
		text           string
		n, steps, want int
	}{
		{swaps, 4, 0, 4}, {swaps, 4, 1, 6}, {swaps, 4, 2, 9}, {swaps, 5, 1, 4}, {swaps, 4, impl.MaxWalk, 4}, {swaps, -5, 1, -4}, {swaps, 0, 9, 0}, {"1n+0/1", 7, impl.MaxWalk, 7}, {"1n+1/1", 7, impl.MaxWalk, 7 - impl.MaxWalk}, {"1n-20/1", 7, impl.MaxWalk, 7 + 20*impl.MaxWalk},
		{turns, 8, 1, 15}, {turns, -8, 1, -1}, {turns, 0, impl.MaxWalk, 0}, {"1n+1/1;1n-1/1", -1, 1, -2}, {threes, 9, 1, 16}, {threes, 9, 2, 10}, {threes, 9, 3, 9},
		{"1n+1/1", 1 - impl.MaxNumber, 1, -impl.MaxNumber}, {"1n-1/1", impl.MaxNumber - 1, 1, impl.MaxNumber}, {"1n+20/1", impl.MaxNumber, impl.MaxWalk, impl.MaxNumber - 20*impl.MaxWalk},
		{"1n-20/1", impl.MaxNumber - 20*impl.MaxWalk, impl.MaxWalk, impl.MaxNumber}, {"1n+1/1", -impl.MaxNumber, 0, -impl.MaxNumber}, {unswaps, 666666666666, 1, 444444444444},
	} {
		wantResults(t, fmt.Sprint(c.text, c.n, c.steps), results(impl.UndoOther(toldOther(c.text), c.n, c.steps)), c.want)
	}
	wantFailed(t, map[string][]any{
		"before the least": results(impl.UndoOther(toldOther("1n+1/1"), -impl.MaxNumber, 1)), "before the greatest": results(impl.UndoOther(toldOther("1n-1/1"), impl.MaxNumber, 1)),
		"just beyond": results(impl.UndoOther(toldOther("1n-20/1"), impl.MaxNumber-20*impl.MaxWalk+1, impl.MaxWalk)), "thirds": results(impl.UndoOther(toldOther(swaps), 666666666668, 1)),
	})
}

func TestOthersThatAreDoubled(t *testing.T) {
	for _, o := range sampleOthers() {
		double, ok := impl.DoubleOther(o)
		if 2*len(o.Parts) > impl.MaxParts {
			wantFailed(t, map[string][]any{toldOtherText(o): results(double, ok)})
			continue
		}
		wantOther(t, toldOtherText(o), results(double, ok), impl.Other{Parts: slices.Concat(o.Parts, o.Parts)})
		if !impl.IsOther(double) {
			t.Error(double, "is an other map")
		}
		wantResults(t, "one to one "+toldOtherText(o), results(impl.IsOneToOne(double)), toldIsOneToOne(o))
		for _, n := range otherNumbers() {
			for _, steps := range []int{1, 60, impl.MaxWalk} {
				if got, want := results(impl.OtherAfter(double, n, steps)), results(impl.OtherAfter(o, n, steps)); !reflect.DeepEqual(got, want) {
					t.Error(o, n, steps, got, "want", want)
				}
			}
		}
	}
	one := toldOther("3n+1/1")
	for count := 1; count <= impl.MaxParts/2; count *= 2 {
		double, ok := impl.DoubleOther(one)
		wantOther(t, fmt.Sprint(count), results(double, ok), impl.Other{Parts: slices.Repeat(one.Parts, 2)})
		one = double
	}
	wantFailed(t, map[string][]any{"of MaxParts": results(impl.DoubleOther(one)), "of five": results(impl.DoubleOther(toldOther("1n+0/1;1n+0/1;1n+0/1;1n+0/1;1n+0/1"))), "turns": results(impl.DoubleOther(toldOther(turns)))})
	wantOther(t, "just MaxParts", results(impl.DoubleOther(toldOther(threes))), toldOther(threes+";"+threes))
}

func TestNegativeOthersGoTheOtherWay(t *testing.T) {
	for _, o := range sampleOthers() {
		negative, ok := impl.NegativeOther(o)
		if !ok || !impl.IsOther(negative) {
			t.Fatal(o, negative, ok)
		}
		want := impl.Other{}
		for residue := range o.Parts {
			p := o.Parts[toldResidue(-residue, len(o.Parts))]
			want.Parts = append(want.Parts, impl.Part{Times: p.Times, Plus: -p.Plus, Over: p.Over})
		}
		wantOther(t, toldOtherText(o), results(negative, ok), want)
		wantOther(t, "again "+toldOtherText(o), results(impl.NegativeOther(negative)), o)
		for _, n := range otherNumbers() {
			next, ok := impl.OtherNext(o, n)
			wantUnless(t, fmt.Sprint(toldOtherText(negative), -n), !ok, results(impl.OtherNext(negative, -n)), -next)
		}
	}
	for text, want := range map[string]string{
		"1n+0/1": "1n+0/1", "3n+7/1": "3n-7/1", "1n+0/2;3n+1/1": "1n+0/2;3n-1/1", swaps: swaps, floors: "1n+0/4;1n+3/4;1n+2/4;1n+1/4", turns: "1n-1/1;1n+7/1;1n-1/1;1n-1/1;1n-1/1;1n-1/1;1n-1/1;1n-1/1", "1n+5/1;1n-7/1;1n+11/1": "1n-5/1;1n-11/1;1n+7/1",
	} {
		wantOther(t, text, results(impl.NegativeOther(toldOther(text))), toldOther(want))
	}
}

func TestFixedNumbers(t *testing.T) {
	for _, o := range sampleOthers() {
		var want []int
		for n := -400; n <= 400; n++ {
			if toldBehind(o, n) == n {
				want = append(want, n)
			}
		}
		wantNumbers(t, toldOtherText(o), false, results(impl.FixedNumbers(o)), want)
	}
	var eighths, beforeEighths []int
	for n := -400; n <= 400; n += 8 {
		eighths = append(eighths, n)
		beforeEighths = append(beforeEighths, n+7)
	}
	for text, want := range map[string][]int{
		"1n+0/1": toldCount(-400, 400), "20n+0/20": toldCount(-400, 400), "1n+1/1": nil, "1n-20/1": nil, "2n+0/1": {0}, "2n+20/1": {-20}, "2n-20/1": {20}, "20n-19/1": {1}, "3n-20/1": {10}, "3n-19/1": nil, "1n+0/2;3n+1/1": {0}, "1n+0/2;3n-9/1": {0}, "1n+0/2;3n+2/1": {-1, 0},
		"1n+1/1;1n-1/1": nil, swaps: {-1, 0, 1}, floors: {-1, 0}, turns: nil, threes: nil, "2n+20/1;2n-19/1": {-20, 19}, "4n+6/2;1n+1/1": nil, "2n+7/1;2n+8/1": nil, "2n-8/1;2n-7/1": {7, 8},
		"1n+0/1;1n+1/1;1n+1/1;1n+1/1;1n+1/1;1n+1/1;1n+1/1;1n+1/1": eighths, "1n+1/1;1n+1/1;1n+1/1;1n+1/1;1n+1/1;1n+1/1;1n+1/1;1n+0/1": beforeEighths[:100],
	} {
		wantNumbers(t, text, false, results(impl.FixedNumbers(toldOther(text))), want)
	}
}

func TestOtherTexts(t *testing.T) {
	for _, o := range sampleOthers() {
		text := toldOtherText(o)
		wantResults(t, text, results(impl.OtherText(o)), text)
		wantOther(t, text, results(impl.ParseOther(text)), o)
	}
	for _, c := range []struct {
		text  string
		parts []impl.Part
	}{
		{"1n+0/1", []impl.Part{{Times: 1, Plus: 0, Over: 1}}}, {"20n+20/20", []impl.Part{{Times: 20, Plus: 20, Over: 20}}}, {"20n-20/1", []impl.Part{{Times: 20, Plus: -20, Over: 1}}}, {"4n+6/2", []impl.Part{{Times: 4, Plus: 6, Over: 2}}},
		{"1n+0/2;3n+1/1", []impl.Part{{Times: 1, Plus: 0, Over: 2}, {Times: 3, Plus: 1, Over: 1}}}, {"7n-9/1;1n+1/2", []impl.Part{{Times: 7, Plus: -9, Over: 1}, {Times: 1, Plus: 1, Over: 2}}},
		{strings.Repeat("20n-20/20;", impl.MaxParts-1) + "20n-20/20", slices.Repeat([]impl.Part{{Times: 20, Plus: -20, Over: 20}}, impl.MaxParts)},
	} {
		o := impl.Other{Parts: c.parts}
		wantResults(t, c.text, results(impl.OtherText(o)), c.text)
		wantOther(t, c.text, results(impl.ParseOther(c.text)), o)
	}
	for _, o := range noOthers {
		wantFailed(t, map[string][]any{fmt.Sprint(o): results(impl.OtherText(o)), fmt.Sprint("back ", o): results(impl.ParseOther(toldOtherText(o)))})
	}
}

func TestTextsThatAreNoOtherText(t *testing.T) {
	for _, text := range []string{
		"", " ", ";", "-", "n", "/", "n/", "+/", "1", "1n", "1n+", "1n+0", "1n+0/", "n+0/1", "+0/1", "1n/1", "1/1", "1+0/1", "1n+/1", "1n0/1", "1n5/1", "3n1/1", "1n+0 1", "1n+01", "1n+0/1/1", "1n+0//1", "1nn+0/1", "1n++0/1", "1n+-0/1", "1n+0+0/1", "1n+0n/1",
		"1n-0/1", "-1n+0/1", "+1n+0/1", "1n+0/+1", "1n+0/-1", "-1n+0/-1", "01n+0/1", "1n+00/1", "1n+0/01", "1n+01/1", "1n-01/1", "001n+1/1", "1n+010/1", "3n+1/01", "1n+0/2;03n+1/1", "1n+0/02;3n+1/1", "1n+0/2;3n+01/1",
		"1n+0/1;", ";1n+0/1", "1n+0/2;;3n+1/1", "1n+0/2;3n+1/1;", "1n+0/2;3n+1", "1n+0/2;3n+1/", "1n+0/2,3n+1/1", "1n+0/2:3n+1/1", "1n+0/2 3n+1/1", "1n+0/23n+1/1", "1n+0/2\n3n+1/1", turns + ";",
		" 1n+0/1", "1n+0/1 ", "1 n+0/1", "1n +0/1", "1n+ 0/1", "1n+0 /1", "1n+0/ 1", "1n+0/2; 3n+1/1", "1n+0/2 ;3n+1/1", "1n+0/1\n", "\t1n+0/1", "1n+0/1\x00", "\x001n+0/1", "1n+0/1\xff", "1n\xff0/1", "\xef\xbc\x91n+0/1", "1n\xe2\x88\x921/1",
		"1N+0/1", "1x+0/1", "1m+0/1", "1n*0/1", "1n+0\\1", "1n+0:1", "1_0n+0/1", "1n+1_0/1", "0x1n+0/1", "1n+0x1/1", "0b1n+0/1", "1.0n+0/1", "1n+0.0/1", "1e0n+0/1", "1n+1e1/1", "3x+1", "3/2", "an+b/c",
		"0n+0/1", "0n+1/1", "21n+0/1", "21n+0/21", "100n+0/1", "1n+21/1", "1n-21/1", "1n+100/1", "1n+0/0", "1n+0/21", "42n+0/21", "1n+0/2", "1n+1/2", "3n+0/2", "1n+20/20", "1n+0/2;3n+2/2", "1n+1/2;3n+1/1", "2n+0/3;4n+1/3;4n+1/3",
		"9223372036854775808n+0/1", "18446744073709551617n+0/1", "1n+18446744073709551616/1", "1n-18446744073709551616/1", "1n+0/18446744073709551617", "-18446744073709551615n+0/1", "1n+9223372036854775807/1", "1n-9223372036854775808/1",
		turns + ";1n+0/1", strings.Repeat("1n+0/1;", impl.MaxParts) + "1n+0/1", strings.Repeat("1n+0/1;", 5000) + "1n+0/1", strings.Repeat(";", 7), strings.Repeat(";", 5000), strings.Repeat("1", 5000) + "n+0/1", "1n+" + strings.Repeat("0", 5000) + "/1", strings.Repeat("n", 5000), "1n+0/1;1n+0/1\n1n+0/1",
	} {
		wantFailed(t, map[string][]any{text: results(impl.ParseOther(text))})
	}
}

// wayCalls has all calls of the chapter that take an other map, a number and steps.
func wayCalls(o impl.Other, n int, steps int) map[string][]any {
	return map[string][]any{"OtherAfter": results(impl.OtherAfter(o, n, steps)), "OtherPath": results(impl.OtherPath(o, n, steps)), "UndoOther": results(impl.UndoOther(o, n, steps))}
}

// fromCalls has those that take an other map and a number.
func fromCalls(o impl.Other, n int) map[string][]any {
	return map[string][]any{
		"OtherNext": results(impl.OtherNext(o, n)), "OtherCycle": results(impl.OtherCycle(o, n)), "OtherLead": results(impl.OtherLead(o, n)), "OtherBefore": results(impl.OtherBefore(o, n)),
	}
}

// wholeCalls has those that take an other map alone.
func wholeCalls(o impl.Other) map[string][]any {
	return map[string][]any{
		"ImagesOf": results(impl.ImagesOf(o)), "IsOneToOne": results(impl.IsOneToOne(o)), "DoubleOther": results(impl.DoubleOther(o)), "NegativeOther": results(impl.NegativeOther(o)),
		"FixedNumbers": results(impl.FixedNumbers(o)), "OtherText": results(impl.OtherText(o)),
	}
}

func TestInvalidArgumentsOfOthersFail(t *testing.T) {
	valid := toldOther(swaps)
	for _, calls := range []map[string][]any{
		wayCalls(valid, 4, 200), wayCalls(valid, 0, 0), fromCalls(valid, 4), wholeCalls(toldOther(threes)), without(fromCalls(toldOther("1n-1/1"), impl.MaxNumber), "OtherCycle", "OtherLead"), without(fromCalls(toldOther("1n+1/1"), -impl.MaxNumber), "OtherCycle", "OtherLead"),
	} {
		for name, got := range calls {
			if got[len(got)-1] != true {
				t.Error(name, "failed with valid arguments")
			}
		}
	}
	for _, o := range noOthers {
		for _, n := range []int{0, 1, 4, -4, impl.MaxNumber} {
			wantFailed(t, wayCalls(o, n, 0))
			wantFailed(t, wayCalls(o, n, 1))
			wantFailed(t, fromCalls(o, n))
		}
		wantFailed(t, wholeCalls(o))
	}
	for _, o := range []impl.Other{valid, toldOther("1n+0/1"), toldOther("1n+1/1"), toldOther("1n-1/1"), toldOther("1n+0/2;3n+1/1"), toldOther(floors), toldOther(turns)} {
		for _, n := range noNumbers {
			wantFailed(t, wayCalls(o, n, 0))
			wantFailed(t, wayCalls(o, n, 1))
			wantFailed(t, fromCalls(o, n))
		}
		for _, steps := range noWalks {
			wantFailed(t, wayCalls(o, 0, steps))
			wantFailed(t, wayCalls(o, 4, steps))
		}
	}
}

func TestNoArgumentOfOthersPanics(t *testing.T) {
	numbers := append([]int{200, 201, impl.MaxWalk, impl.MaxWalk + 1}, extremes...)
	others := []impl.Other{toldOther(swaps), toldOther(threes), toldOther("1n+1/1"), toldOther("20n+20/1"), toldOther("20n-20/1"), toldOther(turns), toldOther(floors)}
	for _, o := range append(others, noOthers...) {
		for _, n := range numbers {
			for name, got := range fromCalls(o, n) {
				wantNoHalfFailure(t, fmt.Sprint(name, o, n), got)
			}
			for _, steps := range numbers {
				for name, got := range wayCalls(o, n, steps) {
					wantNoHalfFailure(t, fmt.Sprint(name, o, n, steps), got)
				}
			}
		}
		for name, got := range wholeCalls(o) {
			wantNoHalfFailure(t, fmt.Sprint(name, o), got)
		}
	}
}

func TestNoPartPanics(t *testing.T) {
	for _, times := range extremes {
		for _, plus := range extremes {
			wantNoHalfFailure(t, "OtherOfMap", results(impl.OtherOfMap(impl.Map{Times: times, Plus: plus})))
			for _, over := range extremes {
				p := impl.Part{Times: times, Plus: plus, Over: over}
				for _, o := range []impl.Other{{Parts: []impl.Part{p}}, {Parts: []impl.Part{{Times: 1, Over: 1}, p}}} {
					checkPart(t, o)
				}
			}
		}
	}
}

// checkPart has, of the calls, those from some numbers.
func checkPart(t *testing.T, o impl.Other) {
	t.Helper()
	if impl.IsOther(o) != toldIsOther(o) {
		t.Error(o)
	}
	for name, got := range wholeCalls(o) {
		wantNoHalfFailure(t, name, got)
	}
	for _, n := range []int{-impl.MaxNumber, -1, 1} {
		for name, got := range fromCalls(o, n) {
			wantNoHalfFailure(t, name, got)
		}
		for name, got := range wayCalls(o, n, 3) {
			wantNoHalfFailure(t, name, got)
		}
	}
}

func TestListsOfOthersAreNew(t *testing.T) {
	o := toldOther(swaps)
	wantNewLists(t, func() map[string][]int {
		path, _ := impl.OtherPath(o, 4, 3)
		start, _ := impl.OtherPath(o, 4, 0)
		cycle, _ := impl.OtherCycle(o, 9)
		before, _ := impl.OtherBefore(toldOther(floors), 4)
		fixed, _ := impl.FixedNumbers(o)
		return map[string][]int{"path": path, "start": start, "cycle": cycle, "before": before, "fixed": fixed}
	})
	wantOwnRows(t, "images", func() ([][]int, bool) { return impl.ImagesOf(toldOther(turns)) })
}

// wantOwnParts requires that the parts of an other map which a call returns share no memory with those which it returns later.
func wantOwnParts(t *testing.T, name string, call func() (impl.Other, bool)) {
	t.Helper()
	o, _ := call()
	want, _ := call()
	if len(o.Parts) == 0 {
		t.Error(name, "has no parts")
	}
	// What is appended would be written behind the parts, were there room in another list.
	_ = append(o.Parts, impl.Part{Times: -99}, impl.Part{Times: -99}, impl.Part{Times: -99})
	for i := range o.Parts {
		o.Parts[i] = impl.Part{Times: -99}
	}
	wantOther(t, name, results(call()), want)
}

func TestPartsWithinOthersAreTheirOwn(t *testing.T) {
	wantOwnParts(t, "OtherOfMap", func() (impl.Other, bool) { return impl.OtherOfMap(threeUp) })
	wantOwnParts(t, "ParseOther", func() (impl.Other, bool) { return impl.ParseOther(swaps) })
	parts := toldOther(turns).Parts
	want := slices.Clone(parts)
	parts[3], want[3] = impl.Part{Times: 5, Over: 5}, impl.Part{Times: 5, Over: 5}
	for name, list := range map[string][]impl.Part{"one": parts[3:4:4], "with room": parts[:2], "without": parts[:2:2], "four": parts[:4], "the last ones": parts[5:], "all": parts} {
		wantOwnParts(t, "negative of "+name, func() (impl.Other, bool) { return impl.NegativeOther(impl.Other{Parts: list}) })
		if 2*len(list) <= impl.MaxParts {
			wantOwnParts(t, "double of "+name, func() (impl.Other, bool) { return impl.DoubleOther(impl.Other{Parts: list}) })
		}
	}
	if !slices.Equal(parts, want) {
		t.Error(parts, "have been changed by what was done to results")
	}
}

func TestOthersChangeNoArgument(t *testing.T) {
	behind := impl.Part{Times: -5, Plus: -5, Over: -5}
	parts := append(toldOther(swaps).Parts, behind, behind, behind, behind, behind)
	want := slices.Clone(parts)
	o := impl.Other{Parts: parts[:3]}
	for n := -9; n <= 9; n++ {
		wayCalls(o, n, 200)
		fromCalls(o, n)
	}
	wholeCalls(o)
	impl.IsOther(o)
	if !slices.Equal(parts, want) || len(o.Parts) != 3 {
		t.Error("the parts, or what is behind them, have become", parts)
	}
	double, _ := impl.DoubleOther(o)
	negative, _ := impl.NegativeOther(o)
	parts[0] = behind
	wantOther(t, "double", results(double, true), toldOther(swaps+";"+swaps))
	wantOther(t, "negative", results(negative, true), toldOther(swaps))
}

// TestOthersLeaveNothingRunning waits for goroutines of other tests and of the runtime, too, which may end a little later.
func TestOthersLeaveNothingRunning(t *testing.T) {
	before := runtime.NumGoroutine()
	for n := -100; n <= 100; n++ {
		for _, text := range []string{"1n+0/1", "1n+1/1", "20n+20/1", "1n+0/2;3n+1/1", swaps} {
			wayCalls(toldOther(text), n, 7)
			fromCalls(toldOther(text), n)
		}
		for _, o := range noOthers[:9] {
			fromCalls(o, n)
		}
	}
	for wait := 0; runtime.NumGoroutine() > before; wait++ {
		if wait == 1000 {
			t.Fatal(runtime.NumGoroutine()-before, "goroutines are running still")
		}
		time.Sleep(time.Millisecond)
	}
}

// TestOthersAreReadNoMoreBehindTheCall would end with a division by 0, or with a race, if anything of a call went on.
func TestOthersAreReadNoMoreBehindTheCall(t *testing.T) {
	for n := range 20000 {
		o := toldOther("1n+1/1;1n-1/1")
		wantResults(t, "lead", results(impl.OtherLead(o, n)), 0, 2)
		o.Parts[0], o.Parts[1] = impl.Part{}, impl.Part{}
		o = toldOther("20n+20/1")
		wantFailed(t, map[string][]any{"leaves": results(impl.OtherLead(o, n))})
		o.Parts[0] = impl.Part{}
	}
}
