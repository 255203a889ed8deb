package tests

import (
	"fmt"
	"math"
	"math/big"
	"math/rand"
	"reflect"
	"runtime"
	"slices"
	"strings"
	"testing"
	"time"

	"loop.example/g01293/impl"
)

const (
	// longHalt halts behind 1078 steps from longHaltFrom, so that it does behind just MaxRun from the number behind 78.
	longHalt     = "1/2,715/49,8/7,42/11,154/9,363/5,125/13"
	longHaltFrom = 960609249600
	// longLeave makes what is no number in the step 1026 from longLeaveFrom.
	longLeave     = "1/11,121/91,70/6,13/5,50/49,147/7"
	longLeaveFrom = 275277234375
	// longLoop comes behind 1411 steps from longLoopFrom into a loop of 2.
	longLoop     = "1/5,25/26,1/25,325/49,1183/22,1573/6,1/14,154/11,12/2"
	longLoopFrom = 631614971295
	// primeGame makes powers of 10 from 10, the exponents being the primes one after the other.
	primeGame = "3/11,847/45,143/6,7/3,10/91,3/7,36/325,1/2,36/5"
	// twelve has MaxFractions fractions.
	twelve = "1/37,1/31,1/29,1/23,1/19,1/17,1/13,1/11,1/7,1/5,1/3,1/2"
)

const greatestPrime = 999999999989 // of those up to MaxNumber

var smallPrimes = []int{2, 3, 5, 7, 11, 13, 17, 19, 23, 29, 31, 37, 41, 43, 47}

// noMachines are structs that are no machine, each for one reason.
var noMachines = []impl.Machine{
	{Nums: []int{1}}, {Dens: []int{1}}, {Nums: []int{1, 2}, Dens: []int{1}}, {Nums: []int{3}, Dens: []int{2, 2}},
	{Nums: slices.Repeat([]int{1}, 13), Dens: slices.Repeat([]int{2}, 13)}, {Nums: slices.Repeat([]int{1}, 13), Dens: slices.Repeat([]int{2}, 12)},
	{Nums: slices.Repeat([]int{1}, 12), Dens: slices.Repeat([]int{2}, 13)}, {Nums: make([]int, 100), Dens: make([]int, 100)},
	{Nums: []int{0}, Dens: []int{1}}, {Nums: []int{1}, Dens: []int{0}}, {Nums: []int{-1}, Dens: []int{1}}, {Nums: []int{1}, Dens: []int{-1}},
	{Nums: []int{-1}, Dens: []int{-1}}, {Nums: []int{impl.MaxPart + 1}, Dens: []int{1}}, {Nums: []int{1}, Dens: []int{impl.MaxPart + 1}},
	{Nums: []int{math.MinInt}, Dens: []int{1}}, {Nums: []int{1}, Dens: []int{math.MinInt}}, {Nums: []int{math.MaxInt}, Dens: []int{1}}, {Nums: []int{1}, Dens: []int{math.MaxInt}},
	{Nums: []int{1, 2, 0}, Dens: []int{2, 1, 1}}, {Nums: []int{1, 2, 1}, Dens: []int{2, 1, 0}}, {Nums: []int{1, impl.MaxPart + 1}, Dens: []int{2, 1}},
}

var noMachineNumbers = []int{math.MinInt, -impl.MaxNumber, -72, -1, 0, impl.MaxNumber + 1, math.MaxInt}

var noRuns = []int{math.MinInt, -1, impl.MaxRun + 1, math.MaxInt}

// toldMachine returns the machine with a text, which is `-` for none.
func toldMachine(text string) impl.Machine {
	var m impl.Machine
	if text == "-" {
		return m
	}
	for _, fraction := range strings.Split(text, ",") {
		var num, den int
		if _, err := fmt.Sscanf(fraction, "%d/%d", &num, &den); err != nil {
			panic(err)
		}
		m.Nums, m.Dens = append(m.Nums, num), append(m.Dens, den)
	}
	return m
}

func toldMachineText(m impl.Machine) string {
	if len(m.Nums) == 0 {
		return "-"
	}
	var fractions []string
	for i := range m.Nums {
		fractions = append(fractions, fmt.Sprintf("%d/%d", m.Nums[i], m.Dens[i]))
	}
	return strings.Join(fractions, ",")
}

// toldFits returns the index of the first fraction that makes a whole number of a number, and this, or -1 if there is none.
func toldFits(m impl.Machine, n int) (int, int) {
	for i := range m.Nums {
		made := big.NewRat(int64(m.Nums[i]), int64(m.Dens[i]))
		if made.Mul(made, big.NewRat(int64(n), 1)); made.IsInt() {
			return i, int(made.Num().Int64())
		}
	}
	return -1, 0
}

// toldTrack is what a machine comes to within MaxRun steps and one more, which fractions it takes, and whether it halts then, or makes what is no number.
type toldTrack struct {
	numbers []int
	taken   []int
	halts   bool
	leaves  bool
}

func toldTrackOf(m impl.Machine, n int) toldTrack {
	track := toldTrack{numbers: []int{n}}
	for range impl.MaxRun + 1 {
		i, next := toldFits(m, n)
		if i < 0 {
			track.halts = true
			break
		}
		track.taken = append(track.taken, i)
		if next > impl.MaxNumber {
			track.leaves = true
			break
		}
		n = next
		track.numbers = append(track.numbers, n)
	}
	return track
}

// doesLeave reports whether one of so many steps makes what is no number.
func (track toldTrack) doesLeave(steps int) bool { return track.leaves && steps >= len(track.numbers) }

// made returns how many of so many steps are made.
func (track toldTrack) made(steps int) int { return min(steps, len(track.numbers)-1) }

// loop returns behind how many steps a number is that comes again, and behind how many steps more, within MaxRun.
func (track toldTrack) loop() (int, int, bool) {
	for first, n := range track.numbers {
		again := slices.Index(track.numbers[first+1:], n)
		if again >= 0 && first+again+1 <= impl.MaxRun {
			return first, again + 1, true
		}
	}
	return 0, 0, false
}

// toldPowers returns the exponents of those numbers that are powers of p.
func toldPowers(numbers []int, p int) []int {
	var exponents []int
	for _, n := range numbers {
		power, exponent := 1, 0
		for power < n {
			power *= p
			exponent++
		}
		if power == n {
			exponents = append(exponents, exponent)
		}
	}
	return exponents
}

// sampleMachines has ordinary machines, machines at the limits, and others by chance.
func sampleMachines() []impl.Machine {
	var machines []impl.Machine
	for _, text := range []string{
		"-", "3/2", "1/2", "2/1", "1/1", "6/4", "4/2,10/4", "3/2,2/3", "3/2,5/2,7/2", "5/6,1/2,1/3", "1/3,3/2,2/1", "2/3,3/4,4/5,5/2", primeGame, twelve,
		longHalt, longLeave, longLoop, "100000/100000", "100000/1", "1/100000", "99999/100000", "100000/99999,1/100000", "75/100,9/6", "7/5,5/7,1/10,10/1",
	} {
		machines = append(machines, toldMachine(text))
	}
	random := rand.New(rand.NewSource(7))
	for i := range 60 {
		var m impl.Machine
		for range i % (impl.MaxFractions + 1) {
			m.Nums, m.Dens = append(m.Nums, 1+random.Intn(20)), append(m.Dens, 1+random.Intn(30))
		}
		machines = append(machines, m)
	}
	return machines
}

// sampleStarts has numbers that have small primes, and others.
func sampleStarts() []int {
	starts := []int{
		1, 2, 3, 10, 72, 97, 1024, 30030, 847288609443, 1 << 39, 4096 * 3125, impl.MaxNumber, impl.MaxNumber - 1, greatestPrime, longHaltFrom, longLeaveFrom, longLoopFrom,
	}
	random := rand.New(rand.NewSource(8))
	for range 6 {
		n := 1
		for n < 100000000 {
			n *= smallPrimes[random.Intn(4)]
		}
		starts = append(starts, n, 1+random.Intn(impl.MaxNumber))
	}
	return starts
}

// wantMachine requires that a call succeeded with a machine, whose lists may be empty.
func wantMachine(t *testing.T, name string, got []any, want impl.Machine) {
	t.Helper()
	m, isMachine := got[0].(impl.Machine)
	if !isMachine || got[1] != true || !slices.Equal(m.Nums, want.Nums) || !slices.Equal(m.Dens, want.Dens) {
		t.Errorf("%s: got %v, want %v and true", name, got, want)
	}
}

func TestExampleOfMachines(t *testing.T) {
	add, _ := impl.AddMachine(2, 3)
	wantResults(t, "text", results(impl.MachineText(add)), "3/2")
	wantResults(t, "adds", results(impl.HaltOf(add, 72)), 243, 3)
	lesser, _ := impl.LesserMachine(2, 3, 5)
	wantResults(t, "lesser one", results(impl.HaltOf(lesser, 72)), 25, 3)
	swing, _ := impl.ParseMachine("3/2,2/3")
	wantResults(t, "never halts", results(impl.DoesHalt(swing, 2)), false)
	wantResults(t, "loop", results(impl.LoopOf(swing, 2)), 0, 2)
	wantPairs(t, "exponents", results(impl.ExponentsOf(72)), [][]int{{2, 3}, {3, 2}})
}

func TestIsMachineTakesJustTheMachines(t *testing.T) {
	for _, m := range sampleMachines() {
		if !impl.IsMachine(m) {
			t.Error(m, "is a machine")
		}
	}
	for _, m := range noMachines {
		if impl.IsMachine(m) {
			t.Error(m, "is no machine")
		}
	}
	parts := append([]int{impl.MaxPart - 1, impl.MaxPart, impl.MaxPart + 1}, extremes...)
	for _, part := range parts {
		is := 1 <= part && part <= impl.MaxPart
		for at := range impl.MaxFractions {
			one, other := toldMachine(twelve), toldMachine(twelve)
			one.Nums[at], other.Dens[at] = part, part
			if impl.IsMachine(one) != is || impl.IsMachine(other) != is {
				t.Error(part, "as a part of", at)
			}
		}
	}
	for count := range 2 * impl.MaxFractions {
		m := impl.Machine{Nums: slices.Repeat([]int{3}, count), Dens: slices.Repeat([]int{2}, count)}
		if impl.IsMachine(m) != (count <= impl.MaxFractions) {
			t.Error(count, "fractions")
		}
	}
	if !impl.IsMachine(impl.Machine{Nums: []int{}, Dens: nil}) || !impl.IsMachine(impl.Machine{Dens: []int{}}) {
		t.Error("nil and empty lists are the same")
	}
}

func TestMachinesGoStepByStep(t *testing.T) {
	for _, m := range sampleMachines() {
		for _, n := range sampleStarts() {
			track := toldTrackOf(m, n)
			for _, steps := range []int{0, 1, 2, 9, 60, 199, 200, 201, impl.MaxRun - 1, impl.MaxRun} {
				checkTrack(t, m, n, steps, track)
			}
			checkEnds(t, m, n, track)
		}
	}
}

// checkTrack compares all calls that are told how many steps to take.
func checkTrack(t *testing.T, m impl.Machine, n int, steps int, track toldTrack) {
	t.Helper()
	name := fmt.Sprint(toldMachineText(m), n, steps)
	made, leaves := track.made(steps), track.doesLeave(steps)
	wantUnless(t, "RunMachine "+name, leaves, results(impl.RunMachine(m, n, steps)), track.numbers[made], made)
	wantNumbers(t, "TrackOf "+name, leaves || steps > 200, results(impl.TrackOf(m, n, steps)), track.numbers[:made+1])
	uses := make([]int, len(m.Nums))
	for _, i := range track.taken[:made] {
		uses[i]++
	}
	wantNumbers(t, "UsesOf "+name, leaves, results(impl.UsesOf(m, n, steps)), uses)
	for _, p := range []int{2, 5, 99991} {
		wantNumbers(t, fmt.Sprint("PowersSeen ", name, p), leaves, results(impl.PowersSeen(m, n, p, steps)), toldPowers(track.numbers[:made+1], p))
	}
}

// checkEnds compares all calls that find out themselves how many steps they take.
func checkEnds(t *testing.T, m impl.Machine, n int, track toldTrack) {
	t.Helper()
	name := fmt.Sprint(toldMachineText(m), n)
	last := len(track.numbers) - 1
	halts := track.halts && last <= impl.MaxRun
	wantUnless(t, "HaltOf "+name, !halts, results(impl.HaltOf(m, n)), track.numbers[last], last)
	wantResults(t, "DoesHalt "+name, results(impl.DoesHalt(m, n)), halts)
	lead, length, isLoop := track.loop()
	wantUnless(t, "LoopOf "+name, !isLoop, results(impl.LoopOf(m, n)), lead, length)
	i, next := toldFits(m, n)
	wantUnless(t, "FractionFor "+name, i < 0, results(impl.FractionFor(m, n)), i)
	wantUnless(t, "StepMachine "+name, i < 0 || next > impl.MaxNumber, results(impl.StepMachine(m, n)), next)
}

func TestFirstFractionThatFits(t *testing.T) {
	for _, c := range []struct {
		text     string
		n        int
		fraction int
		next     int
	}{
		{"3/2", 2, 0, 3}, {"3/2", 72, 0, 108}, {"3/2,5/2,7/2", 2, 0, 3}, {"1/3,3/2,2/1", 6, 0, 2}, {"1/3,3/2,2/1", 4, 1, 6}, {"1/3,3/2,2/1", 5, 2, 10},
		{"2/1,3/1", 1, 0, 2}, {"3/1,2/1", 1, 0, 3}, {"1/4,1/2", 6, 1, 3}, {"1/4,1/2", 12, 0, 3}, {"2/4", 2, 0, 1}, {"6/4", 2, 0, 3}, {"3/4,6/4", 2, 1, 3},
		{"10/15,1/2", 6, 0, 4}, {"1/1", impl.MaxNumber, 0, impl.MaxNumber}, {"1/99991,1/7", 7 * 99991, 0, 7}, {twelve, 2, 11, 1}, {twelve, 74, 0, 2}, {twelve, 6, 10, 2},
	} {
		m, name := toldMachine(c.text), fmt.Sprint(c.text, " from ", c.n)
		wantResults(t, "fraction of "+name, results(impl.FractionFor(m, c.n)), c.fraction)
		wantResults(t, "step of "+name, results(impl.StepMachine(m, c.n)), c.next)
		wantResults(t, "one step of "+name, results(impl.RunMachine(m, c.n, 1)), c.next, 1)
		wantResults(t, "track of "+name, results(impl.TrackOf(m, c.n, 1)), []int{c.n, c.next})
	}
}

func TestMachinesThatHaltAtOnce(t *testing.T) {
	for _, c := range []struct {
		text string
		n    int
	}{
		{"3/2", 1}, {"3/2", 3}, {"3/2,5/4", 243}, {"6/4", 3}, {"1/2,1/3", 5}, {"99999/100000", impl.MaxNumber - 1}, {twelve, 41}, {twelve, 1}, {"1/7", greatestPrime},
		{"-", 1}, {"-", 72}, {"-", impl.MaxNumber},
	} {
		m, name := toldMachine(c.text), fmt.Sprint(c.text, " from ", c.n)
		wantFailed(t, map[string][]any{"FractionFor " + name: results(impl.FractionFor(m, c.n)), "StepMachine " + name: results(impl.StepMachine(m, c.n)), "LoopOf " + name: results(impl.LoopOf(m, c.n))})
		wantResults(t, "HaltOf "+name, results(impl.HaltOf(m, c.n)), c.n, 0)
		wantResults(t, "DoesHalt "+name, results(impl.DoesHalt(m, c.n)), true)
		for _, steps := range []int{0, 1, 200, impl.MaxRun} {
			wantResults(t, "RunMachine "+name, results(impl.RunMachine(m, c.n, steps)), c.n, 0)
			wantNumbers(t, "UsesOf "+name, false, results(impl.UsesOf(m, c.n, steps)), make([]int, len(m.Nums)))
		}
		wantResults(t, "TrackOf "+name, results(impl.TrackOf(m, c.n, 200)), []int{c.n})
	}
}

func TestMachinesThatHaltLater(t *testing.T) {
	for _, c := range []struct {
		text           string
		n, last, steps int
		uses           []int
	}{
		{"3/2", 2, 3, 1, []int{1}}, {"3/2", 72, 243, 3, []int{3}}, {"6/4", 72, 243, 3, []int{3}}, {"5/6,1/2,1/3", 72, 25, 3, []int{2, 1, 0}}, {"5/6,1/2,1/3", 162, 5, 4, []int{1, 0, 3}},
		{"1/2", 1 << 39, 1, 39, []int{39}}, {"1/3,1/2", 30030, 5005, 2, []int{1, 1}}, {"2/3,1/2", 9, 1, 4, []int{2, 2}}, {twelve, 200560490130, 1, 11, []int{0, 1, 1, 1, 1, 1, 1, 1, 1, 1, 1, 1}},
		{"100000/99999,1/100000", 99999, 1, 2, []int{1, 1}},
	} {
		m, name := toldMachine(c.text), fmt.Sprint(c.text, " from ", c.n)
		wantResults(t, "HaltOf "+name, results(impl.HaltOf(m, c.n)), c.last, c.steps)
		wantResults(t, "DoesHalt "+name, results(impl.DoesHalt(m, c.n)), true)
		wantResults(t, "just "+name, results(impl.RunMachine(m, c.n, c.steps)), c.last, c.steps)
		wantResults(t, "longest "+name, results(impl.RunMachine(m, c.n, impl.MaxRun)), c.last, c.steps)
		wantResults(t, "UsesOf "+name, results(impl.UsesOf(m, c.n, impl.MaxRun)), c.uses)
		track, ok := impl.TrackOf(m, c.n, 200)
		if !ok || len(track) != c.steps+1 || track[c.steps] != c.last {
			t.Error("TrackOf", name, track, ok)
		}
	}
}

// numberOfTrack returns the number behind so many steps, by single steps.
func numberOfTrack(t *testing.T, m impl.Machine, n int, steps int) int {
	t.Helper()
	for range steps {
		next, ok := impl.StepMachine(m, n)
		if !ok {
			t.Fatal(m, n, "has no step")
		}
		n = next
	}
	return n
}

func TestHaltsOfMaxRunMetExactly(t *testing.T) {
	m := toldMachine(longHalt)
	last := numberOfTrack(t, m, longHaltFrom, 1078)
	just := numberOfTrack(t, m, longHaltFrom, 1078-impl.MaxRun)
	late := numberOfTrack(t, m, longHaltFrom, 1078-impl.MaxRun-1)
	wantFailed(t, map[string][]any{"no step from the last one": results(impl.StepMachine(m, last)), "late": results(impl.HaltOf(m, late))})
	wantResults(t, "just", results(impl.HaltOf(m, just)), last, impl.MaxRun)
	wantResults(t, "does just", results(impl.DoesHalt(m, just)), true)
	wantResults(t, "does late", results(impl.DoesHalt(m, late)), false)
	wantResults(t, "run just", results(impl.RunMachine(m, just, impl.MaxRun)), last, impl.MaxRun)
	wantResults(t, "run all but one", results(impl.RunMachine(m, just, impl.MaxRun-1)), numberOfTrack(t, m, just, impl.MaxRun-1), impl.MaxRun-1)
	before, _, _ := impl.RunMachine(m, late, impl.MaxRun)
	wantResults(t, "one step before the last one", results(impl.StepMachine(m, before)), last)
	uses, _ := impl.UsesOf(m, just, impl.MaxRun)
	if toldSum(uses) != impl.MaxRun {
		t.Error(uses, "are not MaxRun steps")
	}
}

func TestMachinesThatLeaveTheNumbers(t *testing.T) {
	double := toldMachine("2/1")
	wantResults(t, "to MaxNumber", results(impl.StepMachine(double, impl.MaxNumber/2)), impl.MaxNumber)
	wantResults(t, "run to it", results(impl.RunMachine(double, impl.MaxNumber/4, 2)), impl.MaxNumber, 2)
	wantResults(t, "track to it", results(impl.TrackOf(double, impl.MaxNumber/4, 2)), []int{impl.MaxNumber / 4, impl.MaxNumber / 2, impl.MaxNumber})
	wantResults(t, "uses to it", results(impl.UsesOf(double, impl.MaxNumber/4, 2)), []int{2})
	wantResults(t, "powers to it", results(impl.PowersSeen(double, 1<<38, 2, 1)), []int{38, 39})
	wantResults(t, "from it", results(impl.StepMachine(toldMachine("1/5"), impl.MaxNumber)), impl.MaxNumber/5)
	wantResults(t, "stays", results(impl.RunMachine(toldMachine("1/1"), impl.MaxNumber, impl.MaxRun)), impl.MaxNumber, impl.MaxRun)
	wantResults(t, "greatest parts", results(impl.StepMachine(toldMachine("100000/1"), 10000000)), impl.MaxNumber)
	wantResults(t, "greatest product", results(impl.StepMachine(toldMachine("100000/100000"), impl.MaxNumber)), impl.MaxNumber)
	wantResults(t, "great product", results(impl.StepMachine(toldMachine("99999/100000"), impl.MaxNumber)), 999990000000)
	// A halt comes before what would be no number, if the fraction does not fit.
	wantResults(t, "does not fit", results(impl.HaltOf(toldMachine("99999/7"), impl.MaxNumber)), impl.MaxNumber, 0)
	for _, c := range []struct {
		text     string
		n, steps int
	}{
		{"2/1", impl.MaxNumber/2 + 1, 1}, {"2/1", impl.MaxNumber, 1}, {"2/1", 1, 40}, {"100000/1", 10000001, 1},
		{"3/2", 1 << 39, 2}, {"100000/1", impl.MaxNumber, 1}, {"2/1,1/2", impl.MaxNumber, 1}, {"3/1,1/5", impl.MaxNumber, 1},
	} {
		m, name := toldMachine(c.text), fmt.Sprint(c.text, " from ", c.n)
		wantResults(t, "DoesHalt "+name, results(impl.DoesHalt(m, c.n)), false)
		wantFailed(t, map[string][]any{
			"run " + name: results(impl.RunMachine(m, c.n, c.steps)), "uses " + name: results(impl.UsesOf(m, c.n, c.steps)), "track " + name: results(impl.TrackOf(m, c.n, c.steps)),
			"powers " + name: results(impl.PowersSeen(m, c.n, 2, c.steps)), "halt " + name: results(impl.HaltOf(m, c.n)), "loop " + name: results(impl.LoopOf(m, c.n)),
		})
		if _, made, ok := impl.RunMachine(m, c.n, c.steps-1); !ok || made != c.steps-1 {
			t.Error(name, made, ok, "want all steps but one")
		}
		// To tell the fraction nothing is made.
		wantResults(t, "fraction "+name, results(impl.FractionFor(m, c.n)), 0)
	}
}

func TestRunsThatLeaveBehindMaxRunSteps(t *testing.T) {
	m := toldMachine(longLeave)
	late := numberOfTrack(t, m, longLeaveFrom, 1026-impl.MaxRun-1)
	just := numberOfTrack(t, m, longLeaveFrom, 1026-impl.MaxRun)
	last := numberOfTrack(t, m, longLeaveFrom, 1025)
	wantFailed(t, map[string][]any{
		"step": results(impl.StepMachine(m, last)), "run": results(impl.RunMachine(m, just, impl.MaxRun)), "uses": results(impl.UsesOf(m, just, impl.MaxRun)),
		"powers": results(impl.PowersSeen(m, just, 2, impl.MaxRun)), "halt": results(impl.HaltOf(m, just)), "loop": results(impl.LoopOf(m, just)),
		"late halt": results(impl.HaltOf(m, late)), "late loop": results(impl.LoopOf(m, late)),
	})
	wantResults(t, "run up to it", results(impl.RunMachine(m, just, impl.MaxRun-1)), last, impl.MaxRun-1)
	wantResults(t, "late run", results(impl.RunMachine(m, late, impl.MaxRun)), last, impl.MaxRun)
	wantResults(t, "does", results(impl.DoesHalt(m, just)), false)
	wantResults(t, "does late", results(impl.DoesHalt(m, late)), false)
	uses, ok := impl.UsesOf(m, late, impl.MaxRun)
	if !ok || toldSum(uses) != impl.MaxRun {
		t.Error(uses, ok, "are not MaxRun steps")
	}
}

func TestRunsOfZeroSteps(t *testing.T) {
	for _, m := range sampleMachines() {
		for _, n := range []int{1, 2, 72, impl.MaxNumber} {
			name := fmt.Sprint(toldMachineText(m), n)
			wantResults(t, "run "+name, results(impl.RunMachine(m, n, 0)), n, 0)
			wantResults(t, "track "+name, results(impl.TrackOf(m, n, 0)), []int{n})
			wantNumbers(t, "uses "+name, false, results(impl.UsesOf(m, n, 0)), make([]int, len(m.Nums)))
		}
		wantResults(t, "powers", results(impl.PowersSeen(m, 1, 2, 0)), []int{0})
		wantNumbers(t, "no powers", false, results(impl.PowersSeen(m, 72, 2, 0)), nil)
	}
}

func TestTracksOf200Steps(t *testing.T) {
	swing := toldMachine("3/2,2/3")
	track, ok := impl.TrackOf(swing, 2, 200)
	if want := append(slices.Repeat([]int{2, 3}, 100), 2); !ok || !slices.Equal(track, want) {
		t.Error(track, ok)
	}
	for _, steps := range []int{201, impl.MaxRun, impl.MaxRun + 1, math.MaxInt, -1, math.MinInt} {
		wantFailed(t, map[string][]any{fmt.Sprint(steps): results(impl.TrackOf(swing, 2, steps)), fmt.Sprint("halted ", steps): results(impl.TrackOf(swing, 1, steps))})
	}
}

func TestUsesOfFractions(t *testing.T) {
	swing := toldMachine("3/2,2/3,7/5")
	for _, c := range []struct {
		n, steps int
		want     []int
	}{
		{2, 0, []int{0, 0, 0}}, {2, 1, []int{1, 0, 0}}, {2, 2, []int{1, 1, 0}}, {2, 3, []int{2, 1, 0}}, {2, 999, []int{500, 499, 0}}, {2, impl.MaxRun, []int{500, 500, 0}},
		{25, 1, []int{0, 0, 1}}, {25, 2, []int{0, 0, 2}}, {25, 3, []int{0, 0, 2}}, {25, impl.MaxRun, []int{0, 0, 2}}, {7, 5, []int{0, 0, 0}},
	} {
		wantResults(t, fmt.Sprint(c.n, c.steps), results(impl.UsesOf(swing, c.n, c.steps)), c.want)
	}
	// Of two fractions that are the same, the first one is taken.
	wantResults(t, "the same", results(impl.UsesOf(toldMachine("3/2,6/4,3/2"), 8, 9)), []int{3, 0, 0})
	wantNumbers(t, "none", false, results(impl.UsesOf(toldMachine("-"), 8, 9)), nil)
}

func TestLoopsOfMachines(t *testing.T) {
	for _, c := range []struct {
		text         string
		n            int
		lead, length int
	}{
		{"1/1", 1, 0, 1}, {"1/1", impl.MaxNumber, 0, 1}, {"5/5", 7, 0, 1}, {"3/2,2/3", 2, 0, 2}, {"3/2,2/3", 3, 0, 2}, {"3/2,5/3,2/5", 2, 0, 3}, {"3/2,2/3", 4, 1, 2},
		{"1/7,3/2,2/3", 686, 3, 2}, {"1/2,1/1", 1 << 39, 39, 1}, {"1/2,1/1", 3, 0, 1}, {"5/7,7/5,1/10,10/1", 1, 1, 2}, {twelve, 74, -1, 0},
		{"2/1,1/2", 1, -1, 0}, {"3/2", 72, -1, 0}, {"-", 1, -1, 0},
	} {
		m := toldMachine(c.text)
		wantUnless(t, fmt.Sprint(c.text, c.n), c.lead < 0, results(impl.LoopOf(m, c.n)), c.lead, c.length)
		if c.lead >= 0 {
			wantResults(t, fmt.Sprint("no halt ", c.text, c.n), results(impl.DoesHalt(m, c.n)), false)
			wantFailed(t, map[string][]any{c.text: results(impl.HaltOf(m, c.n))})
		}
	}
}

func TestLoopsOfMaxRunMetExactly(t *testing.T) {
	m := toldMachine(longLoop)
	just := numberOfTrack(t, m, longLoopFrom, 1413-impl.MaxRun)
	late := numberOfTrack(t, m, longLoopFrom, 1413-impl.MaxRun-1)
	wantResults(t, "of 2, just", results(impl.LoopOf(m, just)), impl.MaxRun-2, 2)
	wantFailed(t, map[string][]any{"of 2, late": results(impl.LoopOf(m, late)), "of 2, very late": results(impl.LoopOf(m, longLoopFrom))})
	// With 1/1 behind the others, a machine stays where it would halt.
	stays := toldMachine(longHalt + ",1/1")
	just = numberOfTrack(t, stays, longHaltFrom, 1079-impl.MaxRun)
	late = numberOfTrack(t, stays, longHaltFrom, 1079-impl.MaxRun-1)
	wantResults(t, "of 1, just", results(impl.LoopOf(stays, just)), impl.MaxRun-1, 1)
	wantFailed(t, map[string][]any{"of 1, late": results(impl.LoopOf(stays, late))})
}

// TestPrimeGame ends before the step that makes what is no number.
func TestPrimeGame(t *testing.T) {
	m, n := toldMachine(primeGame), 10
	var exponents []int
	for range 444 {
		n = numberOfTrack(t, m, n, 1)
		if list, _ := impl.ExponentsOf(n); len(list) == 2 && list[0][0] == 2 && list[1][0] == 5 && list[0][1] == list[1][1] {
			exponents = append(exponents, list[0][1])
		}
	}
	if !slices.Equal(exponents, []int{2, 3, 5}) {
		t.Error(exponents, "are not the first primes")
	}
	wantResults(t, "run", results(impl.RunMachine(m, 10, 444)), n, 444)
	wantFailed(t, map[string][]any{"run more": results(impl.RunMachine(m, 10, 445)), "halt": results(impl.HaltOf(m, 10)), "loop": results(impl.LoopOf(m, 10))})
	wantResults(t, "halts", results(impl.DoesHalt(m, 10)), false)
}

// checkExponents compares the exponents of a number with what they have to be: those of increasing primes, and together the number.
func checkExponents(t *testing.T, n int) {
	t.Helper()
	list, ok := impl.ExponentsOf(n)
	product, last := big.NewInt(1), 1
	for _, pair := range list {
		if len(pair) != 2 || pair[0] <= last || pair[1] < 1 || !big.NewInt(int64(pair[0])).ProbablyPrime(20) {
			t.Fatal(n, list, "has no pairs of increasing primes and exponents")
		}
		last = pair[0]
		product.Mul(product, toldPower(pair[0], pair[1]))
	}
	if !ok || product.Cmp(big.NewInt(int64(n))) != 0 {
		t.Error(n, list, ok, "come to", product)
	}
	wantUnless(t, fmt.Sprint("again ", n), last > impl.MaxPart, results(impl.NumberOfExponents(list)), n)
}

func TestExponentsAreThoseOfTheNumber(t *testing.T) {
	for n := 1; n <= 20000; n++ {
		checkExponents(t, n)
	}
	for n := impl.MaxNumber - 40; n <= impl.MaxNumber; n++ {
		checkExponents(t, n)
	}
	for _, n := range sampleStarts() {
		checkExponents(t, n)
	}
}

func TestExponentsOfSomeNumbers(t *testing.T) {
	for _, c := range []struct {
		n    int
		want [][]int
	}{
		{1, nil}, {2, [][]int{{2, 1}}}, {3, [][]int{{3, 1}}}, {4, [][]int{{2, 2}}}, {97, [][]int{{97, 1}}}, {99991, [][]int{{99991, 1}}}, {100003, [][]int{{100003, 1}}},
		{1 << 39, [][]int{{2, 39}}}, {847288609443, [][]int{{3, 25}}}, {99991 * 99991, [][]int{{99991, 2}}}, {999983 * 999983, [][]int{{999983, 2}}},
		{2 * 499999999979, [][]int{{2, 1}, {499999999979, 1}}}, {greatestPrime, [][]int{{greatestPrime, 1}}}, {impl.MaxNumber, [][]int{{2, 12}, {5, 12}}},
		{999979 * 999983, [][]int{{999979, 1}, {999983, 1}}}, {7 * 2, [][]int{{2, 1}, {7, 1}}}, {impl.MaxNumber - 1, [][]int{{3, 3}, {7, 1}, {11, 1}, {13, 1}, {37, 1}, {101, 1}, {9901, 1}}},
		{200560490130, [][]int{{2, 1}, {3, 1}, {5, 1}, {7, 1}, {11, 1}, {13, 1}, {17, 1}, {19, 1}, {23, 1}, {29, 1}, {31, 1}}},
		{963761198400, [][]int{{2, 6}, {3, 4}, {5, 2}, {7, 1}, {11, 1}, {13, 1}, {17, 1}, {19, 1}, {23, 1}}},
	} {
		wantPairs(t, fmt.Sprint(c.n), results(impl.ExponentsOf(c.n)), c.want)
	}
	for _, n := range noMachineNumbers {
		wantFailed(t, map[string][]any{fmt.Sprint(n): results(impl.ExponentsOf(n))})
	}
}

func TestNumbersOfExponents(t *testing.T) {
	for _, c := range []struct {
		list [][]int
		want int
	}{
		{nil, 1}, {[][]int{}, 1}, {[][]int{{2, 1}}, 2}, {[][]int{{2, 39}}, 1 << 39}, {[][]int{{3, 25}}, 847288609443}, {[][]int{{2, 12}, {5, 12}}, impl.MaxNumber},
		{[][]int{{99991, 1}}, 99991}, {[][]int{{99991, 2}}, 9998200081}, {[][]int{{99989, 1}, {99991, 1}}, 99989 * 99991}, {[][]int{{2, 3}, {3, 2}}, 72}, {[][]int{{2, 1}, {99991, 2}}, 2 * 9998200081},
		{[][]int{{2, 1}, {3, 1}, {5, 1}, {7, 1}, {11, 1}, {13, 1}, {17, 1}, {19, 1}, {23, 1}, {29, 1}, {31, 1}}, 200560490130},
	} {
		wantResults(t, fmt.Sprint(c.list), results(impl.NumberOfExponents(c.list)), c.want)
	}
	// Of what is too great some becomes a number again, if just the last bits are kept.
	for _, list := range [][][]int{
		{{2, 40}}, {{2, 12}, {5, 13}}, {{2, 13}, {5, 12}}, {{3, 26}}, {{99991, 3}}, {{99991, 4}}, {{99991, 40}}, {{2, 40}, {3, 40}, {5, 40}}, {{2, 32}, {65537, 2}}, {{2, 39}, {99991, 25}},
		{{2, 1}, {3, 1}, {5, 1}, {7, 1}, {11, 1}, {13, 1}, {17, 1}, {19, 1}, {23, 1}, {29, 1}, {31, 1}, {37, 1}}, {{2, 36}, {3, 28}}, {{99989, 2}, {99991, 2}},
	} {
		wantFailed(t, map[string][]any{fmt.Sprint(list): results(impl.NumberOfExponents(list))})
	}
}

func TestListsThatAreNoExponents(t *testing.T) {
	var thirteen, thirteenTimes [][]int
	for _, p := range smallPrimes[:13] {
		thirteen = append(thirteen, []int{p, 1})
		thirteenTimes = append(thirteenTimes, []int{2, 1})
	}
	for _, list := range [][][]int{
		{{3, 1}, {2, 1}}, {{2, 1}, {2, 1}}, {{2, 2}, {2, 3}}, {{2, 1}, {5, 1}, {3, 1}}, {{2, 1}, {3, 1}, {3, 1}}, {{99991, 1}, {2, 1}},
		{{0, 1}}, {{1, 1}}, {{4, 1}}, {{6, 1}}, {{9, 1}}, {{-2, 1}}, {{-3, 2}}, {{99989 - 1, 1}}, {{99999, 1}}, {{313 * 317, 1}}, {{math.MinInt, 1}}, {{math.MaxInt, 1}}, {{1, 1}, {2, 1}},
		{{100003, 1}}, {{2, 1}, {100003, 1}}, {{impl.MaxPart, 1}}, {{impl.MaxPart + 1, 1}}, {{greatestPrime, 1}}, {{2, 0}}, {{2, 41}}, {{2, -1}}, {{99991, 41}}, {{2, math.MinInt}}, {{2, math.MaxInt}}, {{2, 1}, {3, 0}}, {{2, 0}, {3, 1}},
		{{2}}, {{2, 1, 1}}, {{}}, {nil}, {{2, 1}, {3}}, {{2, 1}, nil}, {{2, 1}, {3, 1, 1}}, {{2, 1, 0}}, {{2, 1}, {}}, thirteen, thirteenTimes, make([][]int, 5000),
	} {
		wantFailed(t, map[string][]any{fmt.Sprint(list): results(impl.NumberOfExponents(list))})
	}
}

func TestPowersSeenOnTracks(t *testing.T) {
	swing := toldMachine("3/2,2/3")
	for _, c := range []struct {
		text        string
		n, p, steps int
		want        []int
	}{
		{"1/2", 1024, 2, 9, []int{10, 9, 8, 7, 6, 5, 4, 3, 2, 1}}, {"1/2", 1024, 2, 10, []int{10, 9, 8, 7, 6, 5, 4, 3, 2, 1, 0}}, {"1/2", 1024, 2, impl.MaxRun, []int{10, 9, 8, 7, 6, 5, 4, 3, 2, 1, 0}},
		{"1/2", 1024, 3, 10, []int{0}}, {"1/2", 1024, 3, 9, nil}, {"1/2", 1024, 99991, 10, []int{0}}, {"1/2", 1536, 3, 10, []int{1}}, {"1/2", 1536, 2, 10, nil},
		{"3/2", 72, 3, 3, []int{5}}, {"3/2", 72, 3, 2, nil}, {"1/99991", 99991 * 99991, 99991, 5, []int{2, 1, 0}}, {"1/99991", 99991 * 99991, 2, 5, []int{0}},
		{"2/1", 1, 2, 39, toldCount(0, 39)}, {"4/1", 1, 2, 5, []int{0, 2, 4, 6, 8, 10}}, {"-", 1, 47, 0, []int{0}}, {"-", 49, 7, impl.MaxRun, []int{2}}, {"-", 49, 5, impl.MaxRun, nil},
		{"3/2,2/3", 2, 2, 4, []int{1, 1, 1}}, {"3/2,2/3", 2, 3, 4, []int{1, 1}}, {"3/2,2/3", 2, 5, 4, nil}, {"-", 1 << 39, 2, 0, []int{39}}, {"-", greatestPrime, 99991, 0, nil},
	} {
		wantNumbers(t, fmt.Sprint(c.text, c.n, c.p, c.steps), false, results(impl.PowersSeen(toldMachine(c.text), c.n, c.p, c.steps)), c.want)
	}
	wantResults(t, "MaxRun", results(impl.PowersSeen(swing, 2, 2, impl.MaxRun)), slices.Repeat([]int{1}, 501))
	wantResults(t, "201", results(impl.PowersSeen(swing, 2, 3, 201)), slices.Repeat([]int{1}, 101))
	for _, p := range []int{math.MinInt, -7, -2, -1, 0, 1, 4, 6, 9, 15, 49, 313 * 317, 99999, impl.MaxPart, impl.MaxPart + 1, 100003, greatestPrime, impl.MaxNumber, math.MaxInt} {
		wantFailed(t, map[string][]any{
			fmt.Sprint(p): results(impl.PowersSeen(swing, 2, p, 4)), fmt.Sprint(p, " of 1"): results(impl.PowersSeen(toldMachine("-"), 1, p, 0)),
		})
	}
}

// toldCount returns the numbers from first up to last.
func toldCount(first int, last int) []int {
	var list []int
	for n := first; n <= last; n++ {
		list = append(list, n)
	}
	return list
}

// toldIsSmall reports whether all numbers are primes of at most 50, and different ones.
func toldIsSmall(list ...int) bool {
	for i, p := range list {
		if !slices.Contains(smallPrimes, p) || slices.Contains(list[:i], p) {
			return false
		}
	}
	return true
}

// noSmallPrimes has primes that are too great, and what is no prime.
var noSmallPrimes = []int{math.MinInt, math.MinInt + 2, -47, -2, -1, 53, 59, 97, 99991, 100003, greatestPrime, impl.MaxNumber, math.MaxInt}

func TestPrimesOfMachines(t *testing.T) {
	numbers := append(toldCount(0, 60), noSmallPrimes...)
	for _, p := range numbers {
		for _, q := range numbers {
			name := fmt.Sprint(p, q)
			add := results(impl.AddMachine(p, q))
			if toldIsSmall(p, q) {
				wantMachine(t, "AddMachine "+name, add, impl.Machine{Nums: []int{q}, Dens: []int{p}})
			} else {
				wantFailed(t, map[string][]any{"AddMachine " + name: add})
			}
			for _, r := range numbers {
				lesser := results(impl.LesserMachine(p, q, r))
				if toldIsSmall(p, q, r) {
					wantMachine(t, fmt.Sprint("LesserMachine ", name, r), lesser, impl.Machine{Nums: []int{r, 1, 1}, Dens: []int{p * q, p, q}})
				} else if !hasFailed(lesser) {
					t.Error("LesserMachine", p, q, r, lesser)
				}
			}
		}
	}
	wantResults(t, "greatest", results(impl.MachineText(impl.Machine{Nums: []int{41, 1, 1}, Dens: []int{43 * 47, 43, 47}})), "41/2021,1/43,1/47")
}

// toldRaised returns p to the power of exponent.
func toldRaised(p int, exponent int) int { return int(toldPower(p, exponent).Int64()) }

func TestMachinesThatAdd(t *testing.T) {
	for _, c := range [][2]int{{2, 3}, {3, 2}, {5, 7}, {47, 43}, {43, 47}, {2, 47}} {
		add, _ := impl.AddMachine(c[0], c[1])
		for a := range 4 {
			for b := range 3 {
				n, want := toldRaised(c[0], a)*toldRaised(c[1], b), toldRaised(c[1], a+b)
				wantResults(t, fmt.Sprint(c, a, b), results(impl.HaltOf(add, 11*n)), 11*want, a)
			}
		}
	}
}

func TestMachinesThatTakeTheLesserOne(t *testing.T) {
	for _, c := range [][3]int{{2, 3, 5}, {3, 2, 5}, {5, 3, 2}, {47, 43, 2}, {2, 3, 47}, {13, 31, 7}} {
		lesser, _ := impl.LesserMachine(c[0], c[1], c[2])
		for a := range 4 {
			for b := range 3 {
				n, want := toldRaised(c[0], a)*toldRaised(c[1], b), toldRaised(c[2], min(a, b))
				wantResults(t, fmt.Sprint(c, a, b), results(impl.HaltOf(lesser, 11*n)), 11*want, max(a, b))
				// If r was there, it is as often more.
				wantResults(t, fmt.Sprint(c, a, b, " more"), results(impl.HaltOf(lesser, c[2]*n)), c[2]*want, max(a, b))
			}
		}
	}
}

func TestLowestTermsOfMachines(t *testing.T) {
	for text, want := range map[string]string{
		"-": "-", "3/2": "3/2", "6/4": "3/2", "4/2,10/4": "2/1,5/2", "100000/100000": "1/1", "100000/1": "100000/1", "1/100000": "1/100000", "99999/100000": "99999/100000",
		"100000/2": "50000/1", "2/100000": "1/50000", "75000/100000,3/2,3/6": "3/4,3/2,1/2", "7/7,6/3": "1/1,2/1", "99990/99960": "3333/3332", twelve: twelve, primeGame: primeGame,
	} {
		wantMachine(t, text, results(impl.LowTerms(toldMachine(text))), toldMachine(want))
	}
	for _, m := range sampleMachines() {
		low, ok := impl.LowTerms(m)
		for i := range low.Nums {
			want := big.NewRat(int64(m.Nums[i]), int64(m.Dens[i]))
			if want.Num().Int64() != int64(low.Nums[i]) || want.Denom().Int64() != int64(low.Dens[i]) {
				t.Error(m, low, "is not in lowest terms")
			}
		}
		if !ok || len(low.Nums) != len(m.Nums) || !impl.IsMachine(low) {
			t.Error(m, low, ok)
		}
		for _, n := range sampleStarts() {
			for _, steps := range []int{1, 200} {
				if got, want := results(impl.TrackOf(low, n, steps)), results(impl.TrackOf(m, n, steps)); !reflect.DeepEqual(got, want) {
					t.Error(m, n, "goes", got, "not", want)
				}
			}
			if got, want := results(impl.FractionFor(low, n)), results(impl.FractionFor(m, n)); !reflect.DeepEqual(got, want) {
				t.Error(m, n, "takes", got, "not", want)
			}
		}
	}
}

func TestMachineTexts(t *testing.T) {
	wantResults(t, "none", results(impl.MachineText(impl.Machine{})), "-")
	wantResults(t, "empty", results(impl.MachineText(impl.Machine{Nums: []int{}, Dens: []int{}})), "-")
	wantMachine(t, "back to none", results(impl.ParseMachine("-")), impl.Machine{})
	wantResults(t, "one", results(impl.MachineText(impl.Machine{Nums: []int{3}, Dens: []int{2}})), "3/2")
	wantResults(t, "greatest", results(impl.MachineText(impl.Machine{Nums: []int{impl.MaxPart, 1}, Dens: []int{1, impl.MaxPart}})), "100000/1,1/100000")
	wantMachine(t, "greatest back", results(impl.ParseMachine("100000/1,1/100000")), impl.Machine{Nums: []int{impl.MaxPart, 1}, Dens: []int{1, impl.MaxPart}})
	wantMachine(t, "not in lowest terms", results(impl.ParseMachine("6/4,10/10")), impl.Machine{Nums: []int{6, 10}, Dens: []int{4, 10}})
	longest := strings.Repeat("100000/100000,", impl.MaxFractions-1) + "100000/100000"
	wantMachine(t, "longest", results(impl.ParseMachine(longest)), toldMachine(longest))
	for _, m := range sampleMachines() {
		text := toldMachineText(m)
		wantResults(t, text, results(impl.MachineText(m)), text)
		wantMachine(t, text, results(impl.ParseMachine(text)), m)
	}
	for _, m := range noMachines {
		wantFailed(t, map[string][]any{fmt.Sprint(m): results(impl.MachineText(m)), fmt.Sprint("low ", m): results(impl.LowTerms(m))})
	}
}

func TestTextsThatAreNoMachineText(t *testing.T) {
	for _, text := range []string{
		"", " ", "--", "- ", " -", "-\n", "-,", ",-", "-,3/2", "3/2,-", "-/-", "-/2", "3/-", "0", "/", ",", "3", "3/", "/2", "3//2", "3/2/", "/3/2", "3/2/1", "3/2,", ",3/2", "3/2,,5/3", "3/2,5", "3/2,/", "3/2;5/3", "3/2 5/3",
		" 3/2", "3/2 ", "3 /2", "3/ 2", "3/2, 5/3", "3/2 ,5/3", "3/2\n", "\t3/2", "3/2\x00", "\x003/2", "3/2\xff", "\xef\xbc\x93/2", "3\xe2\x88\x952", "3\\2", "3:2", "3.2", "3,2",
		"+3/2", "3/+2", "-3/2", "3/-2", "-3/-2", "03/2", "3/02", "00/1", "003/2", "3/2,05/3", "3/2,5/03", "0/1", "1/0", "0/0", "-0/1", "3/2,0/1", "3/2,1/0", "100001/1", "1/100001", "3/2,100001/1", "0100000/1",
		"3_0/2", "0x3/2", "0b11/2", "3.0/2", "3e0/2", "1e5/1", "x/2", "3/y", "3n/2", "3/2n", "9223372036854775808/1", "1/9223372036854775808", "18446744073709551617/1", "1/18446744073709551617", "-18446744073709551615/1", "1/-18446744073709551615",
		twelve + ",1/41", strings.Repeat("1/2,", impl.MaxFractions) + "1/2", strings.Repeat("1/2,", 5000) + "1/2", strings.Repeat(",", 13), strings.Repeat("3", 5000) + "/2", "3/2,3/2\n3/2",
	} {
		wantFailed(t, map[string][]any{text: results(impl.ParseMachine(text))})
	}
}

// runCalls has all calls of the chapter that take a machine and steps.
func runCalls(m impl.Machine, n int, steps int, p int) map[string][]any {
	return map[string][]any{
		"RunMachine": results(impl.RunMachine(m, n, steps)), "TrackOf": results(impl.TrackOf(m, n, steps)), "UsesOf": results(impl.UsesOf(m, n, steps)), "PowersSeen": results(impl.PowersSeen(m, n, p, steps)),
	}
}

// startCalls has those that take a machine and a number.
func startCalls(m impl.Machine, n int) map[string][]any {
	return map[string][]any{
		"FractionFor": results(impl.FractionFor(m, n)), "StepMachine": results(impl.StepMachine(m, n)), "HaltOf": results(impl.HaltOf(m, n)),
		"DoesHalt": results(impl.DoesHalt(m, n)), "LoopOf": results(impl.LoopOf(m, n)),
	}
}

func TestInvalidArgumentsOfMachinesFail(t *testing.T) {
	swing, halts := toldMachine("3/2,2/3"), toldMachine("3/2")
	for _, calls := range []map[string][]any{runCalls(swing, 2, 200, 2), runCalls(halts, impl.MaxNumber, 0, 99991), without(startCalls(swing, 2), "HaltOf"), without(startCalls(halts, 2), "LoopOf")} {
		for name, got := range calls {
			if got[len(got)-1] != true {
				t.Error(name, "failed with valid arguments")
			}
		}
	}
	for _, m := range noMachines {
		for _, n := range []int{1, 2, 72} {
			wantFailed(t, runCalls(m, n, 0, 2))
			wantFailed(t, runCalls(m, n, 1, 2))
			wantFailed(t, startCalls(m, n))
		}
	}
	for _, n := range noMachineNumbers {
		for _, m := range []impl.Machine{swing, halts, toldMachine("-"), toldMachine("1/1"), toldMachine("1/100000")} {
			wantFailed(t, runCalls(m, n, 0, 2))
			wantFailed(t, runCalls(m, n, 1, 2))
			wantFailed(t, startCalls(m, n))
		}
	}
	for _, steps := range noRuns {
		for _, m := range []impl.Machine{swing, halts, toldMachine("-")} {
			wantFailed(t, runCalls(m, 1, steps, 2))
			wantFailed(t, runCalls(m, 2, steps, 2))
		}
	}
}

func TestNoArgumentOfMachinesPanics(t *testing.T) {
	numbers := append([]int{impl.MaxPart, impl.MaxPart + 1, greatestPrime, 200, 201}, extremes...)
	machines := append([]impl.Machine{{}, toldMachine("3/2,2/3"), toldMachine("1/1"), toldMachine("100000/1"), toldMachine(twelve)}, noMachines...)
	for _, m := range machines {
		for _, n := range numbers {
			for name, got := range startCalls(m, n) {
				wantNoHalfFailure(t, fmt.Sprint(name, m, n), got)
			}
			for _, steps := range numbers {
				for name, got := range runCalls(m, n, steps, n) {
					wantNoHalfFailure(t, fmt.Sprint(name, m, n, steps), got)
				}
			}
		}
		wantNoHalfFailure(t, fmt.Sprint("MachineText", m), results(impl.MachineText(m)))
		wantNoHalfFailure(t, fmt.Sprint("LowTerms", m), results(impl.LowTerms(m)))
	}
	for _, n := range numbers {
		wantNoHalfFailure(t, fmt.Sprint("ExponentsOf", n), results(impl.ExponentsOf(n)))
		for _, exponent := range numbers {
			wantNoHalfFailure(t, fmt.Sprint("NumberOfExponents", n, exponent), results(impl.NumberOfExponents([][]int{{n, exponent}})))
		}
	}
}

func TestListsOfMachinesAreNew(t *testing.T) {
	swing := toldMachine("3/2,2/3")
	wantNewLists(t, func() map[string][]int {
		track, _ := impl.TrackOf(swing, 2, 3)
		start, _ := impl.TrackOf(swing, 2, 0)
		uses, _ := impl.UsesOf(swing, 2, 3)
		powers, _ := impl.PowersSeen(swing, 2, 2, 9)
		return map[string][]int{"track": track, "start": start, "uses": uses, "powers": powers}
	})
	wantOwnRows(t, "exponents", func() ([][]int, bool) { return impl.ExponentsOf(30030) })
}

// wantOwnLists requires that the lists of a machine which a call returns share no memory with each other, nor with those which it returns later.
func wantOwnLists(t *testing.T, name string, call func() (impl.Machine, bool)) {
	t.Helper()
	m, _ := call()
	want, _ := call()
	// What is appended would be written behind the list, were there room in another one.
	_ = append(m.Nums, -99, -99, -99)
	for i := range m.Nums {
		m.Nums[i] = -99
	}
	if len(m.Nums) == 0 || !slices.Equal(m.Dens, want.Dens) {
		t.Error(name, m, "with a change of its numerators, not", want)
	}
	_ = append(m.Dens, -98, -98, -98)
	for i := range m.Dens {
		m.Dens[i] = -98
	}
	if slices.Contains(m.Nums, -98) {
		t.Error(name, m, "with a change of its denominators")
	}
	wantMachine(t, name, results(call()), want)
}

func TestListsWithinMachinesAreTheirOwn(t *testing.T) {
	wantOwnLists(t, "AddMachine", func() (impl.Machine, bool) { return impl.AddMachine(2, 3) })
	wantOwnLists(t, "LesserMachine", func() (impl.Machine, bool) { return impl.LesserMachine(2, 3, 5) })
	wantOwnLists(t, "ParseMachine", func() (impl.Machine, bool) { return impl.ParseMachine("3/2,5/7") })
	lists := []int{1, 2, 3, 1, 2, 3, 7, 7, 7}
	for name, m := range map[string]impl.Machine{
		"low already": {Nums: lists[:2:2], Dens: lists[2:4:4]}, "with room": {Nums: lists[:3], Dens: lists[3:6]}, "one list": {Nums: lists[1:4], Dens: lists[1:4]}, "over each other": {Nums: lists[:4], Dens: lists[2:6]},
	} {
		wantOwnLists(t, name, func() (impl.Machine, bool) { return impl.LowTerms(m) })
	}
	if !slices.Equal(lists, []int{1, 2, 3, 1, 2, 3, 7, 7, 7}) {
		t.Error(lists, "have been changed by what was done to results")
	}
}

func TestMachinesChangeNoArgument(t *testing.T) {
	lists := []int{6, 10, 3, -5, -5, -5, 4, 4, 9, -5, -5, -5}
	want := slices.Clone(lists)
	m := impl.Machine{Nums: lists[:3], Dens: lists[6:9]}
	runCalls(m, 64, 200, 2)
	startCalls(m, 64)
	impl.IsMachine(m)
	impl.LowTerms(m)
	impl.MachineText(m)
	if !slices.Equal(lists, want) || len(m.Nums) != 3 || len(m.Dens) != 3 {
		t.Error("the lists, or what is behind them, have become", lists)
	}
	numbers := []int{2, 3, -5, 3, 2, -5}
	pairs := [][]int{numbers[:2], numbers[3:5], {-5}}
	wantResults(t, "number", results(impl.NumberOfExponents(pairs[:2])), 72)
	if !slices.Equal(numbers, []int{2, 3, -5, 3, 2, -5}) || !slices.EqualFunc(pairs, [][]int{{2, 3}, {3, 2}, {-5}}, slices.Equal[[]int]) {
		t.Error("the pairs, or what is behind them, have become", numbers, pairs)
	}
}

// TestMachinesLeaveNothingRunning waits for goroutines of other tests and of the runtime, too, which may end a little later.
func TestMachinesLeaveNothingRunning(t *testing.T) {
	before := runtime.NumGoroutine()
	for n := 1; n <= 300; n++ {
		for _, text := range []string{"3/2,2/3", "3/2", "2/1", "-"} {
			runCalls(toldMachine(text), n, n%7, 2)
			startCalls(toldMachine(text), n)
		}
	}
	for wait := 0; runtime.NumGoroutine() > before; wait++ {
		if wait == 1000 {
			t.Fatal(runtime.NumGoroutine()-before, "goroutines are running still")
		}
		time.Sleep(time.Millisecond)
	}
}

// TestMachinesAreReadNoMoreBehindTheCall would end with a division by 0, or with a race, if anything of a call went on.
func TestMachinesAreReadNoMoreBehindTheCall(t *testing.T) {
	for steps := range 20000 {
		m := impl.Machine{Nums: []int{3, 2}, Dens: []int{2, 3}}
		wantResults(t, "run", results(impl.RunMachine(m, 2, steps%4)), 2+steps%2, steps%4)
		m.Dens[0], m.Dens[1] = 0, 0
	}
}
