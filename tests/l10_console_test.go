package tests

import (
	"fmt"
	"math"
	"math/big"
	"math/rand"
	"regexp"
	"runtime"
	"slices"
	"strings"
	"testing"
	"time"

	"loop.example/g01293/impl"
)

// exampleScript and exampleReplies are the example of the document.
const exampleScript = "path 5\npeak 16\nneeds\ncycle\nword\nstep\nshort\ngo 3\nnumber 72\nrun 9\nprimes\nmap 3x-1\nfound 20\nfix oee\nmap 2x+1\nnumber 0\nhalt\nfly\n"

var exampleReplies = []string{"7,22,11,34,17,52", "52,5", "16", "1,4,2", "oe", "22", "11", "52", "72", "243", "3,5", "3x-1", "1,5,17", "-1/5", "what", "0", "no", "what"}

// The words of the table, as patterns of a whole word each.
const (
	toldN    = "(0|[1-9][0-9]{0,5})"
	toldI    = "(0|-?[1-9][0-9]{0,5})"
	toldM    = "([13579]x[+-][13579])"
	toldPart = "(?:[1-9][0-9]{0,4}|100000)"
	toldF    = "(-|" + toldPart + "/" + toldPart + "(?:," + toldPart + "/" + toldPart + "){0,11})"
	toldW    = "([oe]{1,10})"
)

// toldDoing returns the desk behind a line with a word, and the reply, or false for the reply `no`.
type toldDoing func(d impl.Desk, word string) (impl.Desk, string, bool)

type toldRow struct {
	pattern *regexp.Regexp
	does    toldDoing
}

func toldDesk(text string) impl.Desk {
	words := strings.Split(text, " ")
	return impl.Desk{Map: toldMap(words[0]), Number: toldInt(words[1]), Machine: toldMachine(words[2])}
}

func toldDeskText(d impl.Desk) string {
	return fmt.Sprintf("%dx%+d %d %s", d.Map.Times, d.Map.Plus, d.Number, toldMachineText(d.Machine))
}

func toldMap(text string) impl.Map {
	var m impl.Map
	if _, err := fmt.Sscanf(text, "%dx%d", &m.Times, &m.Plus); err != nil {
		panic(err)
	}
	return m
}

func toldInt(text string) int {
	var n int
	if _, err := fmt.Sscanf(text, "%d", &n); err != nil {
		panic(err)
	}
	return n
}

func toldJoined(list ...int) string {
	if len(list) == 0 {
		return "-"
	}
	return strings.Trim(strings.ReplaceAll(fmt.Sprint(list), " ", ","), "[]")
}

// toldMove is for a line that makes another Number.
func toldMove(to func(d impl.Desk, word string) (int, bool)) toldDoing {
	return func(d impl.Desk, word string) (impl.Desk, string, bool) {
		n, ok := to(d, word)
		d.Number = n
		return d, toldJoined(n), ok
	}
}

// toldAsk is for a line without an effect.
func toldAsk(reply func(d impl.Desk, word string) (string, bool)) toldDoing {
	return func(d impl.Desk, word string) (impl.Desk, string, bool) {
		text, ok := reply(d, word)
		return d, text, ok
	}
}

func toldSteps(next func(impl.Map, int) int, d impl.Desk, steps int, most int) ([]int, bool) {
	if steps > most {
		return nil, false
	}
	path := toldPath(next, d.Map, d.Number, steps)
	return path, len(path) > steps
}

func toldRanTo(d impl.Desk, steps int) (int, bool) {
	if d.Number < 1 || steps > impl.MaxRun {
		return 0, false
	}
	track := toldTrackOf(d.Machine, d.Number)
	return track.numbers[track.made(steps)], !track.doesLeave(steps)
}

func toldHalt(d impl.Desk) (string, bool) {
	if d.Number < 1 {
		return "", false
	}
	track := toldTrackOf(d.Machine, d.Number)
	steps := len(track.numbers) - 1
	return toldJoined(track.numbers[steps], steps), track.halts && steps <= impl.MaxRun
}

func toldPrimes(n int) (string, bool) {
	var list []int
	for p := 2; n > 1; p++ {
		if p*p > n {
			p = n
		}
		times := 0
		for ; n%p == 0; times++ {
			n /= p
		}
		if times > 0 {
			list = append(list, p, times)
		}
	}
	return toldJoined(list...), n == 1
}

// toldFixed solves x = f(x), where f is what the word does.
func toldFixed(m impl.Map, w string) string {
	zero := toldDoneBig(m, w, big.NewRat(0, 1))
	slope := toldDoneBig(m, w, big.NewRat(1, 1))
	slope.Sub(slope, zero)
	return zero.Quo(zero, slope.Sub(big.NewRat(1, 1), slope)).String()
}

func toldFound(m impl.Map, limit int) (string, bool) {
	if limit < 1 || limit > impl.MaxFound {
		return "", false
	}
	var list []int
	for n := 1; n <= limit; n++ {
		if _, cycle, comes := toldLoop(m, n); comes && !slices.Contains(list, cycle[0]) {
			list = append(list, cycle[0])
		}
	}
	slices.Sort(list)
	return toldJoined(list...), true
}

func toldSlow(m impl.Map, limit int) (string, bool) {
	if limit < 1 || limit > impl.MaxLimit {
		return "", false
	}
	slowest, most := 0, -1
	for n := 1; n <= limit; n++ {
		if _, needs, comes := toldWhole(m, n); comes && needs > most {
			slowest, most = n, needs
		}
	}
	return toldJoined(slowest, most), slowest > 0
}

// toldRows has the table of the document, line by line.
var toldRows = []toldRow{
	row("map "+toldM, func(d impl.Desk, word string) (impl.Desk, string, bool) {
		d.Map = toldMap(word)
		return d, word, true
	}),
	row("machine "+toldF, func(d impl.Desk, word string) (impl.Desk, string, bool) {
		d.Machine = toldMachine(word)
		return d, word, true
	}),
	row("number "+toldI, toldMove(func(d impl.Desk, word string) (int, bool) { return toldInt(word), true })),
	row("step", toldMove(func(d impl.Desk, word string) (int, bool) {
		n := toldNext(d.Map, d.Number)
		return n, !isTooGreat(n)
	})),
	row("short", toldMove(func(d impl.Desk, word string) (int, bool) {
		n := toldShort(d.Map, d.Number)
		return n, !isTooGreat(n)
	})),
	row("go "+toldN, toldMove(func(d impl.Desk, word string) (int, bool) {
		path, ok := toldSteps(toldNext, d, toldInt(word), impl.MaxSteps)
		return append([]int{0}, path...)[len(path)], ok
	})),
	row("run "+toldN, toldMove(func(d impl.Desk, word string) (int, bool) { return toldRanTo(d, toldInt(word)) })),
	row("show", toldAsk(func(d impl.Desk, word string) (string, bool) { return toldJoined(d.Number), true })),
	row("law", toldAsk(func(d impl.Desk, word string) (string, bool) {
		return fmt.Sprintf("%dx%+d", d.Map.Times, d.Map.Plus), true
	})),
	row("path "+toldN, toldAsk(func(d impl.Desk, word string) (string, bool) {
		path, ok := toldSteps(toldNext, d, toldInt(word), impl.MaxPath)
		return toldJoined(path...), ok
	})),
	row("signs "+toldN, toldAsk(func(d impl.Desk, word string) (string, bool) {
		path, ok := toldSteps(toldNext, d, toldInt(word), impl.MaxSteps)
		if !ok {
			return "", false
		}
		return strings.Replace("-"+toldSigns(path), "-", "", min(1, len(path)-1)), true
	})),
	row("peak "+toldN, toldAsk(func(d impl.Desk, word string) (string, bool) {
		path, ok := toldSteps(toldNext, d, toldInt(word), impl.MaxSteps)
		if !ok {
			return "", false
		}
		peak, behind := toldBest(path, func(a, b int) bool { return a > b })
		return toldJoined(peak, behind), true
	})),
	row("to "+toldI, toldAsk(func(d impl.Desk, word string) (string, bool) {
		steps := slices.Index(toldPath(toldNext, d.Map, d.Number, impl.MaxSteps), toldInt(word))
		return toldJoined(steps), steps >= 0
	})),
	row("cycle", toldAsk(func(d impl.Desk, word string) (string, bool) {
		_, cycle, comes := toldLoop(d.Map, d.Number)
		return toldJoined(cycle...), comes
	})),
	row("lead", toldAsk(func(d impl.Desk, word string) (string, bool) {
		lead, cycle, comes := toldLoop(d.Map, d.Number)
		return toldJoined(lead, len(cycle)), comes
	})),
	row("word", toldAsk(func(d impl.Desk, word string) (string, bool) {
		_, cycle, comes := toldLoop(d.Map, d.Number)
		if !comes {
			return "", false
		}
		signs := toldWordOfCycle(d.Map, cycle)
		return signs, len(signs) <= impl.MaxWord
	})),
	row("fix "+toldW, toldAsk(func(d impl.Desk, word string) (string, bool) { return toldFixed(d.Map, word), true })),
	row("found "+toldN, toldAsk(func(d impl.Desk, word string) (string, bool) { return toldFound(d.Map, toldInt(word)) })),
	row("needs", toldAsk(func(d impl.Desk, word string) (string, bool) {
		_, needs, comes := toldWhole(d.Map, d.Number)
		return toldJoined(needs), comes
	})),
	row("slow "+toldN, toldAsk(func(d impl.Desk, word string) (string, bool) { return toldSlow(d.Map, toldInt(word)) })),
	row("halt", toldAsk(func(d impl.Desk, word string) (string, bool) { return toldHalt(d) })),
	row("primes", toldAsk(func(d impl.Desk, word string) (string, bool) { return toldPrimes(d.Number) })),
}

func row(line string, does toldDoing) toldRow {
	return toldRow{regexp.MustCompile(`\A` + line + `\z`), does}
}

// toldLine returns the desk behind a line, and its reply.
func toldLine(d impl.Desk, line string) (impl.Desk, string) {
	for _, r := range toldRows {
		found := r.pattern.FindStringSubmatch(line)
		if found == nil {
			continue
		}
		behind, reply, ok := r.does(d, append(found, "")[1])
		if !ok {
			return d, "no"
		}
		return behind, reply
	}
	return d, "what"
}

// toldSession returns the replies to lines on the first desk, the desk behind them, and the numbers of those that fail.
func toldSession(lines []string) ([]string, impl.Desk, []int) {
	d := toldDesk("3x+1 7 3/2")
	var replies []string
	var failed []int
	for i, line := range lines {
		behind, reply := toldLine(d, line)
		if reply == "no" || reply == "what" {
			failed = append(failed, i+1)
		}
		d, replies = behind, append(replies, reply)
	}
	return replies, d, failed
}

func toldScript(lines []string) string {
	var script strings.Builder
	for _, line := range lines {
		script.WriteString(line + "\n")
	}
	return script.String()
}

func isDeskAs(d impl.Desk, want impl.Desk) bool {
	return d.Map == want.Map && d.Number == want.Number && slices.Equal(d.Machine.Nums, want.Machine.Nums) && slices.Equal(d.Machine.Dens, want.Machine.Dens)
}

func wantDesk(t *testing.T, name string, got []any, want impl.Desk) {
	t.Helper()
	d, isDesk := got[0].(impl.Desk)
	if !isDesk || got[1] != true || !isDeskAs(d, want) {
		t.Errorf("%q: got %v, want %v and true", name, got, want)
	}
}

// wantList is wantResults for one list, which may be nil or empty.
func wantList[T comparable](t *testing.T, name string, list []T, ok bool, want ...T) {
	t.Helper()
	if !ok || !slices.Equal(list, want) {
		t.Errorf("%q: got %v and %v, want %v and true", name, list, ok, want)
	}
}

// wantLine requires that a line on a desk has a reply and leaves a desk.
func wantLine(t *testing.T, d impl.Desk, line string, reply string, behind impl.Desk) {
	t.Helper()
	got, text, ok := impl.DeskLine(d, line)
	if !ok || text != reply || !isDeskAs(got, behind) || !impl.IsDesk(got) {
		t.Errorf("%q on %s: got %q, %v and %v, want %q and %s", line, toldDeskText(d), text, got, ok, reply, toldDeskText(behind))
	}
}

// wantSession requires that a script of these lines has the replies, the desk and the failed lines that the document tells.
func wantSession(t *testing.T, lines []string) {
	t.Helper()
	script := toldScript(lines)
	replies, behind, failed := toldSession(lines)
	got, ok := impl.RunScript(script)
	wantList(t, script, got, ok, replies...)
	wantDesk(t, script, results(impl.DeskAfter(script)), behind)
	numbers, ok := impl.FailedLines(script)
	wantList(t, "failed lines of "+script, numbers, ok, failed...)
}

// wantReply is for the reply that lines have on one desk, behind which it is the same.
func wantReply(t *testing.T, desk string, reply string, lines ...string) {
	t.Helper()
	d := toldDesk(desk)
	for _, line := range lines {
		wantLine(t, d, line, reply, d)
		if _, told := toldLine(d, line); told != reply {
			t.Errorf("%q on %s: %q is told, not %q", line, desk, told, reply)
		}
	}
}

func scriptCalls(s string) map[string][]any {
	return map[string][]any{"RunScript": results(impl.RunScript(s)), "DeskAfter": results(impl.DeskAfter(s)), "FailedLines": results(impl.FailedLines(s))}
}

func TestExampleOfConsole(t *testing.T) {
	replies, ok := impl.RunScript(exampleScript)
	wantList(t, "replies", replies, ok, exampleReplies...)
	wantDesk(t, "desk", results(impl.DeskAfter(exampleScript)), toldDesk("3x-1 0 3/2"))
	failed, ok := impl.FailedLines(exampleScript)
	wantList(t, "failed", failed, ok, 15, 17, 18)
	d := impl.FirstDesk()
	for i, line := range strings.Split(strings.TrimSuffix(exampleScript, "\n"), "\n") {
		behind, reply, ok := impl.DeskLine(d, line)
		if reply != exampleReplies[i] || !ok {
			t.Error(line, reply, ok, "want", exampleReplies[i])
		}
		d = behind
	}
	wantDesk(t, "desk behind the lines", results(d, true), toldDesk("3x-1 0 3/2"))
}

func TestFirstDesk(t *testing.T) {
	wantDesk(t, "first", results(impl.FirstDesk(), true), impl.Desk{Map: threeUp, Number: 7, Machine: impl.Machine{Nums: []int{3}, Dens: []int{2}}})
	if !impl.IsDesk(impl.FirstDesk()) {
		t.Error("the first desk is a desk")
	}
}

// sampleDesks has ordinary desks, and desks near the limits.
func sampleDesks() []impl.Desk {
	var desks []impl.Desk
	machines := sampleMachines()
	for i, m := range allMaps() {
		for k, n := range append([]int{0, 1, -1, 2, 7, 27, -17, 72, 1024, 30030}, sampleStarts()[:12]...) {
			desks = append(desks, impl.Desk{Map: m, Number: n, Machine: machines[(7*i+k)%len(machines)]})
		}
	}
	for _, text := range []string{
		"3x+1 7 3/2", "3x-1 -7 -", "1x-9 -1000000000000 -", "9x+9 1000000000000 2/1", "9x-9 999999999999 1/2", "1x+9 999999999999 -", "1x-9 -999999999999 2/3,3/2", "9x+1 1 2/1", "7x-1 5 1/1", "3x-1 17 5/6,1/2,1/3",
	} {
		desks = append(desks, toldDesk(text))
	}
	return append(desks, impl.Desk{Map: threeUp, Number: longHaltFrom, Machine: toldMachine(longHalt)}, impl.Desk{Map: threeUp, Number: longLeaveFrom, Machine: toldMachine(longLeave)})
}

// noDesks are structs that are no desk, each for one reason.
func noDesks() []impl.Desk {
	desks := []impl.Desk{{}, {Map: threeUp, Number: impl.MaxNumber + 1}, {Number: 7, Machine: toldMachine("3/2")}}
	for _, m := range noMaps {
		desks = append(desks, impl.Desk{Map: m, Number: 7, Machine: toldMachine("3/2")}, impl.Desk{Map: m, Number: 0})
	}
	for _, n := range noNumbers {
		desks = append(desks, impl.Desk{Map: threeUp, Number: n, Machine: toldMachine("3/2")}, impl.Desk{Map: threeUp, Number: n})
	}
	for _, m := range noMachines {
		desks = append(desks, impl.Desk{Map: threeUp, Number: 7, Machine: m})
	}
	return desks
}

func TestIsDeskTakesJustTheDesks(t *testing.T) {
	for _, d := range sampleDesks() {
		if !impl.IsDesk(d) {
			t.Error(d, "is a desk")
		}
	}
	for _, n := range []int{-impl.MaxNumber, -impl.MaxNumber + 1, -7, -1, 0, 1, 7, 1000000, impl.MaxNumber - 1, impl.MaxNumber} {
		for _, m := range []impl.Machine{{}, {Nums: []int{}, Dens: []int{}}, toldMachine("3/2"), toldMachine(twelve)} {
			if !impl.IsDesk(impl.Desk{Map: threeUp, Number: n, Machine: m}) {
				t.Error(n, m, "is a desk")
			}
		}
	}
	for _, d := range noDesks() {
		if impl.IsDesk(d) {
			t.Error(d, "is no desk")
		}
	}
}

// TestLinesWithAnEffect has a desk, a line, its reply, and the desk behind it.
func TestLinesWithAnEffect(t *testing.T) {
	for _, c := range []struct{ desk, line, reply, behind string }{
		{"3x+1 7 3/2", "map 3x-1", "3x-1", "3x-1 7 3/2"}, {"3x+1 7 3/2", "map 9x+9", "9x+9", "9x+9 7 3/2"}, {"9x-9 -7 -", "map 1x-9", "1x-9", "1x-9 -7 -"}, {"3x+1 7 3/2", "map 3x+1", "3x+1", "3x+1 7 3/2"},
		{"3x+1 7 3/2", "machine 5/7", "5/7", "3x+1 7 5/7"}, {"3x+1 7 3/2", "machine -", "-", "3x+1 7 -"}, {"3x+1 7 -", "machine -", "-", "3x+1 7 -"}, {"3x+1 0 -", "machine 3/2,2/3", "3/2,2/3", "3x+1 0 3/2,2/3"},
		{"3x+1 7 3/2", "machine 6/4", "6/4", "3x+1 7 6/4"}, {"3x+1 7 3/2", "machine " + twelve, twelve, "3x+1 7 " + twelve}, {"3x+1 7 3/2", "machine 100000/1,1/100000", "100000/1,1/100000", "3x+1 7 100000/1,1/100000"},
		{"3x+1 7 3/2", "number 72", "72", "3x+1 72 3/2"}, {"3x+1 7 3/2", "number 0", "0", "3x+1 0 3/2"}, {"3x+1 7 3/2", "number -5", "-5", "3x+1 -5 3/2"}, {"3x+1 7 3/2", "number 999999", "999999", "3x+1 999999 3/2"}, {"3x+1 7 3/2", "number -999999", "-999999", "3x+1 -999999 3/2"},
		{"3x+1 7 3/2", "step", "22", "3x+1 22 3/2"}, {"3x+1 22 3/2", "step", "11", "3x+1 11 3/2"}, {"3x+1 0 3/2", "step", "0", "3x+1 0 3/2"}, {"3x+1 -5 3/2", "step", "-14", "3x+1 -14 3/2"}, {"3x+1 -14 3/2", "step", "-7", "3x+1 -7 3/2"}, {"1x-9 1 3/2", "step", "-8", "1x-9 -8 3/2"},
		{"3x+1 7 3/2", "short", "11", "3x+1 11 3/2"}, {"3x+1 22 3/2", "short", "11", "3x+1 11 3/2"}, {"3x+1 -5 3/2", "short", "-7", "3x+1 -7 3/2"}, {"1x-9 1 3/2", "short", "-4", "1x-9 -4 3/2"}, {"1x+9 999999999999 -", "short", "500000000004", "1x+9 500000000004 -"}, {"1x-9 -999999999999 -", "short", "-500000000004", "1x-9 -500000000004 -"},
		{"3x+1 7 3/2", "go 3", "34", "3x+1 34 3/2"}, {"3x+1 7 3/2", "go 0", "7", "3x+1 7 3/2"}, {"3x+1 7 3/2", "go 16", "1", "3x+1 1 3/2"}, {"3x+1 1 3/2", "go 1000", "4", "3x+1 4 3/2"}, {"3x+1 -5 3/2", "go 2", "-7", "3x+1 -7 3/2"}, {"1x-9 1 3/2", "go 1", "-8", "1x-9 -8 3/2"}, {"3x+1 0 -", "go 1000", "0", "3x+1 0 -"},
		{"3x+1 72 3/2", "run 9", "243", "3x+1 243 3/2"}, {"3x+1 72 3/2", "run 3", "243", "3x+1 243 3/2"}, {"3x+1 72 3/2", "run 2", "162", "3x+1 162 3/2"}, {"3x+1 72 3/2", "run 0", "72", "3x+1 72 3/2"}, {"3x+1 72 -", "run 1000", "72", "3x+1 72 -"}, {"3x+1 2 3/2,2/3", "run 1000", "2", "3x+1 2 3/2,2/3"}, {"3x+1 72 1/2,1/3", "run 1000", "1", "3x+1 1 1/2,1/3"},
	} {
		d, behind := toldDesk(c.desk), toldDesk(c.behind)
		wantLine(t, d, c.line, c.reply, behind)
		if told, reply := toldLine(d, c.line); reply != c.reply || !isDeskAs(told, behind) {
			t.Error(c, "but is told", reply, told)
		}
	}
}

func TestLinesThatAsk(t *testing.T) {
	for _, c := range []struct{ desk, line, reply string }{
		{"3x+1 7 3/2", "show", "7"}, {"3x+1 0 3/2", "show", "0"}, {"3x+1 -7 3/2", "show", "-7"}, {"3x+1 1000000000000 -", "show", "1000000000000"}, {"3x+1 -1000000000000 -", "show", "-1000000000000"},
		{"3x+1 7 3/2", "law", "3x+1"}, {"9x-9 -7 3/2", "law", "9x-9"}, {"1x-1 0 -", "law", "1x-1"},
		{"3x+1 7 3/2", "path 0", "7"}, {"3x+1 7 3/2", "path 1", "7,22"}, {"3x+1 7 3/2", "path 5", "7,22,11,34,17,52"}, {"3x+1 -5 3/2", "path 4", "-5,-14,-7,-20,-10"}, {"3x+1 0 3/2", "path 200", strings.Repeat("0,", impl.MaxPath) + "0"},
		{"3x+1 7 3/2", "signs 0", "-"}, {"3x+1 7 3/2", "signs 1", "o"}, {"3x+1 7 3/2", "signs 4", "oeoe"}, {"3x+1 -5 3/2", "signs 5", "oeoee"}, {"3x+1 0 3/2", "signs 1000", strings.Repeat("e", impl.MaxSteps)},
		{"3x+1 7 3/2", "peak 16", "52,5"}, {"3x+1 7 3/2", "peak 0", "7,0"}, {"3x+1 -5 3/2", "peak 4", "-5,0"}, {"3x+1 7 3/2", "peak 1000", "52,5"}, {"3x+1 0 -", "peak 1000", "0,0"},
		{"3x+1 7 3/2", "to 1", "16"}, {"3x+1 7 3/2", "to 7", "0"}, {"3x+1 -5 3/2", "to -7", "2"}, {"3x+1 -5 3/2", "to -5", "0"}, {"1x-9 1 3/2", "to -8", "1"}, {"3x+1 0 -", "to 0", "0"}, {"3x+1 1999998 -", "to 999999", "1"}, {"3x+1 -1999998 -", "to -999999", "1"},
		{"3x+1 7 3/2", "cycle", "1,4,2"}, {"3x+1 0 3/2", "cycle", "0"}, {"3x+1 -1 3/2", "cycle", "-2,-1"}, {"3x-1 5 3/2", "cycle", "5,14,7,20,10"}, {"3x+1 -5 3/2", "cycle", "-20,-10,-5,-14,-7"},
		{"3x+1 7 3/2", "lead", "14,3"}, {"3x+1 1 3/2", "lead", "0,3"}, {"3x+1 0 3/2", "lead", "0,1"}, {"3x+1 -1 3/2", "lead", "0,2"},
		{"3x+1 7 3/2", "word", "oe"}, {"3x+1 0 3/2", "word", "e"}, {"3x-1 5 3/2", "word", "ooe"}, {"3x-1 1 3/2", "word", "o"}, {"3x+1 -1 3/2", "word", "o"},
		{"3x+1 7 3/2", "fix oe", "1/1"}, {"3x+1 7 3/2", "fix ooe", "-5/1"}, {"3x-1 0 -", "fix oee", "-1/5"}, {"3x+1 7 3/2", "fix e", "0/1"}, {"3x+1 7 3/2", "fix eeeeeeeeee", "0/1"}, {"3x+1 7 3/2", "fix oeeeeeeeee", "1/1021"}, {"1x+9 7 3/2", "fix oooooooooo", "9/1"},
		{"3x+1 7 3/2", "found 100", "1"}, {"3x-1 7 3/2", "found 20", "1,5,17"}, {"3x-1 7 3/2", "found 1", "1"}, {"3x-1 7 3/2", "found 300", "1,5,17"}, {"9x+1 7 3/2", "found 300", "-"}, {"1x-9 7 -", "found 1", "-16"},
		{"3x+1 7 3/2", "needs", "16"}, {"3x+1 1 3/2", "needs", "0"}, {"3x+1 0 3/2", "needs", "0"}, {"3x+1 -7 3/2", "needs", "1"},
		{"3x+1 7 3/2", "slow 10", "9,19"}, {"3x+1 7 3/2", "slow 1", "1,0"}, {"3x+1 7 3/2", "slow 27", "27,111"},
		{"3x+1 72 3/2", "halt", "243,3"}, {"3x+1 7 3/2", "halt", "7,0"}, {"3x+1 7 -", "halt", "7,0"}, {"3x+1 72 5/6,1/2,1/3", "halt", "25,3"},
		{"3x+1 1 3/2", "primes", "-"}, {"3x+1 243 3/2", "primes", "3,5"}, {"3x+1 7 3/2", "primes", "7,1"}, {"3x+1 72 3/2", "primes", "2,3,3,2"}, {"3x+1 30030 -", "primes", "2,1,3,1,5,1,7,1,11,1,13,1"}, {"3x+1 1000000000000 -", "primes", "2,12,5,12"}, {"3x+1 999999999989 -", "primes", "999999999989,1"},
	} {
		wantReply(t, c.desk, c.reply, c.line)
	}
}

// TestLinesWhoseFunctionFails has lines of which the next one tells that nothing has changed.
func TestLinesWhoseFunctionFails(t *testing.T) {
	for _, c := range []struct {
		desk  string
		lines []string
	}{
		{"3x+1 7 3/2", []string{"go 1001", "go 999999", "run 1001", "run 999999", "path 201", "path 999999", "signs 1001", "peak 1001", "to 9", "to 0", "to -1", "found 0", "found 301", "found 999999", "slow 0", "slow 301", "slow 999999"}},
		{"9x+9 1000000000000 2/1", []string{"run 1", "run 1000", "halt", "to 7"}},
		{"9x+9 999999999999 2/1", []string{"step", "short", "go 1", "go 1000", "path 1", "path 200", "signs 1", "peak 1", "peak 1000", "to 0", "cycle", "lead", "word", "needs", "run 1", "halt"}},
		{"1x+9 999999999999 -", []string{"step", "go 1", "path 1", "signs 1", "peak 1", "cycle", "lead", "word", "needs"}},
		{"1x-9 -999999999999 3/2", []string{"step", "go 1", "path 1", "signs 1", "peak 1", "cycle", "lead", "word", "needs", "run 0", "run 1", "halt", "primes"}},
		{"9x+1 1 2/1", []string{"go 1000", "cycle", "lead", "word", "needs", "slow 1", "slow 300", "halt", "run 1000", "run 40"}},
		{"3x-1 17 3/2,2/3", []string{"word", "to -17"}},
		{"3x+1 0 3/2", []string{"run 0", "run 1", "halt", "primes", "to 1"}},
		{"3x+1 -1 -", []string{"run 0", "run 1000", "halt", "primes", "to 1"}},
		{"3x+1 -72 3/2", []string{"run 0", "run 9", "halt", "primes"}},
		{"3x+1 2 3/2,2/3", []string{"halt", "run 1001"}},
	} {
		wantReply(t, c.desk, "no", c.lines...)
		for _, line := range c.lines {
			d := toldDesk(c.desk)
			behind, _, _ := impl.DeskLine(d, line)
			for _, after := range []string{line, "show", "law", "step", "number 72", "run 2"} {
				want, reply := toldLine(d, after)
				wantLine(t, behind, after, reply, want)
			}
		}
	}
}

// TestSessionsGoOnBehindLinesThatFail has scripts by which numbers leave the numbers, and go on.
func TestSessionsGoOnBehindLinesThatFail(t *testing.T) {
	for _, lines := range [][]string{
		{"go 1001", "show", "step", "go 1001", "step"},
		{"map 9x+9", "number 999999", "go 25", "go 12", "step", "step", "step", "step", "show", "short", "path 0", "number -1", "step"},
		{"machine 2/1", "run 1000", "run 37", "run 1", "show", "halt", "machine -", "halt"},
		{"number -5", "run 0", "show", "step", "short", "go 2", "primes", "number 5", "primes"},
		{"map 1x-9", "number 1", "step", "short", "go 3", "show", "run 1", "to -9", "number -1", "to -9"},
		{"map 2x+1", "law", "map 3x-1", "law", "map 3x-2", "law", "machine 0/1", "run 1", "number 1000000", "show"},
		{"", "show", " show", "show ", "sho", "show"},
		{"fly", "fly", "step", "fly"}, {"to 0", "to 0"}, {"show"}, {"fly"}, {""},
	} {
		wantSession(t, lines)
	}
}

// writtenNumbers has for words whether each is an N, and whether it is an I.
var writtenNumbers = []struct {
	word     string
	isN, isI bool
}{
	{"0", true, true}, {"1", true, true}, {"7", true, true}, {"10", true, true}, {"200", true, true}, {"999999", true, true}, {"-1", false, true}, {"-10", false, true}, {"-999999", false, true},
	{"-0", false, false}, {"-", false, false}, {"--1", false, false}, {"-01", false, false}, {"-007", false, false}, {"00", false, false}, {"01", false, false}, {"007", false, false}, {"0000000", false, false}, {"0999999", false, false},
	{"+1", false, false}, {"+0", false, false}, {"+", false, false}, {"-+1", false, false}, {"+-1", false, false}, {"", false, false}, {"1000000", false, false}, {"-1000000", false, false}, {"9999999", false, false}, {"1000000000000", false, false},
	{"9223372036854775807", false, false}, {"9223372036854775808", false, false}, {"-9223372036854775808", false, false}, {"18446744073709551617", false, false}, {"-18446744073709551615", false, false}, {strings.Repeat("1", 1000), false, false}, {strings.Repeat("0", 1000) + "1", false, false},
	{"x", false, false}, {"o", false, false}, {"1x", false, false}, {"x1", false, false}, {"1-", false, false}, {"1.0", false, false}, {"1,0", false, false}, {"1,", false, false}, {"1e2", false, false}, {"0x1", false, false}, {"0b1", false, false}, {"1_0", false, false}, {"3/2", false, false},
	{"1\t", false, false}, {"\t1", false, false}, {"1\r", false, false}, {"1\x00", false, false}, {"\x001", false, false}, {"\xff", false, false}, {"1\xff", false, false}, {"\xef\xbc\x91", false, false}, {"\xd9\xa1", false, false}, {"\xe2\x88\x921", false, false},
}

func TestNumbersInLines(t *testing.T) {
	d := toldDesk("3x+1 7 3/2")
	for _, w := range writtenNumbers {
		for _, name := range []string{"go", "run", "path", "signs", "peak", "found", "slow", "number", "to"} {
			isFine := w.isN
			if name == "number" || name == "to" {
				isFine = w.isI
			}
			behind, reply := toldLine(d, name+" "+w.word)
			if isFine == (reply == "what") {
				t.Errorf("%s %q: %q is told", name, w.word, reply)
			}
			wantLine(t, d, name+" "+w.word, reply, behind)
		}
	}
}

var bareNames = []string{"step", "short", "show", "law", "cycle", "lead", "word", "needs", "halt", "primes"}

// fineWords has a word for each name that needs one.
var fineWords = map[string]string{
	"map": "5x-3", "machine": "5/7", "number": "12", "go": "2", "run": "2", "path": "2", "signs": "2", "peak": "2", "to": "1", "fix": "oe", "found": "20", "slow": "20",
}

func fineLines() []string {
	lines := slices.Clone(bareNames)
	for name, word := range fineWords {
		lines = append(lines, name+" "+word)
	}
	slices.Sort(lines)
	return lines
}

func TestEachLineOfTheTableIsKnown(t *testing.T) {
	if len(fineLines()) != len(toldRows) {
		t.Error("the lines are too few:", fineLines())
	}
	d := toldDesk("3x+1 72 3/2")
	for _, line := range fineLines() {
		behind, reply := toldLine(d, line)
		if reply == "what" || reply == "no" {
			t.Errorf("%q is told %q", line, reply)
		}
		wantLine(t, d, line, reply, behind)
	}
}

func TestTooFewAndTooManyWords(t *testing.T) {
	for _, desk := range []string{"3x+1 72 3/2", "9x+1 1 -"} {
		for _, name := range bareNames {
			for _, word := range []string{"", "1", "0", "-1", "oe", "3x+1", "3/2", "-", name, " ", "1 1"} {
				wantReply(t, desk, "what", name+" "+word)
			}
		}
		for name, word := range fineWords {
			wantReply(t, desk, "what", name, name+" ", name+"  ", name+word, name+"\t"+word, name+" "+word+" "+word, name+" "+word+" 1", name+" 1 "+word, word+" "+name, word)
		}
	}
}

// TestBlanksAndOtherSigns has lines that are none, each near one that is.
func TestBlanksAndOtherSigns(t *testing.T) {
	const desk = "3x+1 72 3/2"
	wantReply(t, desk, "what", "", " ", "  ", "   ", strings.Repeat(" ", impl.MaxScript), "\t", "\r", "\x00", "\xff", "\xff\xfe", ".", "-", "0", "7", "what", "no", "fly", "help", "3x+1", "3/2", "oe")
	for _, line := range fineLines() {
		name, word, hasWord := strings.Cut(line, " ")
		wantReply(t, desk, "what", " "+line, "  "+line, line+" ", line+"  ", " "+line+" ", line+"\t", "\t"+line, line+"\r", "\r"+line, line+"\x00", "\x00"+line, line+"\xff", "\xc2\xa0"+line, line+"\xc2\xa0", line+";"+line, line+" "+line, line+line)
		wantReply(t, desk, "what", strings.ToUpper(line), strings.ToUpper(line[:1])+line[1:], strings.ToUpper(name)+line[len(name):], line[1:], name[:len(name)-1]+line[len(name):], name+"s"+line[len(name):], name+"x"+line[len(name):], name+"-"+line[len(name):], "x"+line)
		if hasWord {
			wantReply(t, desk, "what", name+"  "+word, name+"\t"+word, name+"\xc2\xa0"+word, name+" \x00"+word, name+" \t"+word, name+"="+word, name+" +"+word)
		}
	}
	wantReply(t, desk, "what", "st", "ste", "steps", "shorts", "sho", "showing", "g", "gone 1", "got 1", "run1", "runs 1", "paths 1", "pat 1", "sign 1", "signss 1", "peaks 1", "t 1", "too 1", "tot 1", "cycles", "leads", "words", "wor", "fixed oe", "fi oe", "find 20", "foun 20", "need", "needss", "slower 20", "halts", "hal", "prime", "maps 3x+1", "ma 3x+1", "mach 3/2", "machines 3/2", "numbers 7", "num 7", "laws", "la")
	wantReply(t, desk, "what", "step 1", "short 1", "show 72", "law 3x+1", "cycle 1", "lead 1", "word oe", "needs 1", "halt 1", "primes 72")
}

func TestMapsInLines(t *testing.T) {
	d := toldDesk("3x+1 7 3/2")
	for _, m := range allMaps() {
		text := fmt.Sprintf("%dx%+d", m.Times, m.Plus)
		wantLine(t, d, "map "+text, text, impl.Desk{Map: m, Number: 7, Machine: d.Machine})
	}
	for _, text := range []string{
		"", "x", "3", "3x", "x+1", "3x1", "+3x+1", "-3x+1", "3x+01", "03x+1", "3x+-1", "3x++1", "3x+", "3x+0", "3x-0", "2x+1", "3x+2", "11x+1", "3x+11", "3x-11", "0x+1", "-1x+1", "3X+1", "3y+1", "3x+1,", "3x+1x", "3x+1;3x+1", "3x+1\x00", "3x+\xff", "3x\xe2\x88\x921", "18446744073709551619x+1", "3x+18446744073709551617", "3/2", "-", "0",
		" 3x+1", "3x+1 ", "3 x+1", "3x +1", "3x+ 1",
	} {
		wantReply(t, "3x-1 7 3/2", "what", "map "+text)
	}
}

func TestMachinesInLines(t *testing.T) {
	for _, m := range sampleMachines() {
		text := toldMachineText(m)
		wantLine(t, toldDesk("3x+1 -7 3/2"), "machine "+text, text, impl.Desk{Map: threeUp, Number: -7, Machine: m})
	}
	longest := strings.Repeat("100000/100000,", impl.MaxFractions-1) + "100000/100000"
	wantLine(t, toldDesk("3x+1 7 -"), "machine "+longest, longest, impl.Desk{Map: threeUp, Number: 7, Machine: toldMachine(longest)})
	for _, text := range []string{
		"", "--", "-,", ",-", "-/-", "3", "3/", "/2", "/", ",", "3//2", "3/2/1", "3/2,", ",3/2", "3/2,,5/3", "3/2,-", "3/2;5/3", "+3/2", "3/+2", "-3/2", "3/-2", "03/2", "3/02", "0/1", "1/0", "3/2,0/1", "3/2,1/0", "100001/1", "1/100001", "3/2\x00", "3/2\xff", "3:2", "3.2", "3_0/2", "0x3/2", "18446744073709551617/1", "1/18446744073709551617", "3x+1", "0", "none",
		twelve + ",1/41", longest + ",1/2", strings.Repeat("1/2,", 700) + "1/2", " 3/2", "3/2 ", "3/2, 5/3", "3 /2", "3/ 2", "- ", " -",
	} {
		wantReply(t, "3x+1 7 5/7", "what", "machine "+text)
	}
}

func TestWordsInLines(t *testing.T) {
	for _, m := range []impl.Map{threeUp, threeDown, {Times: 1, Plus: -9}, {Times: 9, Plus: 7}} {
		d := impl.Desk{Map: m, Number: -3}
		for _, w := range turnWords() {
			wantLine(t, d, "fix "+w, toldFixed(m, w), d)
		}
	}
	for _, w := range noTurnWords {
		if !strings.Contains(w, "\n") && len(w) < 2000 {
			wantReply(t, "3x+1 7 3/2", "what", "fix "+w)
		}
	}
	wantReply(t, "3x+1 7 3/2", "what", "fix", "fix ", "fix  ", "fix -", "fix 1", "fix OE", "fix o e", "fix oe ", "fix oeoeoeoeoeo")
}

// chanceWord has words of all kinds, most of them fine for the name.
func chanceWord(random *rand.Rand, name string) string {
	numbers := []string{"0", "1", "2", "3", "5", "9", "16", "40", "100", "199", "200", "201", "300", "301", "999", "1000", "1001", "999999"}
	others := []string{"", "-0", "-", "01", "+1", "1000000", "-1000000", "x", " ", "1 1", "oe", "3x+1", "3/2"}
	if random.Intn(12) == 0 {
		return others[random.Intn(len(others))]
	}
	switch name {
	case "map":
		return fmt.Sprintf("%dx%+d", 1+random.Intn(10), random.Intn(20)-10)
	case "machine":
		return []string{"-", "3/2", "2/1", "1/2,1/3", "5/6,1/2,1/3", "3/2,2/3", "6/4", "0/1", primeGame, twelve}[random.Intn(10)]
	case "number", "to":
		return fmt.Sprint(random.Intn(200) - 60)
	case "fix":
		return toldAllWords(1 + random.Intn(4))[random.Intn(2)]
	}
	return numbers[random.Intn(len(numbers))]
}

func chanceLine(random *rand.Rand) string {
	lines := fineLines()
	name, _, hasWord := strings.Cut(lines[random.Intn(len(lines))], " ")
	switch {
	case random.Intn(25) == 0:
		return []string{"", " ", "fly", "Step", "step ", " step", "shows", "\xff"}[random.Intn(8)]
	case hasWord:
		return name + " " + chanceWord(random, name)
	}
	return name
}

// TestLinesOnManyDesks compares each line of the table, on each desk, with what the document tells.
func TestLinesOnManyDesks(t *testing.T) {
	random := rand.New(rand.NewSource(100))
	met := tally{}
	for i, d := range sampleDesks() {
		for _, line := range fineLines() {
			name, _, hasWord := strings.Cut(line, " ")
			// These take long, and do not depend on the Number.
			if (name == "found" || name == "slow") && i%9 != 0 {
				continue
			}
			if hasWord {
				line = name + " " + chanceWord(random, name)
			}
			behind, reply := toldLine(d, line)
			wantLine(t, d, line, reply, behind)
			met.countIf(reply == "no", name+" no")
			met.countIf(reply != "no" && reply != "what", name)
		}
	}
	for _, line := range fineLines() {
		name, _, _ := strings.Cut(line, " ")
		if met[name] == 0 {
			t.Error("no desk has a reply to", name)
		}
	}
	for _, name := range []string{"step", "short", "go", "run", "path", "signs", "peak", "to", "cycle", "lead", "word", "found", "needs", "slow", "halt", "primes"} {
		if met[name+" no"] == 0 {
			t.Error("no desk has the reply `no` to", name)
		}
	}
}

// TestScriptsDoWhatTheirLinesDo compares scripts by chance with what the document tells.
func TestScriptsDoWhatTheirLinesDo(t *testing.T) {
	random := rand.New(rand.NewSource(101))
	for i := range 120 {
		var lines []string
		for range i % (impl.MaxLines + 1) {
			lines = append(lines, chanceLine(random))
		}
		wantSession(t, lines)
	}
}

// TestLinesDoWhatTheCallsDo has the calls themselves that the table names.
func TestLinesDoWhatTheCallsDo(t *testing.T) {
	for _, d := range sampleDesks() {
		next, ok := impl.NextNumber(d.Map, d.Number)
		wantCall(t, d, "step", fmt.Sprint(next), ok)
		short, ok := impl.ShortNext(d.Map, d.Number)
		wantCall(t, d, "short", fmt.Sprint(short), ok)
		after, ok := impl.NumberAfter(d.Map, d.Number, 12)
		wantCall(t, d, "go 12", fmt.Sprint(after), ok)
		run, _, ok := impl.RunMachine(d.Machine, d.Number, 12)
		wantCall(t, d, "run 12", fmt.Sprint(run), ok)
		cycle, ok := impl.CycleOf(d.Map, d.Number)
		wantCall(t, d, "cycle", toldJoined(cycle...), ok)
		word, ok := impl.WordOfCycle(d.Map, d.Number)
		wantCall(t, d, "word", word, ok)
		needs, ok := impl.StepsNeeded(d.Map, d.Number)
		wantCall(t, d, "needs", fmt.Sprint(needs), ok)
		halt, steps, ok := impl.HaltOf(d.Machine, d.Number)
		wantCall(t, d, "halt", toldJoined(halt, steps), ok)
	}
}

func wantCall(t *testing.T, d impl.Desk, line string, reply string, ok bool) {
	t.Helper()
	if !ok {
		reply = "no"
	}
	if _, got, isLine := impl.DeskLine(d, line); got != reply || !isLine {
		t.Errorf("%q on %s: got %q and %v, want %q", line, toldDeskText(d), got, isLine, reply)
	}
}

func TestScriptsOfNoLine(t *testing.T) {
	replies, ok := impl.RunScript("")
	wantList(t, "replies", replies, ok)
	wantDesk(t, "desk", results(impl.DeskAfter("")), impl.FirstDesk())
	failed, ok := impl.FailedLines("")
	wantList(t, "failed", failed, ok)
}

func TestLinesOfScriptsMetExactly(t *testing.T) {
	for _, line := range []string{"step", "show", "", "fly", "go 1001", "number -1"} {
		wantSession(t, []string{line})
		wantSession(t, slices.Repeat([]string{line}, impl.MaxLines-1))
		wantSession(t, slices.Repeat([]string{line}, impl.MaxLines))
		for _, count := range []int{impl.MaxLines + 1, impl.MaxLines + 2, 2 * impl.MaxLines} {
			wantFailed(t, scriptCalls(strings.Repeat(line+"\n", count)))
		}
	}
	wantFailed(t, scriptCalls(strings.Repeat("\n", impl.MaxScript)))
}

func TestBytesOfScriptsMetExactly(t *testing.T) {
	for _, line := range []string{"", "step", "fly"} {
		for _, filler := range []string{"x", " ", "\xff", "0"} {
			start := line + "\n"
			fine := start + strings.Repeat(filler, impl.MaxScript-len(start)-1) + "\n"
			if len(fine) != impl.MaxScript {
				t.Fatal(len(fine), "bytes")
			}
			wantSession(t, strings.Split(strings.TrimSuffix(fine, "\n"), "\n"))
			wantFailed(t, scriptCalls(start+strings.Repeat(filler, impl.MaxScript-len(start))+"\n"))
			wantFailed(t, scriptCalls(strings.Repeat(filler, impl.MaxScript)+"\n"))
		}
	}
	wantSession(t, []string{strings.Repeat("x", impl.MaxScript-1)})
	// Fifty lines of sixty bytes are as much as a script may have of both.
	wantSession(t, slices.Repeat([]string{"number " + strings.Repeat("0", 51) + "1"}, impl.MaxLines))
	sixty := slices.Repeat([]string{strings.Repeat("y", 59)}, impl.MaxLines)
	wantSession(t, sixty)
	wantFailed(t, scriptCalls("z"+toldScript(sixty)))
}

func TestTextsThatAreNoScript(t *testing.T) {
	for _, s := range []string{
		"step", "show", "fly", " ", "x", "step\nstep", "step\n\nstep", "\nstep", "\n\n ", "step\n ", "step\n\r", "step\r", "step\x00", "step\n\x00", "\xff", exampleScript + "x", strings.TrimSuffix(exampleScript, "\n"),
		strings.Repeat("step\n", impl.MaxLines) + "s", strings.Repeat("step\n", impl.MaxLines-1) + "step", strings.Repeat("x", impl.MaxScript), strings.Repeat("x", impl.MaxScript+1), strings.Repeat("x", 1000000), strings.Repeat("\n", 1000000),
	} {
		wantFailed(t, scriptCalls(s))
	}
}

func TestScriptsWithLinesOfOtherBytes(t *testing.T) {
	wantSession(t, []string{"", "", ""})
	wantSession(t, []string{"step\r", "step", "\r", "", "\x00", "\xff\xfe", "\xc3", "st\u00e9p", "step\x00", "step", "\u2028", "\x0b", "\x0c", "number 5\r", "show"})
	wantSession(t, []string{"", "step", "", "step", ""})
}

func TestLinesOfMaxScriptBytes(t *testing.T) {
	d := toldDesk("3x+1 -7 3/2")
	for _, start := range []string{"", "x", "map ", "machine ", "number ", "fix ", "machine 3/2,", "step "} {
		for _, filler := range []string{"x", " ", "1", "o", "\x00", "\xff"} {
			line := start + strings.Repeat(filler, impl.MaxScript-len(start))
			wantLine(t, d, line, "what", d)
			wantFailed(t, map[string][]any{start: results(impl.DeskLine(d, line+filler)), start + " far": results(impl.DeskLine(d, strings.Repeat(line, 100)))})
		}
	}
}

func TestLinesWithANewline(t *testing.T) {
	for _, d := range []impl.Desk{impl.FirstDesk(), toldDesk("9x-9 -1000000000000 -")} {
		for _, line := range append(fineLines(), "", "fly", "go 1001") {
			wantFailed(t, map[string][]any{
				"behind " + line: results(impl.DeskLine(d, line+"\n")), "before " + line: results(impl.DeskLine(d, "\n"+line)), "in " + line: results(impl.DeskLine(d, line+"\n"+line)), "with a blank " + line: results(impl.DeskLine(d, line+" \n")),
			})
		}
		wantFailed(t, map[string][]any{"only": results(impl.DeskLine(d, "\n")), "far": results(impl.DeskLine(d, strings.Repeat("x", impl.MaxScript-1)+"\n"))})
	}
}

func TestLinesOnNoDeskFail(t *testing.T) {
	for _, d := range noDesks() {
		for _, line := range append(fineLines(), "", "fly", "go 1001", "map 3x+1", "machine -", "number 0") {
			wantFailed(t, map[string][]any{fmt.Sprintf("%q on %v", line, d): results(impl.DeskLine(d, line))})
		}
	}
}

func TestFailedLines(t *testing.T) {
	for _, c := range []struct {
		script string
		want   []int
	}{
		{"", nil}, {"step\n", nil}, {"show\nlaw\nstep\n", nil}, {"fly\n", []int{1}}, {"\n", []int{1}}, {"go 1001\n", []int{1}}, {"fly\ngo 1001\n\n", []int{1, 2, 3}}, {"step\nfly\nstep\n", []int{2}}, {"step\ngo 1001\nstep\n", []int{2}}, {"to 9\nstep\nfly\n", []int{1, 3}}, {"step\nstep\nno\nwhat\n", []int{3, 4}},
		{"signs 0\nfound 1\nmap 9x+1\nfound 1\nslow 1\n", []int{5}}, {"machine -\nnumber -1\nprimes\n", []int{3}},
	} {
		lines, ok := impl.FailedLines(c.script)
		wantList(t, c.script, lines, ok, c.want...)
	}
	failed, ok := impl.FailedLines(strings.Repeat("fly\n", impl.MaxLines))
	wantList(t, "all", failed, ok, toldCount(1, impl.MaxLines)...)
	failed, ok = impl.FailedLines(strings.Repeat("halt\n", impl.MaxLines-1) + "to 0\n")
	wantList(t, "the last one", failed, ok, impl.MaxLines)
}

func TestDesksBehindScripts(t *testing.T) {
	for _, c := range []struct{ script, desk string }{
		{"", "3x+1 7 3/2"}, {"step\n", "3x+1 22 3/2"}, {"fly\n", "3x+1 7 3/2"}, {"go 1001\nto 9\n", "3x+1 7 3/2"}, {"map 3x-1\ngo 1001\nstep\nfly\n", "3x-1 20 3/2"}, {"number -5\nrun 3\nmachine 5/7\nrun 3\n", "3x+1 -5 5/7"}, {"machine -\nmachine 0/1\n", "3x+1 7 -"}, {"map 2x+1\nmap 9x-9\nmap 3x+2\n", "9x-9 7 3/2"}, {"number 72\nrun 2\nrun 1001\n", "3x+1 162 3/2"}, {"number 0\nhalt\n", "3x+1 0 3/2"}, {"path 200\npeak 9\ncycle\nfound 9\nslow 9\nhalt\nprimes\n", "3x+1 7 3/2"},
	} {
		wantDesk(t, c.script, results(impl.DeskAfter(c.script)), toldDesk(c.desk))
	}
}

func TestNoArgumentOfConsolePanics(t *testing.T) {
	random := rand.New(rand.NewSource(102))
	desks := slices.Concat(noDesks(), sampleDesks()[:60], sampleDesks()[len(sampleDesks())-12:])
	for _, n := range extremes {
		desks = append(desks, impl.Desk{Map: threeUp, Number: n, Machine: toldMachine("3/2")}, impl.Desk{Map: impl.Map{Times: n, Plus: n}, Number: 7}, impl.Desk{Map: threeUp, Number: 7, Machine: impl.Machine{Nums: []int{n}, Dens: []int{2}}}, impl.Desk{Map: threeUp, Number: 7, Machine: impl.Machine{Nums: []int{3}, Dens: []int{n}}})
	}
	for _, d := range desks {
		for range 12 {
			line := chanceLine(random)
			if random.Intn(3) == 0 {
				line = chanceBytes(random, line)
			}
			wantNoHalfFailure(t, fmt.Sprintf("%q on %v", line, d), results(impl.DeskLine(d, line)))
		}
	}
	for range 300 {
		script := ""
		for range random.Intn(8) {
			script += chanceLine(random) + "\n"
		}
		script = chanceBytes(random, script)
		for name, got := range scriptCalls(script) {
			wantNoHalfFailure(t, fmt.Sprintf("%s of %q", name, script), got)
		}
	}
	for _, n := range []int{math.MinInt, math.MaxInt} {
		wantFailed(t, map[string][]any{fmt.Sprint(n): results(impl.DeskLine(impl.Desk{Map: impl.Map{Times: n, Plus: n}, Number: n}, "step"))})
	}
}

// chanceBytes changes one byte of a text.
func chanceBytes(random *rand.Rand, text string) string {
	if text == "" {
		return "\x00"
	}
	k := random.Intn(len(text))
	return text[:k] + string([]byte{byte(random.Intn(256))}) + text[k+random.Intn(2):]
}

// TestListsWithinDesksAreTheirOwn has each way in which a desk comes to a machine.
func TestListsWithinDesksAreTheirOwn(t *testing.T) {
	wantOwnLists(t, "FirstDesk", func() (impl.Machine, bool) { return impl.FirstDesk().Machine, true })
	for _, script := range []string{"", "step\n", "fly\n", "go 1001\n", "machine 3/2,5/7\n", "machine 3/2,5/7\nnumber 6\nrun 1\nmachine x\n"} {
		wantOwnLists(t, "DeskAfter "+script, func() (impl.Machine, bool) {
			d, ok := impl.DeskAfter(script)
			return d.Machine, ok
		})
	}
	lists := []int{1, 2, 3, 1, 2, 3, 7, 7, 7}
	for name, m := range map[string]impl.Machine{
		"no room": {Nums: lists[:2:2], Dens: lists[2:4:4]}, "with room": {Nums: lists[:3], Dens: lists[3:6]}, "one list": {Nums: lists[1:4], Dens: lists[1:4]}, "over each other": {Nums: lists[:4], Dens: lists[2:6]},
	} {
		for _, line := range append(fineLines(), "", "fly", "go 1001") {
			d := impl.Desk{Map: threeUp, Number: 72, Machine: m}
			wantOwnLists(t, line+" "+name, func() (impl.Machine, bool) {
				behind, _, ok := impl.DeskLine(d, line)
				return behind.Machine, ok
			})
		}
	}
	if !slices.Equal(lists, []int{1, 2, 3, 1, 2, 3, 7, 7, 7}) {
		t.Error(lists, "have been changed by what was done to results")
	}
}

// TestMachinesOfNoFractionsLeaveNoRoom appends to lists of nothing, which must not be the beginning of the argument.
func TestMachinesOfNoFractionsLeaveNoRoom(t *testing.T) {
	nums, dens := []int{5, 5, 5}, []int{6, 6, 6}
	for _, line := range []string{"show", "fly", "go 1001", "run 3", "machine -"} {
		behind, _, ok := impl.DeskLine(impl.Desk{Map: threeUp, Number: 7, Machine: impl.Machine{Nums: nums[:0], Dens: dens[:0]}}, line)
		_ = append(behind.Machine.Nums, -1, -1)
		_ = append(behind.Machine.Dens, -1, -1)
		if !ok || !slices.Equal(nums, []int{5, 5, 5}) || !slices.Equal(dens, []int{6, 6, 6}) {
			t.Error(line, ok, nums, dens)
		}
	}
}

// TestConsoleChangesNoArgument has behind the machine what is none.
func TestConsoleChangesNoArgument(t *testing.T) {
	lists := []int{3, 5, -5, -5, -5, 2, 7, -5, -5, -5}
	want := slices.Clone(lists)
	d := impl.Desk{Map: threeUp, Number: 72, Machine: impl.Machine{Nums: lists[:2], Dens: lists[5:7]}}
	for _, line := range append(fineLines(), "machine "+twelve, "machine -", "machine 0/1", "", "fly", "go 1001") {
		behind, reply := toldLine(toldDesk("3x+1 72 3/2,5/7"), line)
		wantLine(t, d, line, reply, behind)
		if !impl.IsDesk(d) || !slices.Equal(lists, want) || !isDeskAs(d, toldDesk("3x+1 72 3/2,5/7")) {
			t.Error(line, "has changed the desk, or what is behind its lists, to", lists)
		}
	}
}

func TestDesksKeepWithoutTheArgument(t *testing.T) {
	for _, line := range []string{"show", "step", "run 1", "fly", "go 1001"} {
		d := toldDesk("3x+1 72 3/2,5/7")
		want, _ := toldLine(toldDesk("3x+1 72 3/2,5/7"), line)
		behind, _, ok := impl.DeskLine(d, line)
		d.Machine.Nums[0], d.Machine.Dens[1] = 99, 99
		wantDesk(t, line, results(behind, ok), want)
	}
}

func TestListsOfConsoleAreNew(t *testing.T) {
	wantNewLists(t, func() map[string][]int {
		failed, _ := impl.FailedLines(exampleScript)
		all, _ := impl.FailedLines(strings.Repeat("\n", impl.MaxLines))
		return map[string][]int{"failed": failed, "all": all}
	})
	replies, _ := impl.RunScript(exampleScript)
	_ = append(replies, "x")
	for i := range replies {
		replies[i] = "x"
	}
	again, ok := impl.RunScript(exampleScript)
	wantList(t, "replies", again, ok, exampleReplies...)
}

// TestNothingIsKeptBetweenScripts has scripts that would go on from the desk of one before.
func TestNothingIsKeptBetweenScripts(t *testing.T) {
	for range 3 {
		for _, script := range []string{"show\nlaw\nhalt\n", "step\n", "map 9x-9\nmachine -\nnumber -1\n", "fly\n"} {
			wantSession(t, strings.Split(strings.TrimSuffix(script, "\n"), "\n"))
		}
	}
	wantDesk(t, "first", results(impl.FirstDesk(), true), toldDesk("3x+1 7 3/2"))
}

// TestConsoleLeavesNothingRunning waits for goroutines of other tests and of the runtime, too, which may end a little later.
func TestConsoleLeavesNothingRunning(t *testing.T) {
	before := runtime.NumGoroutine()
	for range 50 {
		wantSession(t, []string{"number 72", "run 2", "halt", "machine 2/1", "run 5", "halt", "run 1000", "number -1", "run 0", "halt"})
	}
	for wait := 0; runtime.NumGoroutine() > before; wait++ {
		if wait == 1000 {
			t.Fatal(runtime.NumGoroutine()-before, "goroutines are running still")
		}
		time.Sleep(time.Millisecond)
	}
}
