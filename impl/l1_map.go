package impl

import (
	"iter"
	"slices"
	"strconv"
	"strings"
)

const MaxNumber = 1000000000000
const MaxSteps = 1000
const MaxPath = 200

type Map struct {
	Times int
	Plus  int
}

// walk is a number on its way by a map.
type walk struct {
	Map
	at int
}

// IsMap reports whether m, whose numbers may be any, is a map.
func IsMap(m Map) bool {
	return isOdd(m.Times) && 1 <= m.Times && m.Times <= 9 &&
		isOdd(m.Plus) && -9 <= m.Plus && m.Plus <= 9
}

func isNumber(n int) bool { return -MaxNumber <= n && n <= MaxNumber }

func isOdd(n int) bool { return n%2 != 0 }

// step may come to what is no number, but never overflows if it starts from a number.
func (w walk) step() walk {
	if isOdd(w.at) {
		w.at = w.Times*w.at + w.Plus
	} else {
		w.at /= 2
	}
	return w
}

func (w walk) shortStep() walk {
	if isOdd(w.at) {
		w = w.step()
	}
	return w.step()
}

// along gives 0, 1, 2, .. up to MaxSteps and the number behind so many steps of one kind.
// It ends before what is no number, and gives nothing if the walk has no map.
func (w walk) along(step func(walk) walk) iter.Seq2[int, int] {
	return func(yield func(int, int) bool) {
		if !IsMap(w.Map) {
			return
		}
		for i, now := 0, w; i <= MaxSteps && isNumber(now.at); i, now = i+1, step(now) {
			if !yield(i, now.at) {
				return
			}
		}
	}
}

func (w walk) after(steps int, step func(walk) walk) (int, bool) {
	for i, at := range w.along(step) {
		if i == steps {
			return at, true
		}
	}
	return 0, false
}

// path is PathOf without its own lower limit, as other results need paths of up to MaxSteps.
func (w walk) path(steps int) ([]int, bool) {
	var path []int
	for i, at := range w.along(walk.step) {
		path = append(path, at)
		if i == steps {
			return path, true
		}
	}
	return nil, false
}

// NextNumber returns the number behind a step.
func NextNumber(m Map, n int) (int, bool) { return NumberAfter(m, n, 1) }

// ShortNext returns the number behind a short step; what is halved in it may be none.
func ShortNext(m Map, n int) (int, bool) { return ShortAfter(m, n, 1) }

// NumberAfter returns the number behind so many steps.
func NumberAfter(m Map, n int, steps int) (int, bool) {
	return walk{Map: m, at: n}.after(steps, walk.step)
}

// ShortAfter returns the number behind so many short steps.
func ShortAfter(m Map, n int, steps int) (int, bool) {
	return walk{Map: m, at: n}.after(steps, walk.shortStep)
}

// PathOf returns the path of so many steps, here in 0..MaxPath.
func PathOf(m Map, n int, steps int) ([]int, bool) {
	if steps > MaxPath {
		return nil, false
	}
	return walk{Map: m, at: n}.path(steps)
}

// PeakOf returns the greatest number of the path of so many steps, and behind how many steps it is first there.
func PeakOf(m Map, n int, steps int) (int, int, bool) {
	path, ok := walk{Map: m, at: n}.path(steps)
	if !ok {
		return 0, 0, false
	}
	peak := slices.Max(path)
	return peak, slices.Index(path, peak), true
}

// LowOf returns the least number of it, and behind how many steps it is first there.
func LowOf(m Map, n int, steps int) (int, int, bool) {
	path, ok := walk{Map: m, at: n}.path(steps)
	if !ok {
		return 0, 0, false
	}
	low := slices.Min(path)
	return low, slices.Index(path, low), true
}

// StepsTo returns the least number of steps, 0 also, behind which a number, the goal, is there.
// It fails if it is not behind MaxSteps steps or less.
func StepsTo(m Map, n int, goal int) (int, bool) {
	for i, at := range (walk{Map: m, at: n}).along(walk.step) {
		if at == goal {
			return i, true
		}
	}
	return 0, false
}

// OddSteps returns how many of so many steps begin at an odd number.
func OddSteps(m Map, n int, steps int) (int, bool) {
	signs, ok := SignsOf(m, n, steps)
	return strings.Count(signs, "o"), ok
}

// SignsOf returns for each of so many steps, one after the other, o if it begins at an odd number, e if at an even one.
func SignsOf(m Map, n int, steps int) (string, bool) {
	path, ok := walk{Map: m, at: n}.path(steps)
	if !ok {
		return "", false
	}
	signs := make([]byte, steps)
	for i := range signs {
		signs[i] = signOf(path[i])
	}
	return string(signs), true
}

func signOf(n int) byte {
	if isOdd(n) {
		return 'o'
	}
	return 'e'
}

// OddPart returns the odd number that is left when a number other than 0 is halved as often as it can be, and how often.
func OddPart(n int) (int, int, bool) {
	if n == 0 || !isNumber(n) {
		return 0, 0, false
	}
	halved := 0
	for !isOdd(n) {
		n /= 2
		halved++
	}
	return n, halved, true
}

// OddNext returns the OddPart of the number behind a step from an odd number: this odd part and how often it is halved.
// It fails if that number is 0.
func OddNext(m Map, n int) (int, int, bool) {
	next, ok := NextNumber(m, n)
	if !ok || !isOdd(n) {
		return 0, 0, false
	}
	return OddPart(next)
}

// FirstBelow returns the least number of steps, at least 1, behind which a number is less than n.
// It fails if there are none up to MaxSteps steps.
func FirstBelow(m Map, n int) (int, bool) {
	for i, at := range (walk{Map: m, at: n}).along(walk.step) {
		if at < n {
			return i, true
		}
	}
	return 0, false
}

// NegativeMap returns the map with Plus of the other sign: by it -n goes as n by m.
func NegativeMap(m Map) (Map, bool) {
	if !IsMap(m) {
		return Map{}, false
	}
	return Map{Times: m.Times, Plus: -m.Plus}, true
}

// SumOfPath returns the sum of the path of so many steps, if it is a number.
func SumOfPath(m Map, n int, steps int) (int, bool) {
	path, ok := walk{Map: m, at: n}.path(steps)
	sum := 0
	for _, at := range path {
		sum += at
	}
	if !ok || !isNumber(sum) {
		return 0, false
	}
	return sum, true
}

// MapText returns Times, x, and Plus with its sign.
func MapText(m Map) (string, bool) {
	if !IsMap(m) {
		return "", false
	}
	return strconv.Itoa(m.Times) + "x" + signed(m.Plus), true
}

func signed(n int) string {
	if n < 0 {
		return strconv.Itoa(n)
	}
	return "+" + strconv.Itoa(n)
}

// ParseMap returns the map with a MapText. It fails if there is none.
func ParseMap(s string) (Map, bool) {
	m := readMap(s)
	return m, m != Map{}
}

// readMap returns the zero Map, which is none, if no map has the text.
func readMap(s string) Map {
	times, plus, _ := strings.Cut(s, "x")
	m := Map{Times: readInt(times), Plus: readInt(plus)}
	// Texts such as 3x1 and 03x+1 are read as the same numbers, but are no MapText.
	if text, ok := MapText(m); !ok || text != s {
		return Map{}
	}
	return m
}

// readInt returns 0 if the text is no number.
func readInt(s string) int {
	n, err := strconv.Atoi(s)
	if err != nil {
		return 0
	}
	return n
}
