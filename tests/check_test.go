package tests

import (
	"math"
	"reflect"
	"slices"
	"testing"

	"loop.example/g01293/impl"
)

// extremes are numbers at and beyond every limit, for arguments that may be any.
var extremes = []int{
	math.MinInt, math.MinInt + 1, -impl.MaxNumber - 1, -impl.MaxNumber, -1001, -10, -9, -3, -2, -1,
	0, 1, 2, 3, 9, 10, 11, impl.MaxPath, impl.MaxPath + 1, impl.MaxSteps, impl.MaxSteps + 1,
	impl.MaxNumber, impl.MaxNumber + 1, math.MaxInt - 1, math.MaxInt,
}

// results holds what a call returns: results(f(x)) takes all of its results.
func results(values ...any) []any { return values }

// isZero takes a nil slice and an empty one as the same value.
func isZero(value any) bool {
	v := reflect.ValueOf(value)
	if v.Kind() == reflect.Slice {
		return v.Len() == 0
	}
	return v.IsZero()
}

// hasFailed reports whether the last result is false and all others are zero.
func hasFailed(got []any) bool {
	for _, value := range got {
		if !isZero(value) {
			return false
		}
	}
	return true
}

// wantFailed requires that each of the calls failed with zero results.
func wantFailed(t *testing.T, calls map[string][]any) {
	t.Helper()
	for name, got := range calls {
		if !hasFailed(got) {
			t.Errorf("%s: got %v, want a failed call with zero results", name, got)
		}
	}
}

// wantResults requires that a call succeeded with these results.
func wantResults(t *testing.T, name string, got []any, want ...any) {
	t.Helper()
	if want = append(want, true); !reflect.DeepEqual(got, want) {
		t.Errorf("%s: got %v, want %v", name, got, want)
	}
}

// wantNoHalfFailure requires that a call, if it failed, returned zeros besides.
func wantNoHalfFailure(t *testing.T, name string, got []any) {
	t.Helper()
	if got[len(got)-1] == false && !hasFailed(got) {
		t.Errorf("%s: failed, but with results: %v", name, got)
	}
}

// wantNewLists requires that lists which calls return are changed by no change of lists which they returned before.
func wantNewLists(t *testing.T, lists func() map[string][]int) {
	t.Helper()
	changed, want := lists(), lists()
	for _, list := range changed {
		for i := range list {
			list[i] = -99
		}
	}
	for name, list := range lists() {
		if len(list) == 0 || !slices.Equal(list, want[name]) {
			t.Error(name, list, "want", want[name])
		}
	}
}

// wantOwnRows requires that rows which a call returns share no memory with each other, nor with those which it returns later.
func wantOwnRows(t *testing.T, name string, call func() ([][]int, bool)) {
	t.Helper()
	rows, _ := call()
	want, _ := call()
	if len(rows) < 2 {
		t.Error(name, rows, "are too few")
	}
	for i, row := range rows {
		// What is appended would be written behind the row, were there room.
		_ = append(row, -99, -99, -99)
		for j := range row {
			row[j] = -99
		}
		for j, other := range rows {
			isChanged := j <= i
			if isChanged != slices.Contains(other, -99) || !isChanged && !slices.Equal(other, want[j]) {
				t.Error(name, rows, "with a change of", i)
			}
		}
	}
	_ = append(rows, []int{-99})
	if again, ok := call(); !ok || !slices.EqualFunc(again, want, slices.Equal[[]int]) {
		t.Error(name, again, ok, "want", want)
	}
}
