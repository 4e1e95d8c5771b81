package tests

import (
	"math"
	"slices"
	"testing"

	"loop.example/recordbatches/impl"
)

// edges are numbers at which the number of bytes or the range ends, worked out by hand from the document.
var edges = []struct {
	number, folded int
	bytes          []int
}{
	{0, 0, []int{0}},
	{-1, 1, []int{1}},
	{1, 2, []int{2}},
	{-2, 3, []int{3}},
	{2, 4, []int{4}},
	{-63, 125, []int{125}},
	{63, 126, []int{126}},
	{-64, 127, []int{127}},
	{64, 128, []int{128, 1}},
	{-65, 129, []int{129, 1}},
	{65, 130, []int{130, 1}},
	{150, 300, []int{172, 2}},
	{8191, 16382, []int{254, 127}},
	{-8192, 16383, []int{255, 127}},
	{8192, 16384, []int{128, 128, 1}},
	{-8193, 16385, []int{129, 128, 1}},
	{impl.VarMax - 1, 1999998, []int{254, 136, 122}},
	{-impl.VarMax, 1999999, []int{255, 136, 122}},
	{impl.VarMax, 2000000, []int{128, 137, 122}},
}

// beyond are numbers that are not in the range.
var beyond = []int{
	impl.VarMax + 1, -impl.VarMax - 1, 2 * impl.VarMax, -2 * impl.VarMax,
	math.MaxInt32, math.MinInt32, math.MaxInt - 1, math.MaxInt, math.MinInt + 1, math.MinInt,
}

// noBytes are numbers that are no bytes.
var noBytes = []int{-1, 256, -128, 128 + 256, math.MaxInt, math.MinInt}

// allNumbers does something with each number in the range, until a test has failed.
func allNumbers(t *testing.T, do func(n int)) {
	for n := -impl.VarMax; n <= impl.VarMax && !t.Failed(); n++ {
		do(n)
	}
}

// mustVarBytes returns the variable number of a number in the range.
func mustVarBytes(t *testing.T, n int) []int {
	bytes, ok := impl.VarBytes(n)
	if !ok {
		t.Fatalf("VarBytes(%d) failed", n)
	}
	return bytes
}

// wantNumber checks that VarFrom succeeds with a number and a place behind it.
func wantNumber(t *testing.T, bytes []int, at int, number int, next int) {
	if n, behind, ok := impl.VarFrom(bytes, at); !ok || n != number || behind != next {
		t.Errorf("VarFrom(%v, %d) = %d, %d, %v, want %d, %d, true", bytes, at, n, behind, ok, number, next)
	}
}

// wantNoNumber checks that VarFrom fails with zero values.
func wantNoNumber(t *testing.T, bytes []int, at int) {
	if n, behind, ok := impl.VarFrom(bytes, at); ok || n != 0 || behind != 0 {
		t.Errorf("VarFrom(%v, %d) = %d, %d, %v, want 0, 0, false", bytes, at, n, behind, ok)
	}
}

func TestVarMax(t *testing.T) {
	if impl.VarMax != 1000000 {
		t.Errorf("VarMax is %d", impl.VarMax)
	}
}

func TestEdges(t *testing.T) {
	for _, e := range edges {
		if got := impl.FoldNumber(e.number); got != e.folded {
			t.Errorf("FoldNumber(%d) = %d, want %d", e.number, got, e.folded)
		}
		if got := impl.UnfoldNumber(e.folded); got != e.number {
			t.Errorf("UnfoldNumber(%d) = %d, want %d", e.folded, got, e.number)
		}
		if got, ok := impl.VarBytes(e.number); !ok || !slices.Equal(got, e.bytes) {
			t.Errorf("VarBytes(%d) = %v, %v, want %v", e.number, got, ok, e.bytes)
		}
		if got := impl.VarSize(e.number); got != len(e.bytes) {
			t.Errorf("VarSize(%d) = %d, want %d", e.number, got, len(e.bytes))
		}
		wantNumber(t, e.bytes, 0, e.number, len(e.bytes))
	}
}

func TestNumbersBeyondTheRange(t *testing.T) {
	for _, n := range beyond {
		if got := impl.FoldNumber(n); got != -1 {
			t.Errorf("FoldNumber(%d) = %d, want -1", n, got)
		}
		if got, ok := impl.VarBytes(n); ok || len(got) != 0 {
			t.Errorf("VarBytes(%d) = %v, %v, want a failure", n, got, ok)
		}
		if got := impl.VarSize(n); got != -1 {
			t.Errorf("VarSize(%d) = %d, want -1", n, got)
		}
	}
}

func TestFoldedNumbersBeyondTheRange(t *testing.T) {
	for _, n := range []int{-1, -2, 2*impl.VarMax + 1, 2*impl.VarMax + 2, math.MaxInt32, math.MaxInt, math.MinInt} {
		if got := impl.UnfoldNumber(n); got != 0 {
			t.Errorf("UnfoldNumber(%d) = %d, want 0", n, got)
		}
	}
}

// Promise 1.
func TestFoldedNumberIsUnfolded(t *testing.T) {
	allNumbers(t, func(n int) {
		folded := impl.FoldNumber(n)
		if folded < 0 {
			t.Fatalf("FoldNumber(%d) = %d", n, folded)
		}
		if got := impl.UnfoldNumber(folded); got != n {
			t.Errorf("UnfoldNumber(FoldNumber(%d)) = %d", n, got)
		}
		if odd := folded%2 == 1; odd != (n < 0) {
			t.Errorf("FoldNumber(%d) = %d", n, folded)
		}
	})
}

// Promise 2.
func TestFoldedNumberIsAtMostTwice(t *testing.T) {
	allNumbers(t, func(n int) {
		if got := impl.FoldNumber(n); got > 2*max(n, -n) {
			t.Errorf("FoldNumber(%d) = %d", n, got)
		}
	})
}

// Promise 3.
func TestUnfoldedNumberIsFolded(t *testing.T) {
	for n := 0; n <= 2*impl.VarMax && !t.Failed(); n++ {
		if got := impl.FoldNumber(impl.UnfoldNumber(n)); got != n {
			t.Errorf("FoldNumber(UnfoldNumber(%d)) = %d", n, got)
		}
	}
}

// Promise 4.
func TestVariableNumberIsReadBack(t *testing.T) {
	allNumbers(t, func(n int) {
		bytes := mustVarBytes(t, n)
		wantNumber(t, bytes, 0, n, len(bytes))
	})
}

// Promise 5.
func TestVariableNumberHasFewBytes(t *testing.T) {
	allNumbers(t, func(n int) {
		bytes := mustVarBytes(t, n)
		if len(bytes) < 1 || len(bytes) > 3 {
			t.Fatalf("VarBytes(%d) = %v", n, bytes)
		}
		for i, b := range bytes {
			if b < 0 || b > 255 || (b >= 128) != (i < len(bytes)-1) {
				t.Errorf("VarBytes(%d) = %v", n, bytes)
			}
		}
	})
}

// Promise 6, for all numbers of up to three bytes, of which some are in no range or too long.
func TestReadNumberHasTheBytesItWasReadFrom(t *testing.T) {
	found := 0
	for code := 0; code < 1<<24 && !t.Failed(); code++ {
		bytes := []int{code & 255, code >> 8 & 255, code >> 16}
		n, next, ok := impl.VarFrom(bytes, 0)
		if !ok {
			continue
		}
		found++
		if got := mustVarBytes(t, n); next > len(bytes) || !slices.Equal(got, bytes[:next]) {
			t.Errorf("VarFrom(%v, 0) = %d, %d, but VarBytes is %v", bytes, n, next, got)
		}
	}
	// One byte leaves two others free, two leave one, and three none.
	if want := 128*65536 + (16384-128)*256 + (2*impl.VarMax + 1 - 16384); found != want && !t.Failed() {
		t.Errorf("VarFrom succeeds for %d of three bytes, want %d", found, want)
	}
}

func TestNumberIsReadAtAnyPlace(t *testing.T) {
	for _, e := range edges {
		for _, ahead := range [][]int{{}, {0}, {255}, {128, 128, 128, 128}} {
			for _, behind := range [][]int{{}, {0}, {1}, {255, 255}} {
				bytes := slices.Concat(ahead, e.bytes, behind)
				before := slices.Clone(bytes)
				wantNumber(t, bytes, len(ahead), e.number, len(ahead)+len(e.bytes))
				if !slices.Equal(bytes, before) {
					t.Errorf("VarFrom changed %v to %v", before, bytes)
				}
			}
		}
	}
}

// Promise 7.
func TestNumberWithoutItsLastByteIsNone(t *testing.T) {
	allNumbers(t, func(n int) {
		bytes := mustVarBytes(t, n)
		wantNoNumber(t, bytes[:len(bytes)-1], 0)
		ahead := append([]int{7}, bytes...)
		wantNoNumber(t, ahead[:len(ahead)-1], 1)
	})
}

func TestBytesThatEndTooEarly(t *testing.T) {
	for _, bytes := range [][]int{nil, {}, {128}, {255}, {128, 128}, {255, 255}, {128, 137}} {
		wantNoNumber(t, bytes, 0)
		wantNoNumber(t, append([]int{1}, bytes...), 1)
	}
}

func TestPlacesThatAreNone(t *testing.T) {
	for _, bytes := range [][]int{nil, {0}, {128, 1}, {1, 2, 3, 4}} {
		for _, at := range []int{-1, -2, math.MinInt, len(bytes), len(bytes) + 1, math.MaxInt} {
			wantNoNumber(t, bytes, at)
		}
	}
}

func TestNumbersThatAreNoBytes(t *testing.T) {
	for _, e := range edges {
		for _, bad := range noBytes {
			bytes := slices.Concat([]int{3}, e.bytes, []int{5})
			for i := range bytes {
				spoilt := slices.Clone(bytes)
				spoilt[i] = bad
				wantNoNumber(t, spoilt, 1)
			}
		}
	}
}

// One byte more than needed: the same number with a last byte that adds nothing to it.
func TestNumbersWithOneByteMore(t *testing.T) {
	allNumbers(t, func(n int) {
		longer := mustVarBytes(t, n)
		longer[len(longer)-1] |= 128
		longer = append(longer, 0)
		wantNoNumber(t, longer, 0)
	})
	for _, bytes := range [][]int{{128, 0}, {128, 128, 0}, {128, 128, 128, 0}, {129, 128, 0}, {128, 137, 250, 0}, {128, 128, 128, 128, 0}} {
		wantNoNumber(t, bytes, 0)
		wantNoNumber(t, append([]int{0}, bytes...), 1)
	}
}

func TestNumbersInBytesBeyondTheRange(t *testing.T) {
	for folded := 2*impl.VarMax + 1; folded < 1<<21; folded++ {
		wantNoNumber(t, []int{folded&127 | 128, folded>>7&127 | 128, folded >> 14}, 0)
	}
	for _, bytes := range [][]int{{128, 128, 128, 1}, {129, 128, 128, 1}, {255, 255, 255, 127}, {128, 128, 128, 128, 1}} {
		wantNoNumber(t, bytes, 0)
	}
	for many := range 80 {
		wantNoNumber(t, append(slices.Repeat([]int{128}, 3+many), 1), 0)
		wantNoNumber(t, append(slices.Repeat([]int{255}, 3+many), 1), 0)
	}
}

// Promise 8.
func TestSizeIsTheNumberOfBytes(t *testing.T) {
	allNumbers(t, func(n int) {
		size := impl.VarSize(n)
		if got := len(mustVarBytes(t, n)); got != size {
			t.Errorf("VarSize(%d) = %d, but VarBytes has %d", n, size, got)
		}
		if other := len(mustVarBytes(t, -n)); other < size-1 || other > size+1 {
			t.Errorf("VarSize(%d) = %d, but VarBytes(%d) has %d", n, size, -n, other)
		}
	})
}

// Promise 9.
func TestOtherSignHasOtherBytes(t *testing.T) {
	allNumbers(t, func(n int) {
		if n != 0 && slices.Equal(mustVarBytes(t, n), mustVarBytes(t, -n)) {
			t.Errorf("VarBytes(%d) and VarBytes(%d) are the same", n, -n)
		}
	})
}

func TestResultsShareNoMemory(t *testing.T) {
	first := mustVarBytes(t, 64)
	second := mustVarBytes(t, 64)
	for i := range first {
		first[i] = 0
	}
	_ = append(first[:1], 9, 9)
	if want := []int{128, 1}; !slices.Equal(second, want) || !slices.Equal(mustVarBytes(t, 64), want) {
		t.Errorf("VarBytes(64) was changed from outside to %v", second)
	}
}
