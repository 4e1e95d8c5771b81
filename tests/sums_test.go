package tests

import (
	"math"
	"slices"
	"strings"
	"testing"

	"loop.example/recordbatches/impl"
)

// integers are numbers without a sign and their bytes, worked out by hand from the document.
var integers = []struct {
	number int
	bytes  []int
}{
	{0, []int{0}},
	{1, []int{1}},
	{127, []int{127}},
	{128, []int{128}},
	{254, []int{254}},
	{255, []int{255}},
	{0, []int{0, 0}},
	{1, []int{0, 1}},
	{255, []int{0, 255}},
	{256, []int{1, 0}},
	{257, []int{1, 1}},
	{258, []int{1, 2}},
	{513, []int{2, 1}},
	{32768, []int{128, 0}},
	{65280, []int{255, 0}},
	{65534, []int{255, 254}},
	{65535, []int{255, 255}},
	{0, []int{0, 0, 0}},
	{255, []int{0, 0, 255}},
	{256, []int{0, 1, 0}},
	{65535, []int{0, 255, 255}},
	{65536, []int{1, 0, 0}},
	{66051, []int{1, 2, 3}},
	{197121, []int{3, 2, 1}},
	{99999, []int{1, 134, 159}},
	{8388608, []int{128, 0, 0}},
	{16711680, []int{255, 0, 0}},
	{16777214, []int{255, 255, 254}},
	{16777215, []int{255, 255, 255}},
}

// sums are bytes and their sums; those with 252 ahead are at the place where a sum passes SumWrap.
var sums = []struct {
	bytes []int
	sum   int
}{
	{nil, 1},
	{[]int{}, 1},
	{[]int{0}, 257},
	{[]int{1}, 258},
	{[]int{5}, 262},
	{[]int{254}, 511},
	{[]int{255}, 512},
	{[]int{0, 0}, 528},
	{[]int{0, 0, 0}, 4654},
	{[]int{252, 228}, 65520},
	{[]int{252, 229}, 0},
	{[]int{252, 230}, 1},
	{[]int{255, 255}, 797},
	{[]int{255, 255, 255}, 8521},
	{[]int{1, 2, 3}, 5699},
	{[]int{3, 2, 1}, 6753},
	{slices.Repeat([]int{0}, 200), 931},
	{slices.Repeat([]int{255}, 200), 51510},
}

// texts are bytes and their digits of base 16.
var texts = []struct {
	bytes []int
	text  string
}{
	{nil, ""},
	{[]int{}, ""},
	{[]int{0}, "00"},
	{[]int{9}, "09"},
	{[]int{10}, "0a"},
	{[]int{15}, "0f"},
	{[]int{16}, "10"},
	{[]int{159}, "9f"},
	{[]int{160}, "a0"},
	{[]int{255}, "ff"},
	{[]int{1, 255}, "01ff"},
	{[]int{1, 35, 69, 103, 137, 171, 205, 239}, "0123456789abcdef"},
	{[]int{0, 0, 0}, "000000"},
}

// rows are bytes of several lengths: with all bytes, with few different ones, and with great ones only.
func rows() [][]int {
	result := [][]int{nil, {0}, {255}, {0, 0}, {255, 255}, {254, 255}, {255, 254}, {0, 255}, {252, 229}, {252, 230}}
	for many := 3; many <= 260; many += 37 {
		row, few, great := make([]int, many), make([]int, many), make([]int, many)
		for i := range many {
			row[i] = (i*i*7 + i*31 + many) % 256
			few[i] = i * i % 3
			great[i] = 255 - i%2
		}
		result = append(result, row, few, great)
	}
	return result
}

// someIntegers does something with numbers of so many bytes and with those at the edges, until a test has failed.
func someIntegers(t *testing.T, many int, do func(n int)) {
	step := 1
	if many == 3 {
		step = 97
	}
	for n := 0; n < 1<<(8*many) && !t.Failed(); n += step {
		do(n)
	}
	for _, n := range []int{0, 1, 255, 256, 257, 65535, 65536, 65537, 16777214, 16777215} {
		if n < 1<<(8*many) {
			do(n)
		}
	}
}

// mustIntBytes returns a number of so many bytes.
func mustIntBytes(t *testing.T, n int, many int) []int {
	bytes, ok := impl.IntBytes(n, many)
	if !ok {
		t.Fatalf("IntBytes(%d, %d) failed", n, many)
	}
	return bytes
}

// wantNoIntBytes checks that IntBytes fails with zero values.
func wantNoIntBytes(t *testing.T, n int, many int) {
	if got, ok := impl.IntBytes(n, many); ok || len(got) != 0 {
		t.Errorf("IntBytes(%d, %d) = %v, %v, want none, false", n, many, got, ok)
	}
}

// wantInt checks that IntFrom succeeds with a number.
func wantInt(t *testing.T, bytes []int, at int, many int, number int) {
	if n, ok := impl.IntFrom(bytes, at, many); !ok || n != number {
		t.Errorf("IntFrom(%v, %d, %d) = %d, %v, want %d, true", bytes, at, many, n, ok, number)
	}
}

// wantNoInt checks that IntFrom fails with zero values.
func wantNoInt(t *testing.T, bytes []int, at int, many int) {
	if n, ok := impl.IntFrom(bytes, at, many); ok || n != 0 {
		t.Errorf("IntFrom(%v, %d, %d) = %d, %v, want 0, false", bytes, at, many, n, ok)
	}
}

// mustSum returns the sum of bytes.
func mustSum(t *testing.T, bytes []int) int {
	sum := impl.SumOf(bytes)
	if sum < 0 {
		t.Fatalf("SumOf(%v) = %d", bytes, sum)
	}
	return sum
}

func TestSumWrap(t *testing.T) {
	if impl.SumWrap != 65521 {
		t.Errorf("SumWrap is %d", impl.SumWrap)
	}
}

// Promise 10.
func TestIntegersAtTheEdges(t *testing.T) {
	for _, e := range integers {
		if got, ok := impl.IntBytes(e.number, len(e.bytes)); !ok || !slices.Equal(got, e.bytes) {
			t.Errorf("IntBytes(%d, %d) = %v, %v, want %v", e.number, len(e.bytes), got, ok, e.bytes)
		}
		wantInt(t, e.bytes, 0, len(e.bytes), e.number)
	}
}

// Promise 10.
func TestIntegerIsReadBack(t *testing.T) {
	for many := 1; many <= 3; many++ {
		someIntegers(t, many, func(n int) {
			bytes := mustIntBytes(t, n, many)
			if len(bytes) != many {
				t.Fatalf("IntBytes(%d, %d) = %v", n, many, bytes)
			}
			wantInt(t, bytes, 0, many, n)
		})
	}
}

// Promise 11.
func TestFirstByteIsTheGreatestPart(t *testing.T) {
	powers := []int{1, 256, 65536}
	for many := 1; many <= 3; many++ {
		someIntegers(t, many, func(n int) {
			if got := mustIntBytes(t, n, many)[0]; got != n/powers[many-1] {
				t.Errorf("IntBytes(%d, %d) begins with %d", n, many, got)
			}
		})
	}
}

// Promise 12.
func TestReadIntegerHasTheBytesItWasReadFrom(t *testing.T) {
	for _, row := range rows() {
		before := slices.Clone(row)
		for many := 1; many <= 3; many++ {
			for at := 0; at+many <= len(row); at++ {
				n, ok := impl.IntFrom(row, at, many)
				if !ok {
					t.Fatalf("IntFrom(%v, %d, %d) failed", row, at, many)
				}
				if got := mustIntBytes(t, n, many); !slices.Equal(got, row[at:at+many]) {
					t.Errorf("IntFrom(%v, %d, %d) = %d, but IntBytes is %v", row, at, many, n, got)
				}
			}
		}
		if !slices.Equal(row, before) {
			t.Errorf("IntFrom changed %v to %v", before, row)
		}
	}
}

func TestIntegerIsReadAtAnyPlace(t *testing.T) {
	for _, e := range integers {
		for _, ahead := range [][]int{{}, {0}, {255}, {1, 2, 3, 4}} {
			for _, behind := range [][]int{{}, {0}, {1}, {255, 255}} {
				wantInt(t, slices.Concat(ahead, e.bytes, behind), len(ahead), len(e.bytes), e.number)
			}
		}
	}
}

// Promise 13, and the last place at which so many bytes are left.
func TestIntegerBehindTheLastPlaceIsNone(t *testing.T) {
	for _, row := range rows() {
		for many := 1; many <= 3; many++ {
			last := len(row) - many
			if last >= 0 {
				want := 0
				for _, b := range row[last:] {
					want = want*256 + b
				}
				wantInt(t, row, last, many, want)
			}
			for at := max(last+1, 0); at <= len(row)+1; at++ {
				wantNoInt(t, row, at, many)
			}
		}
	}
}

func TestIntegerHasNoBytesOfTheCapacity(t *testing.T) {
	row := []int{1, 2, 3, 4, 5, 6}
	for many := 1; many <= 3; many++ {
		for length := range 4 {
			wantNoInt(t, row[:length], length-many+1, many)
			wantNoInt(t, row[:length], length, many)
		}
	}
}

func TestPlacesOfIntegersThatAreNone(t *testing.T) {
	for _, row := range [][]int{nil, {7}, {1, 2}, {1, 2, 3}, {1, 2, 3, 4}} {
		for many := 1; many <= 3; many++ {
			for _, at := range []int{-1, -2, -3, math.MinInt, math.MinInt + 1, len(row), len(row) + 1, math.MaxInt - 1, math.MaxInt} {
				wantNoInt(t, row, at, many)
			}
		}
	}
}

func TestNumbersOfBytesBeyondTheRange(t *testing.T) {
	row := []int{1, 2, 3, 4, 5, 6, 7, 8, 9, 10}
	for _, many := range []int{0, 4, 5, 8, 9, -1, -2, -8, math.MaxInt32, math.MaxInt, math.MinInt} {
		for _, n := range []int{0, 1, 255, 16777215, 16777216, math.MaxInt, -1} {
			wantNoIntBytes(t, n, many)
		}
		for _, at := range []int{0, 1, 6, 9, 10, 11, -1, math.MaxInt, math.MinInt} {
			wantNoInt(t, row, at, many)
			wantNoInt(t, nil, at, many)
		}
	}
}

func TestNumbersThatNeedMoreBytes(t *testing.T) {
	for many, first := range map[int]int{1: 256, 2: 65536, 3: 16777216} {
		for _, n := range []int{first, first + 1, 2 * first, 256 * first, 1 << 32, 1 << 40, 1 << 56, math.MaxInt - 1, math.MaxInt} {
			wantNoIntBytes(t, n, many)
		}
		for _, n := range []int{-1, -2, -255, -256, -first, math.MinInt + 1, math.MinInt} {
			wantNoIntBytes(t, n, many)
		}
	}
}

// Promise 18.
func TestGreatestIntegerHasGreatestBytesOnly(t *testing.T) {
	for many, greatest := range map[int]int{1: 255, 2: 65535, 3: 16777215} {
		if got := mustIntBytes(t, greatest, many); !slices.Equal(got, slices.Repeat([]int{255}, many)) {
			t.Errorf("IntBytes(%d, %d) = %v", greatest, many, got)
		}
		wantNoIntBytes(t, greatest+1, many)
	}
}

// Numbers that are no bytes, ahead of the place, at it, and up to the last one behind it.
func TestIntegersOfNumbersThatAreNoBytes(t *testing.T) {
	for _, bad := range noBytes {
		for many := 1; many <= 3; many++ {
			for i := range 8 {
				row := []int{9, 8, 7, 6, 5, 4, 3, 2}
				row[i] = bad
				for at := 0; at <= len(row); at++ {
					wantNoInt(t, row, at, many)
				}
			}
		}
	}
}

// Promise 14.
func TestSumsAtTheEdges(t *testing.T) {
	for _, e := range sums {
		if got := impl.SumOf(e.bytes); got != e.sum {
			t.Errorf("SumOf(%v) = %d, want %d", e.bytes, got, e.sum)
		}
	}
}

// Promise 14, for all two bytes.
func TestSumIsLessThanSumWrap(t *testing.T) {
	for a := range 256 {
		for b := range 256 {
			got := mustSum(t, []int{a, b})
			if got >= 65521 || got != ((257+a)*257+b)%65521 {
				t.Errorf("SumOf of %d and %d is %d", a, b, got)
			}
		}
	}
	for _, row := range rows() {
		if got := mustSum(t, row); got >= 65521 {
			t.Errorf("SumOf(%v) = %d", row, got)
		}
	}
}

func TestSumGoesOnWithFurtherBytes(t *testing.T) {
	for _, row := range rows() {
		for i := range row {
			want := (mustSum(t, row[:i])*257 + row[i]) % 65521
			if got := mustSum(t, row[:i+1]); got != want {
				t.Errorf("SumOf(%v) = %d, want %d", row[:i+1], got, want)
			}
		}
	}
}

// Promise 15.
func TestSumTellsAnotherByte(t *testing.T) {
	for _, row := range rows() {
		sum := mustSum(t, row)
		for i, b := range row {
			other := slices.Clone(row)
			other[i] = b + 1
			if b == 255 {
				other[i] = 254
			}
			if mustSum(t, other) == sum {
				t.Errorf("SumOf(%v) is the same with %d at %d", row, other[i], i)
			}
		}
	}
}

// Promise 16.
func TestSumTellsExchangedNeighbours(t *testing.T) {
	for _, row := range rows() {
		sum := mustSum(t, row)
		for i := 1; i < len(row); i++ {
			if row[i-1] == row[i] {
				continue
			}
			other := slices.Clone(row)
			other[i-1], other[i] = row[i], row[i-1]
			if mustSum(t, other) == sum {
				t.Errorf("SumOf(%v) is the same with %d and %d exchanged", row, i-1, i)
			}
		}
	}
}

func TestTextsAtTheEdges(t *testing.T) {
	for _, e := range texts {
		if got := impl.BytesText(e.bytes); got != e.text {
			t.Errorf("BytesText(%v) = %q, want %q", e.bytes, got, e.text)
		}
	}
}

// Promise 17.
func TestTextIsThatOfItsParts(t *testing.T) {
	for _, row := range rows() {
		whole := impl.BytesText(row)
		if len(whole) != 2*len(row) {
			t.Fatalf("BytesText(%v) = %q", row, whole)
		}
		for i := range len(row) + 1 {
			if got := impl.BytesText(row[:i]) + impl.BytesText(row[i:]); got != whole {
				t.Errorf("BytesText(%v) = %q, but that of its parts at %d is %q", row, whole, i, got)
			}
		}
	}
}

func TestTextOfEachByte(t *testing.T) {
	const digits = "0123456789abcdef"
	for b := range 256 {
		got := impl.BytesText([]int{b})
		if len(got) != 2 || strings.IndexByte(digits, got[0])*16+strings.IndexByte(digits, got[1]) != b {
			t.Errorf("BytesText of %d is %q", b, got)
		}
	}
}

func TestSumsAndTextsOfNumbersThatAreNoBytes(t *testing.T) {
	for _, bad := range noBytes {
		for many := 1; many <= 5; many++ {
			for i := range many {
				row := []int{1, 22, 255, 0, 7}[:many]
				row[i] = bad
				if got := impl.SumOf(row); got != -1 {
					t.Errorf("SumOf(%v) = %d, want -1", row, got)
				}
				if got := impl.BytesText(row); got != "" {
					t.Errorf("BytesText(%v) = %q, want none", row, got)
				}
			}
		}
	}
}

func TestSumsAndTextsChangeNoArgument(t *testing.T) {
	for _, row := range rows() {
		before := slices.Clone(row)
		sum, text := impl.SumOf(row), impl.BytesText(row)
		if !slices.Equal(row, before) {
			t.Errorf("%v was changed to %v", before, row)
		}
		if impl.SumOf(row) != sum || impl.BytesText(row) != text {
			t.Errorf("the sum or the text of %v is another one the second time", row)
		}
	}
}

func TestBytesOfIntegersShareNoMemory(t *testing.T) {
	for many := 1; many <= 3; many++ {
		first := mustIntBytes(t, 200, many)
		second := mustIntBytes(t, 200, many)
		for i := range first {
			first[i] = 9
		}
		_ = append(first[:0], 7, 7, 7)
		want := slices.Concat(make([]int, many-1), []int{200})
		if !slices.Equal(second, want) || !slices.Equal(mustIntBytes(t, 200, many), want) {
			t.Errorf("IntBytes(200, %d) was changed from outside to %v", many, second)
		}
	}
}
