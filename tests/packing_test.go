package tests

import (
	"math/rand/v2"
	"slices"
	"testing"

	"loop.example/recordbatches/impl"
)

// upTo are bytes that are all different, from one on and less than another one.
func upTo(from, to int) []int {
	result := []int{}
	for b := from; b < to; b++ {
		result = append(result, b)
	}
	return result
}

// packings are bytes and their packed form, worked out by hand from the document.
var packings = []struct {
	why           string
	bytes, packed []int
}{
	{"none", nil, nil},
	{"one", []int{5}, []int{0, 5}},
	{"two", []int{1, 255}, []int{1, 1, 255}},
	{"three that could not yet match", []int{7, 7, 7}, []int{2, 7, 7, 7}},
	{"a match of three that overlaps itself", []int{7, 7, 7, 7}, []int{0, 7, 64, 1}},
	{"60 times the same", slices.Repeat([]int{9}, 60), []int{0, 9, 120, 1}},
	{"a match of 65", slices.Repeat([]int{9}, 66), []int{0, 9, 126, 1}},
	{"a match of 66", slices.Repeat([]int{9}, 67), []int{0, 9, 127, 1}},
	{"one behind a match of 66", slices.Repeat([]int{9}, 68), []int{0, 9, 127, 1, 0, 9}},
	{"two behind a match of 66", slices.Repeat([]int{9}, 69), []int{0, 9, 127, 1, 1, 9, 9}},
	{"three behind a match of 66", slices.Repeat([]int{9}, 70), []int{0, 9, 127, 1, 64, 1}},
	{"200 times the same", slices.Repeat([]int{9}, 200), []int{0, 9, 127, 1, 127, 1, 127, 1, 0, 9}},
	{"a match that repeats what it repeats", []int{1, 2, 3, 1, 2, 3, 1, 2, 3, 9}, []int{2, 1, 2, 3, 67, 3, 0, 9}},
	{"two by two", []int{1, 2, 1, 2, 1, 2, 1}, []int{1, 1, 2, 66, 2}},
	{"a match of two", []int{1, 2, 9, 1, 2, 8}, []int{5, 1, 2, 9, 1, 2, 8}},
	{"a match of two at the end", []int{1, 2, 9, 1, 2}, []int{4, 1, 2, 9, 1, 2}},
	{"a match of three", []int{1, 2, 3, 9, 1, 2, 3, 8}, []int{3, 1, 2, 3, 9, 64, 4, 0, 8}},
	{"the nearest one of several", []int{1, 2, 3, 9, 1, 2, 3, 8, 1, 2, 3}, []int{3, 1, 2, 3, 9, 64, 4, 0, 8, 64, 4}},
	{"the nearest one of several that overlap", []int{7, 7, 7, 7, 7, 7, 8, 7, 7, 7}, []int{0, 7, 66, 1, 0, 8, 64, 4}},
	{"a longer one that is further", []int{1, 2, 3, 4, 9, 1, 2, 3, 8, 1, 2, 3, 4}, []int{4, 1, 2, 3, 4, 9, 64, 5, 0, 8, 65, 9}},
	{"a longer one that is nearer", []int{1, 2, 3, 9, 1, 2, 3, 4, 8, 1, 2, 3, 4}, []int{3, 1, 2, 3, 9, 64, 4, 1, 4, 8, 65, 5}},
	{"a short one now, and not a longer one behind it", []int{1, 2, 3, 7, 2, 3, 4, 5, 8, 1, 2, 3, 4, 5}, []int{8, 1, 2, 3, 7, 2, 3, 4, 5, 8, 64, 9, 1, 4, 5}},
	{"two matches side by side", []int{1, 2, 3, 4, 5, 6, 0, 4, 5, 6, 1, 2, 3}, []int{6, 1, 2, 3, 4, 5, 6, 0, 64, 4, 64, 10}},
	{"one byte that ends a match", []int{1, 2, 3, 4, 5, 0, 1, 2, 3, 4, 6}, []int{5, 1, 2, 3, 4, 5, 0, 65, 6, 0, 6}},
	{"63 without a match", upTo(0, 63), slices.Concat([]int{62}, upTo(0, 63))},
	{"64 without a match", upTo(0, 64), slices.Concat([]int{63}, upTo(0, 64))},
	{"65 without a match", upTo(0, 65), slices.Concat([]int{63}, upTo(0, 64), []int{0, 64})},
	{"128 without a match", upTo(0, 128), slices.Concat([]int{63}, upTo(0, 64), []int{63}, upTo(64, 128))},
	{"200 without a match", upTo(56, 256), slices.Concat([]int{63}, upTo(56, 120), []int{63}, upTo(120, 184), []int{63}, upTo(184, 248), []int{7}, upTo(248, 256))},
	{"65 between matches, of which one begins in the other", slices.Concat([]int{0, 0, 0, 0}, upTo(1, 66), []int{0, 0, 0}),
		slices.Concat([]int{0, 0, 64, 1, 63}, upTo(1, 65), []int{0, 65, 64, 68})},
	{"64 between matches", slices.Concat([]int{0, 0, 0, 0}, upTo(1, 65), []int{0, 0, 0, 1}),
		slices.Concat([]int{0, 0, 64, 1, 63}, upTo(1, 65), []int{65, 67})},
	{"the furthest match", slices.Concat(upTo(0, 197), []int{0, 1, 2}),
		slices.Concat([]int{63}, upTo(0, 64), []int{63}, upTo(64, 128), []int{63}, upTo(128, 192), []int{4}, upTo(192, 197), []int{64, 197})},
}

// unpackings are other packed forms than PackBytes makes, and their bytes.
var unpackings = []struct {
	why           string
	packed, bytes []int
}{
	{"each byte on its own", []int{0, 1, 0, 2, 0, 3}, []int{1, 2, 3}},
	{"a match as it is", []int{3, 7, 7, 7, 7}, []int{7, 7, 7, 7}},
	{"a match that repeats itself", []int{2, 1, 2, 3, 64, 2}, []int{1, 2, 3, 2, 3, 2}},
	{"a match behind a match", []int{0, 5, 64, 1, 65, 4}, slices.Repeat([]int{5}, 8)},
	{"a match of 66 of two", []int{1, 1, 2, 127, 2}, slices.Repeat([]int{1, 2}, 34)},
	{"a match that is further than needed", []int{7, 1, 2, 3, 4, 1, 2, 3, 4, 65, 8}, []int{1, 2, 3, 4, 1, 2, 3, 4, 1, 2, 3, 4}},
	{"the furthest match", slices.Concat([]int{63}, upTo(0, 64), []int{63}, upTo(64, 128), []int{63}, upTo(128, 192), []int{4}, upTo(192, 197), []int{64, 197}),
		slices.Concat(upTo(0, 197), []int{0, 1, 2})},
	{"200 in 400", slices.Repeat([]int{0, 6}, 200), slices.Repeat([]int{6}, 200)},
	{"200 in few", []int{1, 3, 3, 127, 1, 127, 1, 127, 1}, slices.Repeat([]int{3}, 200)},
}

// noPackings are bytes that are no packed form, each for one reason.
var noPackings = []struct {
	why   string
	bytes []int
}{
	{"no byte follows", []int{0}},
	{"one of two follows", []int{1, 5}},
	{"one of two follows a piece", []int{0, 9, 1, 5}},
	{"63 of 64 follow", slices.Concat([]int{63}, upTo(0, 63))},
	{"the distance is missing", []int{0, 9, 64}},
	{"the distance of the longest match is missing", []int{0, 9, 127}},
	{"a distance at the beginning", []int{64, 1}},
	{"a distance of 0", []int{2, 1, 2, 3, 64, 0}},
	{"a distance of 0 at the beginning", []int{64, 0}},
	{"a distance ahead of the beginning", []int{2, 1, 2, 3, 64, 4}},
	{"a distance ahead of the beginning, behind a match", []int{0, 1, 64, 1, 64, 5}},
	{"a distance of 255", []int{2, 1, 2, 3, 64, 255}},
	{"a first byte of 128", []int{0, 9, 128, 1}},
	{"a first byte of 128 at the beginning", []int{128, 1, 2}},
	{"a first byte of 129", []int{0, 9, 129, 1, 5, 5}},
	{"a first byte of 255", []int{0, 9, 255, 1}},
	{"201 in 402", slices.Repeat([]int{0, 6}, 201)},
	{"201 in few", []int{2, 3, 3, 3, 127, 1, 127, 1, 127, 1}},
	{"201 by a match", []int{0, 3, 127, 1, 127, 1, 127, 1, 64, 1}},
	{"one too many behind 200", []int{1, 3, 3, 127, 1, 127, 1, 127, 1, 0, 3}},
}

// someBytes are bytes of all lengths up to PackMax, with few different ones and with many.
func someBytes() [][]int {
	result := [][]int{nil, slices.Repeat([]int{0}, 200), upTo(56, 256)}
	random := rand.New(rand.NewPCG(4, 27))
	for many := range 201 {
		for _, kinds := range []int{1, 2, 3, 5, 20, 256} {
			list := make([]int, many)
			for i := range list {
				list[i] = random.IntN(kinds)
			}
			result = append(result, list)
		}
		list := []int{}
		for len(list) < many {
			list = append(list, upTo(0, 1+random.IntN(80))...)
		}
		result = append(result, list[:many])
	}
	return result
}

// randomForm is a packed form of at most so many pieces.
func randomForm(random *rand.Rand, pieces int) []int {
	form, many := []int{}, 0
	for range random.IntN(pieces + 1) {
		if many > 0 && random.IntN(2) == 0 {
			code := 64 + random.IntN(64)
			form = append(form, code, 1+random.IntN(many))
			many += code - 61
			continue
		}
		plain := make([]int, 1+random.IntN(20))
		for i := range plain {
			plain[i] = random.IntN(3)
		}
		form = append(append(form, len(plain)-1), plain...)
		many += len(plain)
	}
	return form
}

// mustPack returns the packed form of bytes.
func mustPack(t *testing.T, bytes []int) []int {
	t.Helper()
	packed, ok := impl.PackBytes(bytes)
	if !ok {
		t.Fatalf("PackBytes(%v) failed", bytes)
	}
	return packed
}

// wantUnpacked checks that UnpackBytes succeeds with bytes.
func wantUnpacked(t *testing.T, packed []int, bytes []int) {
	t.Helper()
	if got, ok := impl.UnpackBytes(packed); !ok || !slices.Equal(got, bytes) {
		t.Errorf("UnpackBytes(%v) = %v, %v, want %v", packed, got, ok, bytes)
	}
}

// wantNotPacked checks that PackBytes fails with zero values, and PackGain with it.
func wantNotPacked(t *testing.T, bytes []int) {
	t.Helper()
	if got, ok := impl.PackBytes(bytes); ok || len(got) != 0 {
		t.Errorf("PackBytes(%v) = %v, %v, want none, false", bytes, got, ok)
	}
	if got := impl.PackGain(bytes); got != 0 {
		t.Errorf("PackGain(%v) = %d, want 0", bytes, got)
	}
}

// wantNotUnpacked checks that UnpackBytes fails with zero values.
func wantNotUnpacked(t *testing.T, why string, bytes []int) {
	t.Helper()
	if got, ok := impl.UnpackBytes(bytes); ok || len(got) != 0 {
		t.Errorf("%s: UnpackBytes(%v) = %v, %v, want none, false", why, bytes, got, ok)
	}
}

// longestMatch returns the longest match at a place, the nearest one of several, found by looking at all places ahead of it.
func longestMatch(bytes []int, at int) (back, many int) {
	for from := at - 1; from >= 0; from-- {
		n := 0
		for n < 66 && at+n < len(bytes) && bytes[from+n] == bytes[at+n] {
			n++
		}
		if n >= 3 && n > many {
			back, many = at-from, n
		}
	}
	return back, many
}

// packedPlainly returns the packed form of bytes as the document tells it, without a map.
func packedPlainly(bytes []int) []int {
	form, plain := []int{}, []int{}
	tell := func() {
		for piece := range slices.Chunk(plain, 64) {
			form = append(append(form, len(piece)-1), piece...)
		}
		plain = nil
	}
	for at := 0; at < len(bytes); {
		back, many := longestMatch(bytes, at)
		if many == 0 {
			plain = append(plain, bytes[at])
			at++
			continue
		}
		tell()
		form = append(form, 61+many, back)
		at += many
	}
	tell()
	return form
}

func TestPackMax(t *testing.T) {
	if impl.PackMax != 200 {
		t.Errorf("PackMax is %d", impl.PackMax)
	}
}

func TestPackingsAtTheEdges(t *testing.T) {
	for _, e := range packings {
		if got, ok := impl.PackBytes(e.bytes); !ok || !slices.Equal(got, e.packed) {
			t.Errorf("%s: PackBytes(%v) = %v, %v, want %v", e.why, e.bytes, got, ok, e.packed)
		}
		if got := impl.PackGain(e.bytes); got != len(e.bytes)-len(e.packed) {
			t.Errorf("%s: PackGain(%v) = %d", e.why, e.bytes, got)
		}
		wantUnpacked(t, e.packed, e.bytes)
	}
}

func TestOtherPackedForms(t *testing.T) {
	for _, e := range unpackings {
		before := slices.Clone(e.packed)
		wantUnpacked(t, e.packed, e.bytes)
		if !slices.Equal(e.packed, before) {
			t.Errorf("%s: UnpackBytes changed %v to %v", e.why, before, e.packed)
		}
	}
}

// Promise 27.
func TestPackedBytesAreUnpacked(t *testing.T) {
	for _, list := range someBytes() {
		before := slices.Clone(list)
		wantUnpacked(t, mustPack(t, list), list)
		if !slices.Equal(list, before) {
			t.Errorf("PackBytes changed %v to %v", before, list)
		}
	}
}

func TestLongestAndNearestMatchIsTold(t *testing.T) {
	for _, list := range someBytes() {
		if got, want := mustPack(t, list), packedPlainly(list); !slices.Equal(got, want) {
			t.Errorf("PackBytes(%v) = %v, want %v", list, got, want)
		}
	}
}

// Promise 28.
func TestPackedFormIsHardlyLonger(t *testing.T) {
	for _, list := range someBytes() {
		if got := mustPack(t, list); len(got) > len(list)+(len(list)+63)/64 {
			t.Errorf("PackBytes(%v) = %v", list, got)
		}
	}
}

// Promise 29.
func TestSameBytesArePackedInFour(t *testing.T) {
	for first := range 256 {
		if got := mustPack(t, slices.Repeat([]int{first}, 60)); !slices.Equal(got, []int{0, first, 120, 1}) {
			t.Errorf("PackBytes of 60 times %d is %v", first, got)
		}
	}
}

// Promise 30.
func TestTwiceTheBytesHaveFewMore(t *testing.T) {
	for _, list := range someBytes() {
		if len(list) < 3 || len(list) > 66 {
			continue
		}
		once, twice := mustPack(t, list), mustPack(t, slices.Concat(list, list))
		if len(twice) > len(once)+6 {
			t.Errorf("PackBytes(%v) = %v, but twice these are %v", list, once, twice)
		}
	}
}

// Promise 31.
func TestUnpackedBytesArePackedAndUnpacked(t *testing.T) {
	random := rand.New(rand.NewPCG(31, 31))
	found := 0
	for range 20000 {
		form := randomForm(random, 6)
		if random.IntN(3) == 0 && len(form) > 0 {
			form[random.IntN(len(form))] = random.IntN(256)
		}
		bytes, ok := impl.UnpackBytes(form)
		if !ok {
			wantNotUnpacked(t, "form", form)
			continue
		}
		found++
		if len(bytes) > 200 {
			t.Errorf("UnpackBytes(%v) has %d bytes", form, len(bytes))
		}
		wantUnpacked(t, mustPack(t, bytes), bytes)
	}
	if found < 1000 {
		t.Errorf("only %d forms were unpacked", found)
	}
}

// Promise 32.
func TestFormsAreUnpackedOneBehindTheOther(t *testing.T) {
	random := rand.New(rand.NewPCG(32, 32))
	found := 0
	for range 20000 {
		a, b := randomForm(random, 3), randomForm(random, 3)
		first, fine := impl.UnpackBytes(a)
		second, ok := impl.UnpackBytes(b)
		if !fine || !ok || len(first) > 100 || len(second) > 100 {
			continue
		}
		found++
		wantUnpacked(t, slices.Concat(a, b), slices.Concat(first, second))
	}
	if found < 1000 {
		t.Errorf("only %d pairs of forms were unpacked", found)
	}
}

// Promise 33.
func TestGainIsTheDifference(t *testing.T) {
	for _, list := range someBytes() {
		if got, want := impl.PackGain(list), len(list)-len(mustPack(t, list)); got != want {
			t.Errorf("PackGain(%v) = %d, want %d", list, got, want)
		}
	}
}

func TestBytesThatAreNoPackedForm(t *testing.T) {
	for _, bad := range noPackings {
		wantNotUnpacked(t, bad.why, bad.bytes)
	}
	for code := 128; code < 256; code++ {
		wantNotUnpacked(t, "code", slices.Concat([]int{code}, slices.Repeat([]int{1}, 300)))
		wantNotUnpacked(t, "code", slices.Concat([]int{0, 1, code}, slices.Repeat([]int{1}, 300)))
	}
}

// All lengths and distances of a match behind bytes: those that are possible, and all others.
func TestEachMatchBehindSomeBytes(t *testing.T) {
	ahead := []int{1, 2, 3, 4, 5}
	for code := 64; code < 128; code++ {
		for back := range 256 {
			form := slices.Concat([]int{4}, ahead, []int{code, back})
			if back == 0 || back > 5 {
				wantNotUnpacked(t, "distance", form)
				continue
			}
			want := slices.Clone(ahead)
			for range code - 61 {
				want = append(want, want[len(want)-back])
			}
			wantUnpacked(t, form, want)
		}
	}
}

func TestTooManyBytesAreNotPacked(t *testing.T) {
	for _, kinds := range []int{1, 3, 256} {
		list := make([]int, 1000)
		for i := range list {
			list[i] = i * i % kinds
		}
		mustPack(t, list[:200])
		for _, many := range []int{201, 202, 256, 1000} {
			wantNotPacked(t, list[:many])
		}
	}
}

func TestPackedFormWithoutItsLastByteIsNone(t *testing.T) {
	for _, list := range someBytes() {
		packed := mustPack(t, list)
		if len(packed) > 0 {
			wantNotUnpacked(t, "the last byte is missing", packed[:len(packed)-1])
		}
	}
}

func TestPackingOfNumbersThatAreNoBytes(t *testing.T) {
	for _, bad := range noBytes {
		wantNotPacked(t, []int{bad})
		for _, e := range packings {
			for i := range e.bytes {
				spoilt := slices.Clone(e.bytes)
				spoilt[i] = bad
				wantNotPacked(t, spoilt)
			}
			for i := range e.packed {
				spoilt := slices.Clone(e.packed)
				spoilt[i] = bad
				wantNotUnpacked(t, e.why, spoilt)
			}
		}
		wantNotUnpacked(t, "all the same", slices.Repeat([]int{bad, bad}, 3))
	}
}

func TestPackingsShareNoMemory(t *testing.T) {
	list := []int{1, 2, 3, 1, 2, 3, 1, 2, 3, 9}
	form := []int{2, 1, 2, 3, 67, 3, 0, 9}
	packed := mustPack(t, list)
	unpacked, _ := impl.UnpackBytes(form)
	clear(packed)
	clear(unpacked)
	_, _ = append(packed[:0], 9, 9, 9, 9, 9), append(unpacked[:0], 9, 9, 9, 9, 9)
	if !slices.Equal(list, []int{1, 2, 3, 1, 2, 3, 1, 2, 3, 9}) || !slices.Equal(form, []int{2, 1, 2, 3, 67, 3, 0, 9}) {
		t.Errorf("arguments were changed from outside to %v and %v", list, form)
	}
	if !slices.Equal(mustPack(t, list), form) {
		t.Errorf("PackBytes(%v) is another one the second time", list)
	}
}
