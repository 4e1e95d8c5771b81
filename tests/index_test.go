package tests

import (
	"math"
	"slices"
	"testing"

	"loop.example/recordbatches/impl"
)

// distances are numbers of bytes from one entry to the next one: those of the least batch, one less and one more, and the edges.
var distances = []int{1, 2, 22, 23, 24, 45, 46, 47, 69, 100, 215, 216, 217, 500, 1500, 1728, 1729, 9998, 9999}

// badDistances are numbers of bytes that are not in the range.
var badDistances = []int{0, -1, -9999, 10000, 10001, 99999, math.MaxInt, math.MinInt}

// someOffsets are offsets at which something may begin or end, and some that are none.
func someOffsets(list []impl.Batch) []int {
	result := []int{math.MinInt, -100000, -1, 0, 1, 50000, 99998, 99999, 100000, math.MaxInt}
	for _, b := range list {
		for _, r := range b.Records {
			result = append(result, r.Offset-1, r.Offset, r.Offset+1)
		}
	}
	return result
}

// entriesPlainly returns entries as the document tells it.
func entriesPlainly(t *testing.T, list []impl.Batch, every int) []impl.Entry {
	t.Helper()
	result, place, before := []impl.Entry{}, 0, 0
	for i, b := range list {
		if i == 0 || place >= before+every {
			result, before = append(result, impl.Entry{Offset: b.Records[0].Offset, Place: place}), place
		}
		place += len(mustBatchBytes(t, b))
	}
	return result
}

// findPlainly returns the place of the last entry that is not greater than an offset, or -1.
func findPlainly(list []impl.Entry, offset int) int {
	found := -1
	for i, e := range list {
		if e.Offset <= offset {
			found = i
		}
	}
	return found
}

// steps are entries that are so far apart, in offsets and in places.
func steps(many, offset, place int) []impl.Entry {
	result := []impl.Entry{}
	for i := range many {
		result = append(result, impl.Entry{Offset: i * offset, Place: i * place})
	}
	return result
}

// someIndexes are valid entries, of segments and others.
func someIndexes(t *testing.T) [][]impl.Entry {
	result := [][]impl.Entry{
		nil,
		{{Offset: 0, Place: 0}},
		{{Offset: 99999, Place: 99999}},
		{{Offset: 0, Place: 99999}},
		{{Offset: 99999, Place: 0}},
		{{Offset: 0, Place: 99998}, {Offset: 99999, Place: 99999}},
		{{Offset: 99998, Place: 0}, {Offset: 99999, Place: 1}},
	}
	for many := range 9 {
		result = append(result, steps(many, 1, 1), steps(many, 10, 1), steps(many, 14285, 14285))
	}
	for _, list := range someLogs() {
		result = append(result, entriesPlainly(t, list, 1), entriesPlainly(t, list, 150))
	}
	return result
}

// invalidIndexes are entries that are not valid, each for one reason.
func invalidIndexes() [][]impl.Entry {
	result := [][]impl.Entry{
		steps(9, 1, 1),
		steps(300, 1, 1),
		{{Offset: 3, Place: 5}, {Offset: 3, Place: 6}},
		{{Offset: 3, Place: 5}, {Offset: 2, Place: 6}},
		{{Offset: 3, Place: 5}, {Offset: 4, Place: 5}},
		{{Offset: 3, Place: 5}, {Offset: 4, Place: 4}},
		{{Offset: 3, Place: 5}, {Offset: 3, Place: 5}},
		{{Offset: 0, Place: 0}, {Offset: 3, Place: 5}, {Offset: 1, Place: 6}},
		{{Offset: 0, Place: 0}, {Offset: 3, Place: 5}, {Offset: 4, Place: 1}},
	}
	for _, n := range []int{-1, -2, 100000, 100001, math.MaxInt, math.MinInt} {
		for at := range 3 {
			for _, bad := range []impl.Entry{{Offset: n, Place: 10 * at}, {Offset: 10 * at, Place: n}} {
				list := steps(3, 10, 10)
				list[at] = bad
				result = append(result, list)
			}
			result = append(result, []impl.Entry{{Offset: n}}, []impl.Entry{{Place: n}})
		}
	}
	return result
}

// mustIndex returns the entries of a segment.
func mustIndex(t *testing.T, list []impl.Batch, every int) []impl.Entry {
	t.Helper()
	result, ok := impl.IndexOf(list, every)
	if !ok {
		t.Fatalf("IndexOf(%v, %d) failed", list, every)
	}
	return result
}

// wantNoIndex checks that IndexOf fails with zero values.
func wantNoIndex(t *testing.T, list []impl.Batch, every int) {
	t.Helper()
	if got, ok := impl.IndexOf(list, every); ok || len(got) != 0 {
		t.Errorf("IndexOf(%v, %d) = %v, %v, want none, false", list, every, got, ok)
	}
}

// wantNoEntry checks that IndexFind fails with zero values.
func wantNoEntry(t *testing.T, list []impl.Entry, offset int) {
	t.Helper()
	if e, ok := impl.IndexFind(list, offset); ok || e != (impl.Entry{}) {
		t.Errorf("IndexFind(%v, %d) = %v, %v, want none, false", list, offset, e, ok)
	}
}

// wantSeek checks that IndexSeek finds a batch.
func wantSeek(t *testing.T, why string, bytes []int, list []impl.Entry, offset int, b impl.Batch, looked int) {
	t.Helper()
	if got, n, ok := impl.IndexSeek(bytes, list, offset); !ok || n != looked || !sameBatch(got, b) {
		t.Errorf("%s: IndexSeek(%v, %v, %d) = %v, %d, %v, want %v, %d", why, bytes, list, offset, got, n, ok, b, looked)
	}
}

// wantNotSought checks that IndexSeek fails with zero values.
func wantNotSought(t *testing.T, why string, bytes []int, list []impl.Entry, offset int) {
	t.Helper()
	if b, n, ok := impl.IndexSeek(bytes, list, offset); ok || n != 0 || !sameBatch(b, impl.Batch{}) {
		t.Errorf("%s: IndexSeek(%v, %v, %d) = %v, %d, %v, want none, 0, false", why, bytes, list, offset, b, n, ok)
	}
}

// wantInvalidIndex checks that entries are invalid, and that nothing is found by them.
func wantInvalidIndex(t *testing.T, list []impl.Entry) {
	t.Helper()
	if impl.IndexValid(list) {
		t.Errorf("%v is valid", list)
	}
	bytes := mustLogBytes(t, edgeLogs()[2])
	for _, offset := range []int{math.MinInt, -1, 0, 1, 3, 99999, math.MaxInt} {
		wantNoEntry(t, list, offset)
		wantNotSought(t, "invalid entries", bytes, list, offset)
	}
}

// Promises 63 and 65.
func TestEntriesTellWhereBatchesBegin(t *testing.T) {
	for _, list := range someLogs() {
		bytes := mustLogBytes(t, list)
		for _, every := range distances {
			got := mustIndex(t, list, every)
			if want := entriesPlainly(t, list, every); !impl.IndexValid(got) || !slices.Equal(got, want) {
				t.Errorf("IndexOf(%v, %d) = %v, want %v", list, every, got, want)
			}
			for i, e := range got {
				if b, _, ok := impl.BatchFrom(bytes, e.Place); !ok || b.Records[0].Offset != e.Offset {
					t.Errorf("IndexOf(%v, %d) = %v, but at %d there is %v, %v", list, every, got, e.Place, b, ok)
				}
				if i > 0 && e.Place-got[i-1].Place < every {
					t.Errorf("IndexOf(%v, %d) = %v, which is too near", list, every, got)
				}
			}
		}
	}
}

// Promise 64.
func TestFirstBatchHasAnEntry(t *testing.T) {
	for _, list := range someLogs() {
		for _, every := range distances {
			got := mustIndex(t, list, every)
			if len(list) == 0 && len(got) != 0 || len(list) > 0 && (len(got) == 0 || got[0] != impl.Entry{Offset: list[0].Records[0].Offset}) {
				t.Errorf("IndexOf(%v, %d) = %v", list, every, got)
			}
			if every <= 23 && len(got) != len(list) {
				t.Errorf("IndexOf(%v, %d) = %v, want an entry for each batch", list, every, got)
			}
		}
	}
}

// Eight batches of 23 bytes each: an entry is told by how far it is from the entry before, not from the batch before.
func TestDistancesOfEntries(t *testing.T) {
	list := edgeLogs()[2]
	for _, e := range []struct {
		every   int
		offsets []int
	}{
		{1, upTo(0, 8)}, {22, upTo(0, 8)}, {23, upTo(0, 8)}, {24, []int{0, 2, 4, 6}}, {46, []int{0, 2, 4, 6}}, {47, []int{0, 3, 6}},
		{69, []int{0, 3, 6}}, {70, []int{0, 4}}, {160, []int{0, 7}}, {161, []int{0, 7}}, {162, []int{0}}, {9999, []int{0}},
	} {
		want := []impl.Entry{}
		for _, offset := range e.offsets {
			want = append(want, impl.Entry{Offset: offset, Place: 23 * offset})
		}
		if got := mustIndex(t, list, e.every); !slices.Equal(got, want) {
			t.Errorf("IndexOf(%v, %d) = %v, want %v", list, e.every, got, want)
		}
	}
}

func TestEntriesOfInvalidArguments(t *testing.T) {
	for _, list := range someLogs() {
		for _, every := range badDistances {
			wantNoIndex(t, list, every)
		}
	}
	for _, list := range invalidLogs() {
		for _, every := range []int{1, 9999, 0} {
			wantNoIndex(t, list, every)
		}
	}
}

// Promises 66 and 67.
func TestFoundEntryIsTheLastOne(t *testing.T) {
	for _, list := range someIndexes(t) {
		if !impl.IndexValid(list) {
			t.Errorf("%v is not valid", list)
		}
		offsets := someOffsets(nil)
		for _, e := range list {
			offsets = append(offsets, e.Offset-1, e.Offset, e.Offset+1)
		}
		for _, offset := range offsets {
			i := findPlainly(list, offset)
			if i < 0 {
				wantNoEntry(t, list, offset)
				continue
			}
			if got, ok := impl.IndexFind(list, offset); !ok || got != list[i] {
				t.Errorf("IndexFind(%v, %d) = %v, %v, want %v", list, offset, got, ok, list[i])
			}
		}
	}
}

// Promises 68 and 69: the first batch that ends at an offset or behind it is found, from the entry on.
func TestSoughtBatchIsTheFirstOne(t *testing.T) {
	for i, list := range someLogs() {
		bytes := mustLogBytes(t, list)
		for _, every := range []int{1, distances[i%len(distances)], 9999} {
			entries := mustIndex(t, list, every)
			for _, offset := range someOffsets(list) {
				at := slices.IndexFunc(list, func(b impl.Batch) bool { return lastOffset(b) >= offset })
				if at < 0 {
					wantNotSought(t, "behind all", bytes, entries, offset)
					wantNotSought(t, "behind all", bytes, nil, offset)
					continue
				}
				from := 0
				if found := findPlainly(entries, offset); found >= 0 {
					from = slices.IndexFunc(list, func(b impl.Batch) bool { return b.Records[0].Offset == entries[found].Offset })
				}
				wantSeek(t, "without entries", bytes, nil, offset, list[at], at+1)
				wantSeek(t, "with entries", bytes, entries, offset, list[at], at-from+1)
			}
		}
	}
}

// Promise 70.
func TestEntriesWithoutOneAndWithItTwice(t *testing.T) {
	for _, list := range someIndexes(t) {
		for i, e := range list {
			if without := slices.Delete(slices.Clone(list), i, i+1); !impl.IndexValid(without) {
				t.Errorf("%v is not valid", without)
			}
			wantInvalidIndex(t, slices.Insert(slices.Clone(list), i, e))
		}
	}
}

// Promise 71, for segments that are torn, too.
func TestFirstOffsetsAreSought(t *testing.T) {
	for _, list := range someLogs() {
		bytes := mustLogBytes(t, list)
		for i, b := range list {
			torn := bytes[:len(mustLogBytes(t, list[:i+1]))]
			for _, behind := range [][]int{bytes, torn, slices.Concat(torn, []int{0, 0, 1}), slices.Concat(torn, make([]int, 30))} {
				wantSeek(t, "first offset", behind, nil, b.Records[0].Offset, b, i+1)
				wantSeek(t, "first offset", behind, mustIndex(t, list, 1), b.Records[0].Offset, b, 1)
			}
		}
	}
}

func TestInvalidEntries(t *testing.T) {
	for _, list := range invalidIndexes() {
		wantInvalidIndex(t, list)
	}
}

func TestSeekAtPlacesThatAreNone(t *testing.T) {
	list := []impl.Batch{free(0, 1), free(5, 1), free(9, 1)}
	bytes := mustLogBytes(t, list)
	for place := range 200 {
		entries := []impl.Entry{{Offset: 5, Place: place}}
		// Ahead of the entry's offset, its place does not matter.
		wantSeek(t, "ahead of the entry", bytes, entries, 4, list[1], 2)
		if place%23 != 0 || place >= len(bytes) {
			wantNotSought(t, "no beginning", bytes, entries, 5)
			continue
		}
		if place <= 23 {
			wantSeek(t, "a beginning", bytes, entries, 5, list[1], 2-place/23)
		} else {
			// The place is that of the batch behind the one with the offset.
			wantSeek(t, "a later beginning", bytes, entries, 5, list[2], 1)
		}
	}
	for _, place := range []int{99998, 99999} {
		wantNotSought(t, "far behind", bytes, []impl.Entry{{Offset: 0, Place: place}}, 0)
		wantSeek(t, "far behind", bytes, []impl.Entry{{Offset: 0, Place: place}}, -1, list[0], 1)
	}
	for _, offset := range someOffsets(nil) {
		wantNotSought(t, "no bytes", nil, nil, offset)
		wantNotSought(t, "no batch", make([]int, 40), nil, offset)
	}
}

func TestSeekAtTheGreatestPlace(t *testing.T) {
	bytes := slices.Concat(make([]int, 99999), mustBatchBytes(t, free(7, 2)))
	wantSeek(t, "the greatest place", bytes, []impl.Entry{{Offset: 7, Place: 99999}}, 8, free(7, 2), 1)
}

func TestSeekInDamagedBytes(t *testing.T) {
	list := []impl.Batch{free(0, 2), free(10, 2), free(20, 2), free(30, 2)}
	bytes := mustLogBytes(t, list)
	entries := mustIndex(t, list, 1)
	bytes[2*28+20]++
	for i, b := range list {
		for _, r := range b.Records {
			if i == 2 {
				wantNotSought(t, "damaged", bytes, entries, r.Offset)
				wantNotSought(t, "damaged", bytes, nil, r.Offset)
				continue
			}
			wantSeek(t, "elsewhere", bytes, entries, r.Offset, b, 1)
			if i < 2 {
				wantSeek(t, "ahead", bytes, nil, r.Offset, b, i+1)
			} else {
				wantNotSought(t, "behind", bytes, nil, r.Offset)
			}
		}
	}
	wantNotSought(t, "between both", bytes, entries, 12)
}

// More batches than a segment has: only so many are looked at.
func TestSeekLooksAtFewBatches(t *testing.T) {
	bytes := []int{}
	for i := range 17 {
		bytes = append(bytes, mustBatchBytes(t, free(i, 1))...)
	}
	for offset := range 17 {
		if offset < 8 {
			wantSeek(t, "of the first ones", bytes, nil, offset, free(offset, 1), offset+1)
		} else {
			wantNotSought(t, "too far", bytes, nil, offset)
		}
		for from := range offset + 1 {
			entries := []impl.Entry{{Offset: from, Place: 23 * from}}
			if offset-from < 8 {
				wantSeek(t, "near the entry", bytes, entries, offset, free(offset, 1), offset-from+1)
			} else {
				wantNotSought(t, "too far from the entry", bytes, entries, offset)
			}
		}
	}
}

// IndexSeek looks at one batch after the other, also where they are no segment.
func TestSeekInBatchesThatAreNotInOrder(t *testing.T) {
	bytes := slices.Concat(mustBatchBytes(t, free(50, 2)), mustBatchBytes(t, free(5, 2)), mustBatchBytes(t, free(60, 2)))
	wantSeek(t, "not in order", bytes, nil, 5, free(50, 2), 1)
	wantSeek(t, "not in order", bytes, nil, 52, free(60, 2), 3)
	wantSeek(t, "not in order", bytes, []impl.Entry{{Offset: 5, Place: 28}}, 6, free(5, 2), 1)
	wantSeek(t, "not in order", bytes, []impl.Entry{{Offset: 5, Place: 28}}, 7, free(60, 2), 2)
}

func TestSeekInNumbersThatAreNoBytes(t *testing.T) {
	list := []impl.Batch{free(0, 1), free(5, 1), free(9, 1)}
	bytes := mustLogBytes(t, list)
	for _, bad := range noBytes {
		for i := range bytes {
			spoilt := slices.Clone(bytes)
			spoilt[i] = bad
			wantNotSought(t, "no byte", spoilt, nil, 0)
			wantNotSought(t, "no byte", spoilt, mustIndex(t, list, 1), 5)
		}
		wantNotSought(t, "no byte behind all", slices.Concat(bytes, []int{bad}), nil, 0)
	}
}

func TestIndexesShareNoMemory(t *testing.T) {
	list := sharedLog()
	before := deepCopy(list[:cap(list)])
	first, second := mustIndex(t, list, 1), mustIndex(t, list, 1)
	want := slices.Clone(second)
	for i := range first[:cap(first)] {
		first[:cap(first)][i] = impl.Entry{Offset: 7, Place: 7}
	}
	if !sameBatches(list[:cap(list)], before) || !slices.Equal(second, want) {
		t.Errorf("IndexOf returned %v, which shares memory", first)
	}
	bytes := mustLogBytes(t, list)
	bytesBefore := slices.Clone(bytes)
	if _, _, ok := impl.IndexSeek(bytes, second, 4); !ok || !slices.Equal(bytes, bytesBefore) || !slices.Equal(second, want) {
		t.Errorf("IndexSeek changed its arguments to %v and %v", bytes, second)
	}
	if _, ok := impl.IndexFind(second, 4); !ok || !slices.Equal(second, want) {
		t.Errorf("IndexFind changed its argument to %v", second)
	}
	wantNoSharing(t, "IndexSeek", func(list []impl.Batch) []impl.Batch {
		bytes := mustLogBytes(t, list)
		b, _, _ := impl.IndexSeek(bytes, nil, 3)
		clear(bytes)
		return []impl.Batch{b}
	})
}
