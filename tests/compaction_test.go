package tests

import (
	"math/rand/v2"
	"slices"
	"testing"

	"loop.example/recordbatches/impl"
)

// keyed is a record with a key and a value; nil is a missing one, and not an empty one.
func keyed(offset int, key, value []int) impl.Record {
	return impl.Record{Offset: offset, HasKey: key != nil, Key: key, HasValue: value != nil, Value: value}
}

// freeOf is a batch without a producer that has these records.
func freeOf(records ...impl.Record) impl.Batch {
	return impl.Batch{Producer: impl.NoProducer, Records: records}
}

// markOf is a mark of the producer 3 that has this record.
func markOf(r impl.Record) impl.Batch {
	return impl.Batch{Mark: true, Producer: 3, Records: []impl.Record{r}}
}

// Keys and values: of the byte 1, of the byte 2, missing, and of no bytes.
var (
	part1     = []int{1}
	part2     = []int{2}
	missing   = []int(nil)
	emptyPart = []int{}
)

// compactions are segments, the offsets of the records that stay with what tells that keys are gone, and without it, worked out by hand from the document.
var compactions = []struct {
	why           string
	list          []impl.Batch
	with, without []int
}{
	{"no batches", nil, nil, nil},
	{"a record without a key", []impl.Batch{freeOf(keyed(0, missing, part1))}, nil, nil},
	{"a record without anything", []impl.Batch{freeOf(keyed(0, missing, missing))}, nil, nil},
	{"a key with a value", []impl.Batch{freeOf(keyed(7, part1, part2))}, []int{7}, []int{7}},
	{"a key without a value", []impl.Batch{freeOf(keyed(7, part1, missing))}, []int{7}, nil},
	{"a key with an empty value", []impl.Batch{freeOf(keyed(7, part1, emptyPart))}, []int{7}, []int{7}},
	{"an empty key", []impl.Batch{freeOf(keyed(7, emptyPart, part2))}, []int{7}, []int{7}},
	{"an empty key and a missing one behind it", []impl.Batch{freeOf(keyed(0, emptyPart, part1), keyed(1, missing, part2))}, []int{0}, []int{0}},
	{"a missing key and an empty one behind it", []impl.Batch{freeOf(keyed(0, missing, part1), keyed(1, emptyPart, part2))}, []int{1}, []int{1}},
	{"an empty key twice", []impl.Batch{freeOf(keyed(0, emptyPart, part1)), freeOf(keyed(1, emptyPart, emptyPart))}, []int{1}, []int{1}},
	{"a key twice in one batch", []impl.Batch{freeOf(keyed(0, part1, part1), keyed(1, part2, part2), keyed(2, part1, part1))}, []int{1, 2}, []int{1, 2}},
	{"a key twice in two batches", []impl.Batch{freeOf(keyed(0, part1, part1), keyed(1, part2, part2)), freeOf(keyed(5, part1, part1))}, []int{1, 5}, []int{1, 5}},
	{"a key that is gone", []impl.Batch{freeOf(keyed(0, part1, part1), keyed(1, part2, part2)), freeOf(keyed(5, part1, missing))}, []int{1, 5}, []int{1}},
	{"a key that is gone and comes again", []impl.Batch{freeOf(keyed(0, part1, part1), keyed(1, part1, missing), keyed(2, part1, part2))}, []int{2}, []int{2}},
	{"a key that is gone twice", []impl.Batch{freeOf(keyed(0, part1, missing), keyed(1, part1, missing)), freeOf(keyed(2, part1, missing))}, []int{2}, nil},
	{"keys that begin alike", []impl.Batch{freeOf(keyed(0, []int{1, 2}, part1), keyed(1, part1, part1), keyed(2, []int{1, 2, 3}, part1), keyed(3, []int{12}, part1))}, upTo(0, 4), upTo(0, 4)},
	{"keys of zeros", []impl.Batch{freeOf(keyed(0, []int{0}, part1), keyed(1, emptyPart, part1), keyed(2, []int{0, 0}, part1), keyed(3, missing, part1))}, upTo(0, 3), upTo(0, 3)},
	{"keys with the same bytes in another order", []impl.Batch{freeOf(keyed(0, []int{1, 2}, part1), keyed(1, []int{2, 1}, part1), keyed(2, []int{18, 52}, part1), keyed(3, []int{1, 35, 4}, part1))}, upTo(0, 4), upTo(0, 4)},
	{"the greatest keys", []impl.Batch{freeOf(keyed(0, twelve, part1), keyed(1, slices.Repeat([]int{255}, 12), part1), keyed(2, twelve, twelve))}, []int{1, 2}, []int{1, 2}},
	{"a mark", []impl.Batch{markAt(4, 0)}, []int{4}, []int{4}},
	{"a mark without a value", []impl.Batch{markOf(keyed(4, missing, missing)), markOf(keyed(5, part1, missing))}, []int{4, 5}, []int{4, 5}},
	{"a mark with the key of a record ahead", []impl.Batch{freeOf(keyed(0, part1, part2)), markOf(keyed(1, part1, part1))}, []int{0, 1}, []int{0, 1}},
	{"a mark with the key of a record behind", []impl.Batch{markOf(keyed(0, part1, part1)), freeOf(keyed(1, part1, part2))}, []int{0, 1}, []int{0, 1}},
	{"a mark that seems to tell that a key is gone", []impl.Batch{freeOf(keyed(0, part1, part2)), markOf(keyed(1, part1, missing))}, []int{0, 1}, []int{0, 1}},
	{"marks with the same key", []impl.Batch{markOf(keyed(0, part1, part1)), markOf(keyed(1, part1, part2)), markOf(keyed(2, part1, part1))}, upTo(0, 3), upTo(0, 3)},
	{"the greatest offset", []impl.Batch{freeOf(keyed(0, part1, part2)), freeOf(keyed(99998, part2, part1), keyed(99999, part1, part1))}, []int{99998, 99999}, []int{99998, 99999}},
	{"a batch of which all records go", []impl.Batch{freeOf(keyed(0, part1, part1), keyed(1, missing, part1)), freeOf(keyed(2, missing, missing)), freeOf(keyed(3, part1, part2))}, []int{3}, []int{3}},
	{"all batches go", []impl.Batch{freeOf(keyed(0, missing, part1)), freeOf(keyed(1, missing, part1), keyed(2, missing, missing))}, nil, nil},
}

// keyLog is a segment of so many batches in which few keys come again and again, packed and not packed, with and without producers, and with marks.
func keyLog(random *rand.Rand, many int) []impl.Batch {
	keys := [][]int{missing, emptyPart, part1, part2, {1, 2}, {0}}[:1+random.IntN(6)]
	values := [][]int{missing, missing, emptyPart, part1, part2, twelve}
	list, offset := []impl.Batch{}, random.IntN(3)
	for range many {
		b := impl.Batch{Packed: random.IntN(2) == 0, Producer: impl.NoProducer}
		count := 1 + random.IntN(6)
		if random.IntN(2) == 0 {
			b.Producer, b.Epoch, b.Seq = random.IntN(3), random.IntN(3), random.IntN(100)
			b.Mark = random.IntN(2) == 0
		}
		if b.Mark {
			count = 1
		}
		for range count {
			r := keyed(offset, keys[random.IntN(len(keys))], values[random.IntN(len(values))])
			r.Time = random.IntN(100)
			b.Records = append(b.Records, r)
			offset += 1 + random.IntN(2)*random.IntN(9)
		}
		list = append(list, b)
	}
	return list
}

// keyLogs are the segments worked out by hand, others, and many in which few keys come again and again.
func keyLogs() [][]impl.Batch {
	result := someLogs()
	for _, e := range compactions {
		result = append(result, e.list)
	}
	random := rand.New(rand.NewPCG(16, 89))
	for many := range 9 {
		for range 100 {
			result = append(result, keyLog(random, many))
		}
	}
	return result
}

// isLastOfItsKey reports whether no record of the batches, marks aside, has the key of one and a greater offset.
func isLastOfItsKey(list []impl.Batch, r impl.Record) bool {
	return !slices.ContainsFunc(allRecords(list, false), func(other impl.Record) bool {
		return other.HasKey && slices.Equal(other.Key, r.Key) && other.Offset > r.Offset
	})
}

// compactPlainly returns the batches with the records that stay, as the document tells it.
func compactPlainly(list []impl.Batch, gone bool) []impl.Batch {
	result := []impl.Batch{}
	for _, b := range list {
		b = with(b, func(b *impl.Batch) {
			b.Records = slices.DeleteFunc(b.Records, func(r impl.Record) bool {
				return !b.Mark && (!r.HasKey || !r.HasValue && !gone || !isLastOfItsKey(list, r))
			})
		})
		if len(b.Records) > 0 {
			result = append(result, b)
		}
	}
	return result
}

// offsetsOf are the offsets of records.
func offsetsOf(list []impl.Record) []int {
	result := []int{}
	for _, r := range list {
		result = append(result, r.Offset)
	}
	return result
}

// mustCompact returns compacted batches.
func mustCompact(t *testing.T, list []impl.Batch, gone bool) []impl.Batch {
	t.Helper()
	result, ok := impl.CompactLog(list, gone)
	if !ok {
		t.Fatalf("CompactLog(%v, %v) failed", list, gone)
	}
	return result
}

// wantCompact checks what CompactLog and CompactLeft return.
func wantCompact(t *testing.T, list []impl.Batch, gone bool, want []impl.Batch) {
	t.Helper()
	if got := mustCompact(t, list, gone); !sameBatches(got, want) {
		t.Errorf("CompactLog(%v, %v) = %v, want %v", list, gone, got, want)
	}
	left := len(allRecords(list, true)) - len(allRecords(want, true))
	if got := impl.CompactLeft(list, gone); got != left {
		t.Errorf("CompactLeft(%v, %v) = %d, want %d", list, gone, got, left)
	}
}

func TestCompactionAtTheEdges(t *testing.T) {
	for _, e := range compactions {
		for _, gone := range []bool{false, true} {
			want := e.without
			if gone {
				want = e.with
			}
			got := allRecords(mustCompact(t, e.list, gone), true)
			if !slices.Equal(offsetsOf(got), want) {
				t.Errorf("%s: CompactLog(%v, %v) has the offsets %v, want %v", e.why, e.list, gone, offsetsOf(got), want)
			}
			if got, left := impl.CompactLeft(e.list, gone), len(allRecords(e.list, true))-len(want); got != left {
				t.Errorf("%s: CompactLeft(%v, %v) = %d, want %d", e.why, e.list, gone, got, left)
			}
		}
	}
}

// What batches tell ahead of their records stays, also if some of these go.
func TestCompactedBatchesStayWhatTheyAre(t *testing.T) {
	list := []impl.Batch{
		{Packed: true, Producer: impl.NoProducer, Records: []impl.Record{keyed(3, part1, part1), keyed(4, part2, part1)}},
		{Producer: 254, Epoch: 99, Seq: 9999, Records: []impl.Record{keyed(5, missing, part1), keyed(8, []int{3}, part1), keyed(9, part1, part1)}},
		{Packed: true, Producer: 0, Epoch: 1, Seq: 2, Records: []impl.Record{keyed(10, emptyPart, part1), keyed(12, part1, part2)}},
		{Packed: true, Mark: true, Producer: 0, Epoch: 1, Seq: 4, Records: []impl.Record{{Offset: 14, Time: 9}}},
	}
	wantCompact(t, list, false, []impl.Batch{
		{Packed: true, Producer: impl.NoProducer, Records: list[0].Records[1:]},
		{Producer: 254, Epoch: 99, Seq: 9999, Records: list[1].Records[1:2]},
		list[2],
		list[3],
	})
}

// Promises 89 and 90.
func TestStateHasTheLastRecordsOfKeys(t *testing.T) {
	for _, list := range keyLogs() {
		want := []impl.Record{}
		for _, r := range allRecords(list, false) {
			if r.HasKey && r.HasValue && isLastOfItsKey(list, r) {
				want = append(want, r)
			}
		}
		got := impl.StateOf(list)
		if !sameRecords(got, want) {
			t.Errorf("StateOf(%v) = %v, want %v", list, got, want)
		}
		for i, r := range got {
			if !r.HasKey || !r.HasValue || i > 0 && r.Offset <= got[i-1].Offset || !isLastOfItsKey(list, r) {
				t.Errorf("StateOf(%v) = %v", list, got)
			}
		}
	}
}

// Promises 91, 92 and 93.
func TestCompactionLeavesTheState(t *testing.T) {
	for _, list := range keyLogs() {
		for _, gone := range []bool{false, true} {
			want := compactPlainly(list, gone)
			wantCompact(t, list, gone, want)
			got := mustCompact(t, list, gone)
			if !impl.LogValid(got) {
				t.Errorf("CompactLog(%v, %v) = %v, which is not valid", list, gone, got)
			}
			if before, after := impl.StateOf(list), impl.StateOf(got); !sameRecords(before, after) {
				t.Errorf("StateOf(%v) = %v, but %v once it is compacted", list, before, after)
			}
			wantCompact(t, got, gone, got)
			wantCompact(t, got, false, compactPlainly(list, false))
		}
	}
}

// Promises 94 and 97.
func TestCompactionWithoutWhatTellsThatKeysAreGone(t *testing.T) {
	for _, list := range keyLogs() {
		got := allRecords(mustCompact(t, list, false), false)
		for _, r := range got {
			if !r.HasKey || !r.HasValue {
				t.Errorf("CompactLog(%v, false) has %v", list, r)
			}
		}
		if state := impl.StateOf(list); !sameRecords(got, state) {
			t.Errorf("CompactLog(%v, false) has %v, but StateOf = %v", list, got, state)
		}
	}
}

// Promise 95.
func TestCompactionLeavesMarks(t *testing.T) {
	isNoMark := func(b impl.Batch) bool { return !b.Mark }
	for _, list := range keyLogs() {
		want := slices.DeleteFunc(slices.Clone(list), isNoMark)
		for _, gone := range []bool{false, true} {
			if got := slices.DeleteFunc(mustCompact(t, list, gone), isNoMark); !sameBatches(got, want) {
				t.Errorf("CompactLog(%v, %v) has the marks %v", list, gone, got)
			}
		}
	}
}

// Promise 96.
func TestLessIsLeftOutWithWhatTellsThatKeysAreGone(t *testing.T) {
	differ := 0
	for _, list := range keyLogs() {
		kept, gone := impl.CompactLeft(list, true), impl.CompactLeft(list, false)
		if kept < 0 || gone < kept {
			t.Errorf("CompactLeft(%v) = %d, and %d if what tells that keys are gone goes, too", list, kept, gone)
		}
		if gone > kept {
			differ++
		}
	}
	if differ < 100 {
		t.Errorf("only %d segments tell that keys are gone", differ)
	}
}

func TestCompactionOfInvalidBatches(t *testing.T) {
	for _, list := range invalidLogs() {
		if got := impl.StateOf(list); len(got) != 0 {
			t.Errorf("StateOf(%v) = %v, want none", list, got)
		}
		for _, gone := range []bool{false, true} {
			if got, ok := impl.CompactLog(list, gone); ok || len(got) != 0 {
				t.Errorf("CompactLog(%v, %v) = %v, %v, want none, false", list, gone, got, ok)
			}
			if got := impl.CompactLeft(list, gone); got != -1 {
				t.Errorf("CompactLeft(%v, %v) = %d, want -1", list, gone, got)
			}
		}
	}
}

func TestCompactionSharesNoMemory(t *testing.T) {
	wantNoSharing(t, "StateOf", func(list []impl.Batch) []impl.Batch {
		return []impl.Batch{{Records: impl.StateOf(list)}}
	})
	for _, gone := range []bool{false, true} {
		wantNoSharing(t, "CompactLog", func(list []impl.Batch) []impl.Batch {
			impl.CompactLeft(list, gone)
			result, _ := impl.CompactLog(list, gone)
			return result
		})
	}
}
