package tests

import (
	"math"
	"slices"
	"testing"

	"loop.example/recordbatches/impl"
)

// badMosts are numbers of bytes that are not in the range.
var badMosts = []int{-1, -99999, 100000, 100001, math.MaxInt, math.MinInt}

// badManies are numbers of records that are not in the range.
var badManies = []int{-1, -99, 100, 101, math.MaxInt, math.MinInt}

// gaps is a segment with gaps between offsets, within batches and between them, and with a mark.
func gaps() []impl.Batch {
	return []impl.Batch{
		{Producer: impl.NoProducer, Records: []impl.Record{{Offset: 5}, {Offset: 8}, {Offset: 9}}},
		{Producer: 3, Records: []impl.Record{{Offset: 10}, {Offset: 14}}},
		markAt(20, 7),
		{Packed: true, Producer: impl.NoProducer, Records: []impl.Record{{Offset: 21}, {Offset: 30}}},
	}
}

// readPlainly returns batches as the document tells it.
func readPlainly(t *testing.T, list []impl.Batch, offset, most int) []impl.Batch {
	t.Helper()
	result, bytes := []impl.Batch{}, []int{}
	for _, b := range list {
		if lastOffset(b) < offset {
			continue
		}
		bytes = append(bytes, mustBatchBytes(t, b)...)
		if len(result) > 0 && len(bytes) > most {
			return result
		}
		result = append(result, b)
	}
	return result
}

// recordsPlainly returns records as the document tells it.
func recordsPlainly(list []impl.Batch, offset, many int) []impl.Record {
	result := []impl.Record{}
	for _, r := range allRecords(list, false) {
		if r.Offset >= offset && len(result) < many {
			result = append(result, r)
		}
	}
	return result
}

// sameRecords reports whether records are equal; a nil slice and an empty one are.
func sameRecords(a, b []impl.Record) bool {
	return slices.EqualFunc(a, b, sameRecord)
}

// someMosts are numbers of bytes: those of each row of batches from one on, one less and one more, and the edges.
func someMosts(t *testing.T, list []impl.Batch) []int {
	t.Helper()
	result := []int{0, 1, 99998, 99999}
	for from := range list {
		size := 0
		for _, b := range list[from:] {
			size += len(mustBatchBytes(t, b))
			result = append(result, size-1, size, size+1)
		}
	}
	slices.Sort(result)
	return slices.Compact(result)
}

// wantBatches checks what ReadBatches returns.
func wantBatches(t *testing.T, list []impl.Batch, offset, most int, want []impl.Batch) {
	t.Helper()
	if got := impl.ReadBatches(list, offset, most); !sameBatches(got, want) {
		t.Errorf("ReadBatches(%v, %d, %d) = %v, want %v", list, offset, most, got, want)
	}
}

// wantRecords checks what ReadRecords returns.
func wantRecords(t *testing.T, list []impl.Batch, offset, many int, want []impl.Record) {
	t.Helper()
	if got := impl.ReadRecords(list, offset, many); !sameRecords(got, want) {
		t.Errorf("ReadRecords(%v, %d, %d) = %v, want %v", list, offset, many, got, want)
	}
}

// wantNone checks that ReadOne fails with zero values.
func wantNone(t *testing.T, list []impl.Batch, offset int) {
	t.Helper()
	if r, ok := impl.ReadOne(list, offset); ok || !sameRecord(r, impl.Record{}) {
		t.Errorf("ReadOne(%v, %d) = %v, %v, want none, false", list, offset, r, ok)
	}
}

// The four batches have 33, 28, 24 and 29 bytes.
func TestBatchesFromAnOffsetOn(t *testing.T) {
	list := gaps()
	for _, e := range []struct{ offset, most, from, to int }{
		{0, 0, 0, 1}, {0, 32, 0, 1}, {0, 33, 0, 1}, {0, 60, 0, 1}, {0, 61, 0, 2}, {0, 62, 0, 2}, {0, 84, 0, 2}, {0, 85, 0, 3}, {0, 113, 0, 3}, {0, 114, 0, 4}, {0, 99999, 0, 4},
		{4, 0, 0, 1}, {5, 0, 0, 1}, {6, 0, 0, 1}, {9, 0, 0, 1}, {10, 0, 1, 2}, {11, 28, 1, 2}, {14, 51, 1, 2}, {14, 52, 1, 3},
		{15, 0, 2, 3}, {19, 23, 2, 3}, {20, 52, 2, 3}, {20, 53, 2, 4}, {21, 0, 3, 4}, {22, 28, 3, 4}, {30, 29, 3, 4}, {31, 99999, 4, 4}, {99999, 99999, 4, 4},
	} {
		wantBatches(t, list, e.offset, e.most, list[e.from:e.to])
	}
}

// A batch of one byte too many is the last one that is looked at, also if a smaller one is behind it.
func TestNoBatchIsLeftOut(t *testing.T) {
	list := []impl.Batch{free(0, 1), free(1, 6), free(7, 1), free(8, 1)}
	wantBatches(t, list, 0, 69, list[:1])
	wantBatches(t, list, 0, 70, list[:1])
	wantBatches(t, list, 0, 71, list[:2])
	wantBatches(t, list, 1, 47, list[1:2])
	wantBatches(t, list, 1, 23, list[1:2])
	wantBatches(t, list, 7, 45, list[2:3])
	wantBatches(t, list, 7, 46, list[2:])
}

// Promises 79 and 80.
func TestReadBatchesFollowEachOther(t *testing.T) {
	for _, list := range someLogs() {
		mosts := someMosts(t, list)
		for i, offset := range someOffsets(list) {
			for k := range 2 {
				most := mosts[(7*i+3*k)%len(mosts)]
				wantBatches(t, list, offset, most, readPlainly(t, list, offset, most))
				got := impl.ReadBatches(list, offset, most)
				if size := len(mustLogBytes(t, got)); len(got) > 1 && size > most {
					t.Errorf("ReadBatches(%v, %d, %d) = %v, which has %d bytes", list, offset, most, got, size)
				}
			}
		}
		for _, most := range mosts {
			wantBatches(t, list, 0, most, readPlainly(t, list, 0, most))
		}
	}
}

// Promise 81.
func TestAllBatchesAreRead(t *testing.T) {
	for _, list := range someLogs() {
		wantBatches(t, list, 0, 99999, list)
		wantBatches(t, list, 0, len(mustLogBytes(t, list)), list)
	}
}

// Promises 82, 83 and 84.
func TestReadRecordsAreTheFirstOnes(t *testing.T) {
	for _, list := range append(someLogs(), gaps()) {
		for _, offset := range someOffsets(list) {
			for _, many := range []int{0, 1, 2, 5, 6, 7, 48, 98, 99} {
				want := recordsPlainly(list, offset, many)
				wantRecords(t, list, offset, many, want)
				if len(want) == 0 {
					continue
				}
				// Promise 83: the first record, and what is read behind it.
				rest := impl.ReadRecords(list, want[0].Offset+1, many-1)
				if !sameRecords(want[1:], rest) {
					t.Errorf("ReadRecords(%v, %d, %d) = %v, but behind the first one there are %v", list, offset, many, want, rest)
				}
			}
		}
	}
}

// Promise 84, for records of marks that look like others, and for others of producers that have marks.
func TestRecordsOfMarksAreNotRead(t *testing.T) {
	list := []impl.Batch{markAt(0, 0), free(1, 2), markAt(4, 9), {Producer: 3, Records: markAt(5, 9).Records}, markAt(6, 9)}
	want := []impl.Record{{Offset: 1}, {Offset: 2}, markAt(5, 9).Records[0]}
	wantRecords(t, list, 0, 99, want)
	wantRecords(t, list, 0, 2, want[:2])
	wantRecords(t, list, 3, 1, want[2:])
	wantRecords(t, list, 6, 99, nil)
	wantRecords(t, []impl.Batch{markAt(0, 0), markAt(1, 1)}, 0, 99, nil)
}

// Promise 88.
func TestAllRecordsAreRead(t *testing.T) {
	for _, list := range someLogs() {
		wantRecords(t, list, 0, 99, allRecords(list, false))
	}
	most := edgeLogs()[0]
	if got := impl.ReadRecords(most, 0, 99); len(got) != 48 {
		t.Errorf("ReadRecords(%v, 0, 99) = %v, want 48 records", most, got)
	}
}

// Promise 85.
func TestEndIsBehindTheLastRecord(t *testing.T) {
	for _, list := range someLogs() {
		end := impl.ReadEnd(list)
		if len(list) == 0 {
			if end != 0 {
				t.Errorf("ReadEnd(%v) = %d, want 0", list, end)
			}
			continue
		}
		last := list[len(list)-1]
		if end != lastOffset(last)+1 {
			t.Errorf("ReadEnd(%v) = %d", list, end)
		}
		if r, ok := impl.ReadOne(list, end-1); !ok || !sameRecord(r, last.Records[len(last.Records)-1]) {
			t.Errorf("ReadOne(%v, %d) = %v, %v", list, end-1, r, ok)
		}
		wantNone(t, list, end)
	}
}

// Promise 86.
func TestAppendedBatchBeginsAtTheEnd(t *testing.T) {
	appended := 0
	for _, list := range someLogs() {
		if len(list) == 0 {
			continue
		}
		got, ok := impl.LogAppend(list, list[0])
		if !ok {
			continue
		}
		appended++
		if end := impl.ReadEnd(list); got[len(list)].Records[0].Offset != end {
			t.Errorf("ReadEnd(%v) = %d, but LogAppend = %v", list, end, got)
		}
	}
	if appended < 50 {
		t.Errorf("only %d batches were appended", appended)
	}
}

// Promise 87.
func TestReadOneRecordHasTheOffset(t *testing.T) {
	for _, list := range append(someLogs(), gaps()) {
		records := allRecords(list, true)
		for _, offset := range someOffsets(list) {
			at := slices.IndexFunc(records, func(r impl.Record) bool { return r.Offset == offset })
			if at < 0 {
				wantNone(t, list, offset)
				continue
			}
			if r, ok := impl.ReadOne(list, offset); !ok || !sameRecord(r, records[at]) {
				t.Errorf("ReadOne(%v, %d) = %v, %v, want %v", list, offset, r, ok, records[at])
			}
		}
	}
}

// The document gives no range for the offset of a reader: one ahead of all is less than all others, and one behind all is found nowhere.
func TestOffsetsOutOfRangeAreRead(t *testing.T) {
	for _, list := range append(someLogs(), gaps()) {
		for _, offset := range []int{-1, -100000, math.MinInt} {
			wantBatches(t, list, offset, 99999, list)
			wantRecords(t, list, offset, 99, allRecords(list, false))
			wantNone(t, list, offset)
		}
		for _, offset := range []int{100000, 100001, math.MaxInt} {
			wantBatches(t, list, offset, 99999, nil)
			wantRecords(t, list, offset, 99, nil)
			wantNone(t, list, offset)
		}
	}
}

func TestReadingWithLimitsOutOfRange(t *testing.T) {
	for _, list := range append(someLogs(), gaps()) {
		for _, offset := range []int{-1, 0, 5, 99999} {
			for _, most := range badMosts {
				wantBatches(t, list, offset, most, nil)
			}
			for _, many := range badManies {
				wantRecords(t, list, offset, many, nil)
			}
		}
	}
}

func TestReadingOfInvalidBatches(t *testing.T) {
	for _, list := range invalidLogs() {
		for _, offset := range []int{-1, 0, 1, 5, 7, 99999} {
			wantBatches(t, list, offset, 99999, nil)
			wantRecords(t, list, offset, 99, nil)
			wantNone(t, list, offset)
		}
		if got := impl.ReadEnd(list); got != -1 {
			t.Errorf("ReadEnd(%v) = %d, want -1", list, got)
		}
	}
}

func TestReadingSharesNoMemory(t *testing.T) {
	wantNoSharing(t, "ReadBatches", func(list []impl.Batch) []impl.Batch {
		return impl.ReadBatches(list, 0, 99999)
	})
	wantNoSharing(t, "ReadRecords", func(list []impl.Batch) []impl.Batch {
		return []impl.Batch{{Records: impl.ReadRecords(list, 0, 99)}}
	})
	wantNoSharing(t, "ReadOne", func(list []impl.Batch) []impl.Batch {
		impl.ReadEnd(list)
		result := []impl.Batch{}
		for _, offset := range []int{2, 4, 6, 8} {
			r, _ := impl.ReadOne(list, offset)
			result = append(result, impl.Batch{Records: []impl.Record{r}})
		}
		return result
	})
}
