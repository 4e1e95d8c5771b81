package tests

import (
	"math"
	"math/rand/v2"
	"slices"
	"testing"

	"loop.example/recordbatches/impl"
)

// randomFree is a batch without a producer, with so many records from an offset on, some with gaps between them.
func randomFree(random *rand.Rand, offset, many int) impl.Batch {
	b := impl.Batch{Packed: random.IntN(2) == 0, Producer: impl.NoProducer}
	for range many {
		r := randomRecord(random)
		r.Offset = offset
		offset += 1 + random.IntN(2)*random.IntN(5)
		b.Records = append(b.Records, r)
	}
	return b
}

// someFree are batches without a producer, of 1 to 6 records, packed and not packed, up to the greatest offset.
func someFree() []impl.Batch {
	random := rand.New(rand.NewPCG(31, 131))
	result := []impl.Batch{free(0, 6), free(99994, 6), free(99999, 1), free(0, 1), freeOf(keyed(0, part1, nil), keyed(99999, nil, part2))}
	for many := 1; many <= 6; many++ {
		for range 25 {
			result = append(result, randomFree(random, random.IntN(2)*random.IntN(99000), many))
		}
	}
	return result
}

// freeLog is a segment of so many batches, most of them without a producer and small, so that neighbours can be joined.
func freeLog(random *rand.Rand, many int) []impl.Batch {
	list, offset := []impl.Batch{}, random.IntN(3)
	packed := random.IntN(2) == 0
	for range many {
		b := randomFree(random, offset, 1+random.IntN(1+random.IntN(6)))
		b.Packed = packed
		switch random.IntN(8) {
		case 0:
			b.Packed = !packed
		case 1:
			b.Producer, b.Epoch, b.Seq = random.IntN(3), random.IntN(3), random.IntN(9)
		case 2:
			b.Producer, b.Mark, b.Records = random.IntN(3), true, b.Records[:1]
		}
		list = append(list, b)
		offset = lastOffset(b) + 1 + random.IntN(2)*random.IntN(5)
	}
	return list
}

// cutLogs are segments of any kind, and many whose neighbours can be joined.
func cutLogs() [][]impl.Batch {
	result := append(someLogs(), gaps())
	for _, e := range commits {
		result = append(result, e.list)
	}
	random := rand.New(rand.NewPCG(31, 136))
	for many := range 9 {
		for range 60 {
			result = append(result, freeLog(random, many))
		}
	}
	return result
}

// divided are the records that are ahead of an offset, and all others.
func divided(records []impl.Record, offset int) ([]impl.Record, []impl.Record) {
	ahead := 0
	for ahead < len(records) && records[ahead].Offset < offset {
		ahead++
	}
	return records[:ahead], records[ahead:]
}

// joinPlainly returns a batch with the records of two, and whether the document lets them be joined.
func joinPlainly(a, b impl.Batch) (impl.Batch, bool) {
	result := impl.Batch{Packed: a.Packed && b.Packed, Producer: impl.NoProducer, Records: slices.Concat(a.Records, b.Records)}
	return result, impl.BatchValid(a) && impl.BatchValid(b) && a.Producer == impl.NoProducer && b.Producer == impl.NoProducer &&
		a.Packed == b.Packed && lastOffset(a) < b.Records[0].Offset && len(result.Records) <= 6
}

// cutPlainly returns the batches with all records ahead of an offset, and whether the document lets them be cut.
func cutPlainly(list []impl.Batch, offset int) ([]impl.Batch, bool) {
	result := []impl.Batch{}
	for _, b := range list {
		ahead, others := divided(b.Records, offset)
		if len(ahead) > 0 && len(others) > 0 && b.Producer != impl.NoProducer {
			return nil, false
		}
		if len(ahead) > 0 {
			result = append(result, with(b, func(b *impl.Batch) { b.Records = ahead }))
		}
	}
	return result, true
}

// evenPlainly returns batches with neighbours joined, as the document tells it.
func evenPlainly(list []impl.Batch) []impl.Batch {
	result := []impl.Batch{}
	for _, b := range list {
		if last := len(result) - 1; last >= 0 {
			if joined, ok := joinPlainly(result[last], b); ok {
				result[last] = joined
				continue
			}
		}
		result = append(result, b)
	}
	return result
}

// wantCut checks what BatchCut returns.
func wantCut(t *testing.T, b impl.Batch, offset int, first, second impl.Batch) {
	t.Helper()
	if x, y, ok := impl.BatchCut(b, offset); !ok || !sameBatch(x, first) || !sameBatch(y, second) {
		t.Errorf("BatchCut(%v, %d) = %v, %v, %v, want %v, %v, true", b, offset, x, y, ok, first, second)
	}
}

// wantNotCut checks that BatchCut fails with zero values.
func wantNotCut(t *testing.T, b impl.Batch, offset int) {
	t.Helper()
	if x, y, ok := impl.BatchCut(b, offset); ok || !sameBatch(x, impl.Batch{}) || !sameBatch(y, impl.Batch{}) {
		t.Errorf("BatchCut(%v, %d) = %v, %v, %v, want none, false", b, offset, x, y, ok)
	}
}

// wantJoin checks what BatchJoin returns.
func wantJoin(t *testing.T, a, b, want impl.Batch) {
	t.Helper()
	if got, ok := impl.BatchJoin(a, b); !ok || !sameBatch(got, want) {
		t.Errorf("BatchJoin(%v, %v) = %v, %v, want %v, true", a, b, got, ok, want)
	}
}

// wantNotJoined checks that BatchJoin fails with zero values.
func wantNotJoined(t *testing.T, a, b impl.Batch) {
	t.Helper()
	if got, ok := impl.BatchJoin(a, b); ok || !sameBatch(got, impl.Batch{}) {
		t.Errorf("BatchJoin(%v, %v) = %v, %v, want none, false", a, b, got, ok)
	}
}

// wantLogCut checks what LogCut returns.
func wantLogCut(t *testing.T, list []impl.Batch, offset int, want []impl.Batch) {
	t.Helper()
	if got, ok := impl.LogCut(list, offset); !ok || !sameBatches(got, want) {
		t.Errorf("LogCut(%v, %d) = %v, %v, want %v, true", list, offset, got, ok, want)
	}
}

// wantNoLogCut checks that LogCut fails with zero values.
func wantNoLogCut(t *testing.T, list []impl.Batch, offset int) {
	t.Helper()
	if got, ok := impl.LogCut(list, offset); ok || len(got) != 0 {
		t.Errorf("LogCut(%v, %d) = %v, %v, want none, false", list, offset, got, ok)
	}
}

// wantEven checks what LogEven returns.
func wantEven(t *testing.T, list, want []impl.Batch) {
	t.Helper()
	if got, ok := impl.LogEven(list); !ok || !sameBatches(got, want) {
		t.Errorf("LogEven(%v) = %v, %v, want %v, true", list, got, ok, want)
	}
}

// Promises 131 and 132.
func TestBatchIsCutInFrontOfEachOffset(t *testing.T) {
	cuts := 0
	for _, b := range someFree() {
		for _, offset := range someOffsets([]impl.Batch{b}) {
			ahead, others := divided(b.Records, offset)
			if len(ahead) == 0 || len(others) == 0 {
				wantNotCut(t, b, offset)
				continue
			}
			cuts++
			first, second := b, b
			first.Records, second.Records = ahead, others
			wantCut(t, b, offset, first, second)
			if !impl.BatchValid(first) || !impl.BatchValid(second) {
				t.Errorf("%v or %v is not valid", first, second)
			}
			wantJoin(t, first, second, b)
		}
	}
	if cuts < 1000 {
		t.Errorf("only %d batches were cut", cuts)
	}
}

func TestCutAtTheEdges(t *testing.T) {
	b := freeOf(keyed(5, part1, part2), keyed(6, nil, nil), keyed(9, emptyPart, emptyPart))
	for _, packed := range []bool{false, true} {
		b.Packed = packed
		part := func(from, to int) impl.Batch {
			return with(b, func(b *impl.Batch) { b.Records = b.Records[from:to] })
		}
		wantNotCut(t, b, 4)
		wantNotCut(t, b, 5)
		wantCut(t, b, 6, part(0, 1), part(1, 3))
		wantCut(t, b, 7, part(0, 2), part(2, 3))
		wantCut(t, b, 8, part(0, 2), part(2, 3))
		wantCut(t, b, 9, part(0, 2), part(2, 3))
		wantNotCut(t, b, 10)
		wantNotCut(t, part(0, 1), 5)
		wantNotCut(t, part(0, 1), 6)
	}
}

// Promises 133, 134 and 135.
func TestJoinedBatchesAreCutAgain(t *testing.T) {
	random := rand.New(rand.NewPCG(31, 133))
	joined, failed := 0, 0
	for _, a := range someFree() {
		for many := 1; many <= 6; many++ {
			for _, offset := range []int{lastOffset(a) + 1, lastOffset(a) + 5, lastOffset(a), a.Records[0].Offset, max(a.Records[0].Offset-20, 0)} {
				b := randomFree(random, offset, many)
				want, ok := joinPlainly(a, b)
				if !ok {
					failed++
					wantNotJoined(t, a, b)
					continue
				}
				joined++
				wantJoin(t, a, b, want)
				if !impl.BatchValid(want) {
					t.Errorf("%v is not valid", want)
				}
				wantCut(t, want, b.Records[0].Offset, a, b)
				wantNotJoined(t, b, a)
				wantNotJoined(t, a, with(b, func(b *impl.Batch) { b.Producer = 3 }))
				wantNotJoined(t, with(a, func(b *impl.Batch) { b.Producer = 3 }), b)
			}
		}
	}
	if joined < 300 || failed < 300 {
		t.Errorf("%d pairs were joined, and %d were not", joined, failed)
	}
}

func TestJoinAtTheEdges(t *testing.T) {
	packed := func(b impl.Batch) impl.Batch {
		b.Packed = true
		return b
	}
	for many := 1; many <= 6; many++ {
		for others := 1; others <= 6; others++ {
			for _, offset := range []int{0, 99999 - many - others + 1} {
				a, b := free(offset, many), free(offset+many, others)
				if many+others > 6 {
					wantNotJoined(t, a, b)
					wantNotJoined(t, packed(a), packed(b))
				} else {
					wantJoin(t, a, b, free(offset, many+others))
					wantJoin(t, packed(a), packed(b), packed(free(offset, many+others)))
				}
				wantNotJoined(t, packed(a), b)
				wantNotJoined(t, a, packed(b))
				wantNotJoined(t, b, a)
				wantNotJoined(t, a, a)
			}
		}
	}
	wantJoin(t, free(0, 1), free(99999, 1), freeOf(impl.Record{}, impl.Record{Offset: 99999}))
	wantNotJoined(t, free(5, 2), free(6, 1))
	wantNotJoined(t, free(5, 3), free(6, 1))
	wantNotJoined(t, free(5, 1), free(4, 1))
	wantNotJoined(t, free(5, 1), free(4, 2))
	wantNotJoined(t, free(5, 1), fine(3, 6))
	wantNotJoined(t, fine(3, 4), free(5, 1))
	wantNotJoined(t, open(3, 4, 1), open(3, 5, 1))
	wantNotJoined(t, fine(3, 4), fine(3, 5))
}

func TestCutsOfBatchesOfProducers(t *testing.T) {
	for _, producer := range []int{0, 1, 254} {
		for _, packed := range []bool{false, true} {
			b := impl.Batch{Packed: packed, Producer: producer, Epoch: 3, Seq: 8, Records: bareRecords(5, 4)}
			for offset := range 12 {
				wantNotCut(t, b, offset)
				wantNotCut(t, impl.Batch{Packed: packed, Mark: true, Producer: producer, Records: bareRecords(5, 1)}, offset)
			}
		}
	}
}

func TestCutsOfInvalidBatches(t *testing.T) {
	for _, bad := range invalidBatches() {
		for _, offset := range []int{-1, 0, 1, 5, 7, 8, 9, 10, 400, 99999, 100000, math.MaxInt, math.MinInt} {
			wantNotCut(t, bad, offset)
		}
		for _, b := range []impl.Batch{free(50000, 1), free(0, 1), free(3, 2), {Packed: true, Producer: impl.NoProducer, Records: bareRecords(50000, 1)}} {
			wantNotJoined(t, bad, b)
			wantNotJoined(t, b, bad)
		}
		wantNotJoined(t, bad, bad)
	}
}

// Promises 136, 137 and 138.
func TestCutSegmentHasTheRecordsAhead(t *testing.T) {
	failed := 0
	for _, list := range cutLogs() {
		for _, offset := range someOffsets(list) {
			want, ok := cutPlainly(list, offset)
			if !ok {
				failed++
				wantNoLogCut(t, list, offset)
				continue
			}
			wantLogCut(t, list, offset, want)
			ahead, _ := divided(allRecords(list, true), offset)
			if !impl.LogValid(want) || !sameRecords(allRecords(want, true), ahead) {
				t.Errorf("LogCut(%v, %d) = %v", list, offset, want)
			}
			wantLogCut(t, want, offset, want)
			if end := impl.ReadEnd(want); end > offset && end != 0 {
				t.Errorf("ReadEnd of LogCut(%v, %d) = %d", list, offset, end)
			}
		}
		wantLogCut(t, list, impl.ReadEnd(list), list)
		wantLogCut(t, list, 0, nil)
	}
	if failed < 100 {
		t.Errorf("only %d cuts failed", failed)
	}
}

func TestSegmentCutAtTheEdges(t *testing.T) {
	list := []impl.Batch{free(2, 3), open(3, 6, 3), fine(3, 9), {Packed: true, Producer: impl.NoProducer, Records: bareRecords(12, 2)}}
	for _, e := range []struct{ offset, many, records int }{
		{math.MinInt, 0, 0}, {-1, 0, 0}, {0, 0, 0}, {2, 0, 0}, {3, 1, 1}, {4, 1, 2}, {5, 1, 3}, {6, 1, 3}, {9, 2, 3}, {10, 3, 1}, {12, 3, 1}, {13, 4, 1}, {14, 4, 2}, {99999, 4, 2}, {100000, 4, 2}, {math.MaxInt, 4, 2},
	} {
		want := deepCopy(list[:e.many])
		if e.many > 0 {
			want[e.many-1].Records = want[e.many-1].Records[:e.records]
		}
		wantLogCut(t, list, e.offset, want)
	}
	// Only the batch of a producer with records on both sides can't be cut, whatever is behind it.
	for _, offset := range []int{7, 8} {
		wantNoLogCut(t, list, offset)
		wantNoLogCut(t, list[:2], offset)
		wantNoLogCut(t, list[1:], offset)
	}
	for _, offset := range []int{math.MinInt, -1, 0, 1, 99999, 100000, math.MaxInt} {
		wantLogCut(t, nil, offset, nil)
	}
}

// Promises 139 and 140.
func TestEvenSegmentHasTheSameRecords(t *testing.T) {
	joined := 0
	for _, list := range cutLogs() {
		want := evenPlainly(list)
		wantEven(t, list, want)
		if !impl.LogValid(want) || len(want) > len(list) || !sameRecords(allRecords(want, true), allRecords(list, true)) {
			t.Errorf("LogEven(%v) = %v", list, want)
		}
		wantEven(t, want, want)
		for i := 1; i < len(want); i++ {
			wantNotJoined(t, want[i-1], want[i])
		}
		joined += len(list) - len(want)
	}
	if joined < 300 {
		t.Errorf("only %d batches were joined", joined)
	}
}

// Promise 141.
func TestEvenSegmentHasTheSameState(t *testing.T) {
	for _, list := range append(cutLogs(), keyLogs()...) {
		even, ok := impl.LogEven(list)
		if !ok {
			t.Errorf("LogEven(%v) failed", list)
		}
		if before, after := impl.StateOf(list), impl.StateOf(even); !sameRecords(before, after) {
			t.Errorf("StateOf(%v) = %v, but %v for %v", list, before, after, even)
		}
		if before, after := impl.StableRecords(list), impl.StableRecords(even); !sameRecords(before, after) {
			t.Errorf("StableRecords(%v) = %v, but %v for %v", list, before, after, even)
		}
	}
}

func TestEvenAtTheEdges(t *testing.T) {
	packed := with(free(6, 1), func(b *impl.Batch) { b.Packed = true })
	for _, e := range []struct {
		why        string
		list, want []impl.Batch
	}{
		{"no batches", nil, nil},
		{"one batch", []impl.Batch{free(3, 2)}, []impl.Batch{free(3, 2)}},
		{"two batches", []impl.Batch{free(3, 2), free(5, 1)}, []impl.Batch{free(3, 3)}},
		{"two batches of six records", []impl.Batch{free(3, 2), free(5, 4)}, []impl.Batch{free(3, 6)}},
		{"two batches of seven records", []impl.Batch{free(3, 3), free(6, 4)}, []impl.Batch{free(3, 3), free(6, 4)}},
		{"eight batches of one record", edgeLogs()[2], []impl.Batch{free(0, 6), free(6, 2)}},
		{"the first ones fill up, and the others begin again", []impl.Batch{free(0, 4), free(4, 2), free(6, 1), free(7, 5), free(12, 1)}, []impl.Batch{free(0, 6), free(6, 6), free(12, 1)}},
		{"a batch that does not fit is joined with the next one", []impl.Batch{free(0, 4), free(4, 3), free(7, 3)}, []impl.Batch{free(0, 4), free(4, 6)}},
		{"a small one behind one that did not fit is not put ahead", []impl.Batch{free(0, 4), free(4, 6), free(10, 2)}, []impl.Batch{free(0, 4), free(4, 6), free(10, 2)}},
		{"a mark between", []impl.Batch{free(0, 1), fine(3, 1), free(2, 1), free(3, 1)}, []impl.Batch{free(0, 1), fine(3, 1), free(2, 2)}},
		{"a producer between", []impl.Batch{free(0, 1), open(3, 1, 1), open(3, 2, 1), free(3, 1)}, []impl.Batch{free(0, 1), open(3, 1, 1), open(3, 2, 1), free(3, 1)}},
		{"only one is packed", []impl.Batch{free(0, 1), free(5, 1), packed, free(7, 1)}, []impl.Batch{freeOf(impl.Record{}, impl.Record{Offset: 5}), packed, free(7, 1)}},
	} {
		t.Run(e.why, func(t *testing.T) { wantEven(t, e.list, e.want) })
	}
}

func TestCutsOfInvalidSegments(t *testing.T) {
	for _, list := range invalidLogs() {
		for _, offset := range []int{math.MinInt, -1, 0, 1, 5, 6, 7, 400, 99999, 100000, math.MaxInt} {
			wantNoLogCut(t, list, offset)
		}
		if got, ok := impl.LogEven(list); ok || len(got) != 0 {
			t.Errorf("LogEven(%v) = %v, %v, want none, false", list, got, ok)
		}
	}
}

func TestCutsShareNoMemory(t *testing.T) {
	wantNoSharing(t, "BatchCut", func(list []impl.Batch) []impl.Batch {
		a, b, _ := impl.BatchCut(list[0], 3)
		return []impl.Batch{a, b}
	})
	wantNoSharing(t, "BatchJoin", func(list []impl.Batch) []impl.Batch {
		b, _ := impl.BatchJoin(list[0], impl.Batch{Producer: impl.NoProducer, Records: list[1].Records})
		return []impl.Batch{b}
	})
	for _, offset := range []int{3, 5, 100} {
		wantNoSharing(t, "LogCut", func(list []impl.Batch) []impl.Batch {
			result, _ := impl.LogCut(list, offset)
			return result
		})
	}
	wantNoSharing(t, "LogEven", func(list []impl.Batch) []impl.Batch {
		result, _ := impl.LogEven(list)
		return result
	})
	wantNoSharing(t, "LogEven of batches that are joined", func(list []impl.Batch) []impl.Batch {
		list[1].Producer, list[1].Packed = impl.NoProducer, false
		defer func() { list[1].Producer, list[1].Packed = 1, true }()
		result, _ := impl.LogEven(list)
		return result
	})
}
