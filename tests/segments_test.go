package tests

import (
	"math/rand/v2"
	"slices"
	"testing"

	"loop.example/recordbatches/impl"
)

// movedBy returns a batch with its offsets changed by a number.
func movedBy(b impl.Batch, by int) impl.Batch {
	return with(b, func(b *impl.Batch) {
		for i := range b.Records {
			b.Records[i].Offset += by
		}
	})
}

// lastOffset is the last offset of a batch.
func lastOffset(b impl.Batch) int {
	return b.Records[len(b.Records)-1].Offset
}

// free is a batch without a producer, with so many records from an offset on.
func free(offset, many int) impl.Batch {
	return impl.Batch{Producer: impl.NoProducer, Records: bareRecords(offset, many)}
}

// markAt is a mark of the producer 3.
func markAt(offset, time int) impl.Batch {
	return impl.Batch{Mark: true, Producer: 3, Records: []impl.Record{{Offset: offset, Time: time, HasValue: true, Value: []int{1}}}}
}

// randomLog is a segment of so many batches: some begin right behind the last offset before, others with a gap, and times go back, or are few.
func randomLog(random *rand.Rand, many int) []impl.Batch {
	list, next, times := []impl.Batch{}, random.IntN(2)*random.IntN(30), []int{3, 50, 100000}[random.IntN(3)]
	for range many {
		b := randomBatch(random)
		b = movedBy(b, next+random.IntN(2)*random.IntN(50)-b.Records[0].Offset)
		for i := range b.Records {
			b.Records[i].Time %= times
		}
		list = append(list, b)
		next = lastOffset(b) + 1
	}
	return list
}

// edgeLogs are segments of as many bytes as there may be, of as few, right behind one another up to the greatest offset, and of marks only.
func edgeLogs() [][]impl.Batch {
	great, packed, small, last, marks := []impl.Batch{}, []impl.Batch{}, []impl.Batch{}, []impl.Batch{}, []impl.Batch{}
	for i := range 8 {
		b := impl.Batch{Producer: 254, Epoch: 99, Seq: 9999}
		for k := range 6 {
			b.Records = append(b.Records, fullRecord(12000*i+2000*k, 99999*(k%2)))
		}
		great = append(great, b)
		packed = append(packed, with(b, func(b *impl.Batch) { b.Packed = true }))
		small = append(small, free(i, 1))
		last = append(last, free(100000-8*6+6*i, 6))
		marks = append(marks, markAt(10*i, 80-10*i))
	}
	return [][]impl.Batch{great, packed, small, last, marks, last[:1], last[7:], {free(99999, 1)}, {free(0, 1), free(99999, 1)}}
}

// someLogs are segments of 0 to 8 batches, packed and not packed, with and without producers, and marks.
func someLogs() [][]impl.Batch {
	result := append(edgeLogs(), nil)
	random := rand.New(rand.NewPCG(7, 52))
	for many := range 9 {
		for range 12 {
			result = append(result, randomLog(random, many))
		}
	}
	return result
}

// invalidLogs are batches that are no segment, each for one reason.
func invalidLogs() [][]impl.Batch {
	result := [][]impl.Batch{
		append(edgeLogs()[2], free(8, 1)),
		slices.Repeat([]impl.Batch{free(0, 1)}, 300),
		{free(0, 1), free(0, 1)},
		{free(5, 1), free(4, 1)},
		{free(5, 3), free(5, 3)},
		{free(5, 3), free(7, 3)},
		{free(5, 3), free(6, 1)},
		{free(5, 3), free(0, 1)},
		{free(5, 3), free(4, 6)},
		{free(0, 1), free(5, 3), free(1, 1)},
		{free(0, 1), free(99999, 1), free(99999, 1)},
		{markAt(3, 3), markAt(3, 3)},
		{markAt(3, 3), markAt(2, 4)},
		{free(5, 3), markAt(7, 0)},
	}
	for _, bad := range invalidBatches() {
		result = append(result, []impl.Batch{bad}, []impl.Batch{bad, free(400, 2)}, []impl.Batch{free(0, 2), free(3, 2), bad, free(400, 2)})
	}
	return result
}

// sameBatches reports whether batches are equal; a nil slice and an empty one are.
func sameBatches(a, b []impl.Batch) bool {
	return slices.EqualFunc(a, b, sameBatch)
}

// deepCopy returns batches that share no memory with others.
func deepCopy(list []impl.Batch) []impl.Batch {
	result := slices.Clone(list)
	for i := range result {
		result[i].Records = slices.Clone(result[i].Records)
		for k, r := range result[i].Records {
			result[i].Records[k].Key, result[i].Records[k].Value = slices.Clone(r.Key), slices.Clone(r.Value)
		}
	}
	return result
}

// overwriteRecords changes all that records hold, up to their capacity.
func overwriteRecords(list []impl.Record) {
	for _, r := range list {
		for _, part := range [][]int{r.Key, r.Value} {
			for i := range part[:cap(part)] {
				part[:cap(part)][i] = 77
			}
		}
	}
	for i := range list[:cap(list)] {
		list[:cap(list)][i] = impl.Record{Offset: 77777, Time: 77777}
	}
}

// overwrite changes all that batches hold, up to their capacity.
func overwrite(list []impl.Batch) {
	for _, b := range list {
		overwriteRecords(b.Records)
	}
	for i := range list[:cap(list)] {
		list[:cap(list)][i] = impl.Batch{Producer: 77}
	}
}

// sharedLog is a segment whose records all have parts of the same memory, with more capacity than they need.
func sharedLog() []impl.Batch {
	part := upTo(1, 9)
	records := []impl.Record{
		{Offset: 2, Time: 3, HasKey: true, Key: part[:2], HasValue: true, Value: part[:2]},
		{Offset: 4, Time: 1, HasKey: true, Key: part[:4], HasValue: true, Value: part[3:3]},
		{Offset: 6, Time: 2, HasValue: true, Value: part[2:5]},
		{Offset: 8, Time: 9, HasValue: true, Value: part},
	}
	list := []impl.Batch{
		{Producer: impl.NoProducer, Records: records[:2]},
		{Producer: 1, Packed: true, Records: records[2:3]},
		{Producer: 1, Mark: true, Records: records[3:]},
		free(77, 1),
	}
	return list[:3]
}

// wantNoSharing checks that what a function makes of a segment neither changes it nor shares memory with it: both are overwritten in turn.
func wantNoSharing(t *testing.T, name string, do func(list []impl.Batch) []impl.Batch) {
	t.Helper()
	list := sharedLog()
	before := deepCopy(list[:cap(list)])
	first, second := do(list), do(list)
	want := deepCopy(second)
	if len(want) == 0 {
		t.Errorf("%s returned nothing", name)
	}
	// A slice that another one of the same result shares would have been changed before it is compared.
	for i, b := range first {
		for k, r := range b.Records {
			if !sameRecord(r, want[i].Records[k]) {
				t.Errorf("%s returned %v, whose slices share memory", name, first)
			}
			overwriteRecords([]impl.Record{{Key: r.Key}})
			if !slices.Equal(r.Value, want[i].Records[k].Value) {
				t.Errorf("%s returned %v, whose slices share memory", name, first)
			}
			overwriteRecords([]impl.Record{{Value: r.Value}})
		}
	}
	overwrite(first)
	if !sameBatches(list[:cap(list)], before) {
		t.Errorf("%s: the argument was changed to %v by its result", name, list)
	}
	overwrite(list)
	if !sameBatches(second, want) {
		t.Errorf("%s: the result was changed to %v by its argument", name, second)
	}
}

// mustLogBytes returns the bytes of a segment.
func mustLogBytes(t *testing.T, list []impl.Batch) []int {
	t.Helper()
	bytes, ok := impl.LogBytes(list)
	if !ok {
		t.Fatalf("LogBytes(%v) failed", list)
	}
	return bytes
}

// mustAppend returns a segment with a batch behind it.
func mustAppend(t *testing.T, list []impl.Batch, b impl.Batch) []impl.Batch {
	t.Helper()
	result, ok := impl.LogAppend(list, b)
	if !ok {
		t.Fatalf("LogAppend(%v, %v) failed", list, b)
	}
	return result
}

// wantScan checks what LogScan returns.
func wantScan(t *testing.T, why string, bytes []int, list []impl.Batch, size, code int) {
	t.Helper()
	before := slices.Clone(bytes)
	got, n, end := impl.LogScan(bytes)
	if !sameBatches(got, list) || n != size || end != code {
		t.Errorf("%s: LogScan(%v) = %v, %d, %d, want %v, %d, %d", why, bytes, got, n, end, list, size, code)
	}
	if !slices.Equal(bytes, before) {
		t.Errorf("LogScan changed %v to %v", before, bytes)
	}
}

// wantNoLog checks that batches are no segment.
func wantNoLog(t *testing.T, list []impl.Batch) {
	t.Helper()
	if impl.LogValid(list) {
		t.Errorf("%v is valid", list)
	}
	if got, ok := impl.LogBytes(list); ok || len(got) != 0 {
		t.Errorf("LogBytes(%v) = %v, %v, want none, false", list, got, ok)
	}
	wantNotAppended(t, list, free(0, 1))
}

// wantNotAppended checks that LogAppend fails with zero values.
func wantNotAppended(t *testing.T, list []impl.Batch, b impl.Batch) {
	t.Helper()
	if got, ok := impl.LogAppend(list, b); ok || len(got) != 0 {
		t.Errorf("LogAppend(%v, %v) = %v, %v, want none, false", list, b, got, ok)
	}
}

func TestCodesOfSegments(t *testing.T) {
	if impl.LogMax != 8 || impl.ScanEnd != 0 || impl.ScanTorn != 1 || impl.ScanBad != 2 || impl.ScanOrder != 3 {
		t.Errorf("the constants are %d, %d, %d, %d and %d", impl.LogMax, impl.ScanEnd, impl.ScanTorn, impl.ScanBad, impl.ScanOrder)
	}
}

// Promise 52.
func TestSegmentIsScanned(t *testing.T) {
	for _, list := range someLogs() {
		if !impl.LogValid(list) {
			t.Errorf("%v is not valid", list)
		}
		bytes := mustLogBytes(t, list)
		wantScan(t, "whole", bytes, list, len(bytes), impl.ScanEnd)
	}
}

// Promises 53 and 54: a segment that is torn at each place.
func TestTornSegment(t *testing.T) {
	for _, list := range someLogs() {
		bytes := mustLogBytes(t, list)
		whole, size := 0, 0
		for many := range len(bytes) + 1 {
			if whole < len(list) && many-size == len(mustBatchBytes(t, list[whole])) {
				whole, size = whole+1, many
			}
			code := impl.ScanTorn
			if many == size {
				code = impl.ScanEnd
			}
			wantScan(t, "torn", bytes[:many], list[:whole], size, code)
		}
		if whole != len(list) {
			t.Errorf("only %d batches of %v were told apart", whole, list)
		}
	}
}

// Promises 55 and 56, for segments of which any one byte is another one.
func TestScannedBatchesHaveTheBytesTheyWereReadFrom(t *testing.T) {
	codes := map[int]int{}
	random := rand.New(rand.NewPCG(55, 56))
	for _, list := range someLogs() {
		bytes := mustLogBytes(t, list)
		for i := range bytes {
			damaged := slices.Clone(bytes)
			damaged[i] = random.IntN(256)
			got, size, code := impl.LogScan(damaged)
			if !impl.LogValid(got) || !slices.Equal(mustLogBytes(t, got), damaged[:size]) {
				t.Errorf("LogScan(%v) = %v, %d, %d, which has other bytes", damaged, got, size, code)
			}
			wantScan(t, "the good bytes", damaged[:size], got, size, impl.ScanEnd)
			codes[code]++
		}
	}
	if len(codes) != 4 || codes[impl.ScanOrder] < 10 {
		t.Errorf("the codes were %v", codes)
	}
}

// Promise 57, and that of each batch twice.
func TestSegmentTwice(t *testing.T) {
	for _, list := range someLogs() {
		bytes := mustLogBytes(t, list)
		code := impl.ScanOrder
		if len(list) == 0 || len(list) == 8 {
			code = impl.ScanEnd
		}
		wantScan(t, "twice", slices.Concat(bytes, bytes), list, len(bytes), code)
		for i, b := range list {
			good := mustLogBytes(t, list[:i+1])
			twice := slices.Concat(good, mustBatchBytes(t, b), mustLogBytes(t, list[i+1:]))
			code := impl.ScanOrder
			if i == 7 {
				code = impl.ScanEnd
			}
			wantScan(t, "one twice", twice, list[:i+1], len(good), code)
		}
	}
}

func TestDamagedBytesOfASegment(t *testing.T) {
	for _, list := range someLogs()[:60] {
		bytes := mustLogBytes(t, list)
		at := 0
		for i, b := range list {
			size := len(mustBatchBytes(t, b))
			// Behind the number of bytes: what is left is always enough.
			for k := at + 5; k < at+size; k++ {
				damaged := slices.Clone(bytes)
				damaged[k] = (damaged[k] + 1) % 256
				wantScan(t, "damaged", damaged, list[:i], at, impl.ScanBad)
			}
			at += size
		}
	}
}

// A batch that is read from other bytes than its own is found where they begin, or not at all.
func TestWhyNoBatchFollows(t *testing.T) {
	good := []impl.Batch{free(5, 3), markAt(10, 7)}
	ahead := mustLogBytes(t, good)
	next := mustBatchBytes(t, free(20, 2))
	damaged := slices.Clone(next)
	damaged[20]++
	early := mustBatchBytes(t, free(10, 2))
	badEarly := slices.Clone(early)
	badEarly[20]++
	told := func(bytes []int, size int) []int {
		bytes = slices.Clone(bytes)
		bytes[3], bytes[4] = size/256, size%256
		return bytes
	}
	for _, e := range []struct {
		why    string
		behind []int
		code   int
	}{
		{"nothing", nil, impl.ScanEnd},
		{"one byte", []int{0}, impl.ScanTorn},
		{"17 bytes, of which 10 are told", told(make([]int, 17), 10), impl.ScanTorn},
		{"17 bytes, of which none are told", make([]int, 17), impl.ScanTorn},
		{"18 bytes, of which none are told", make([]int, 18), impl.ScanBad},
		{"18 bytes, of which all are told", told(make([]int, 18), 11), impl.ScanBad},
		{"18 bytes, and one more told", told(make([]int, 18), 12), impl.ScanTorn},
		{"300 bytes, and all are told", told(make([]int, 300), 293), impl.ScanBad},
		{"300 bytes, and one more is told", told(make([]int, 300), 294), impl.ScanTorn},
		{"300 bytes, and 65535 are told", told(make([]int, 300), 65535), impl.ScanTorn},
		{"255 only", slices.Repeat([]int{255}, 100), impl.ScanTorn},
		{"a batch without its last byte", next[:len(next)-1], impl.ScanTorn},
		{"a batch that tells a byte more", told(next, len(next)-6), impl.ScanTorn},
		{"a batch that tells a byte less", told(next, len(next)-8), impl.ScanBad},
		{"a batch that is damaged", damaged, impl.ScanBad},
		{"a batch that is damaged and torn", damaged[:len(damaged)-1], impl.ScanTorn},
		{"a batch that begins at the last offset", early, impl.ScanOrder},
		{"a batch that begins there, and is damaged", badEarly, impl.ScanBad},
		{"a batch that begins there, and is torn", early[:len(early)-1], impl.ScanTorn},
		{"a batch that begins there, and one in order", slices.Concat(early, next), impl.ScanOrder},
		{"a batch that begins at 0", mustBatchBytes(t, free(0, 1)), impl.ScanOrder},
		{"a batch within the first one", mustBatchBytes(t, free(6, 1)), impl.ScanOrder},
		{"a batch that begins earlier and ends later", mustBatchBytes(t, free(8, 6)), impl.ScanOrder},
		{"a message of the old form", messages[0].bytes, impl.ScanTorn},
	} {
		wantScan(t, e.why, slices.Concat(ahead, e.behind), good, len(ahead), e.code)
		if e.code != impl.ScanOrder {
			wantScan(t, e.why+" at the beginning", e.behind, nil, 0, e.code)
		}
	}
	behind := []impl.Batch{good[0], good[1], free(11, 1)}
	wantScan(t, "right behind", mustLogBytes(t, behind), behind, len(ahead)+23, impl.ScanEnd)
}

func TestBytesBehindAFullSegment(t *testing.T) {
	for _, list := range [][]impl.Batch{edgeLogs()[0], edgeLogs()[1], edgeLogs()[2], edgeLogs()[4]} {
		bytes := mustLogBytes(t, list)
		for _, behind := range [][]int{{0}, {255}, make([]int, 18), slices.Repeat([]int{255}, 18), bytes, mustBatchBytes(t, free(99999, 1)), mustBatchBytes(t, free(0, 1))} {
			wantScan(t, "full", slices.Concat(bytes, behind), list, len(bytes), impl.ScanEnd)
		}
		wantScan(t, "full, but no byte", slices.Concat(bytes, []int{256}), nil, 0, impl.ScanBad)
	}
}

func TestSegmentsOfNumbersThatAreNoBytes(t *testing.T) {
	list := []impl.Batch{free(5, 3), batches[3].batch}
	bytes := slices.Concat(mustLogBytes(t, list), []int{0, 1, 2})
	wantScan(t, "with bytes behind", bytes, list, len(bytes)-3, impl.ScanTorn)
	for _, bad := range noBytes {
		for i := range bytes {
			spoilt := slices.Clone(bytes)
			spoilt[i] = bad
			wantScan(t, "no byte", spoilt, nil, 0, impl.ScanBad)
		}
		wantScan(t, "no byte alone", []int{bad}, nil, 0, impl.ScanBad)
	}
}

// Promises 58 and 59.
func TestAppendedBatchFollows(t *testing.T) {
	for i, list := range someLogs() {
		next := 0
		if len(list) > 0 {
			next = lastOffset(list[len(list)-1]) + 1
		}
		for _, b := range someBatches()[i : i+5] {
			want := with(b, func(b *impl.Batch) {
				for k := range b.Records {
					b.Records[k].Offset = next + k
				}
			})
			if len(list) == 8 || next+len(b.Records) > 100000 {
				wantNotAppended(t, list, b)
				continue
			}
			got := mustAppend(t, list, b)
			if !impl.LogValid(got) || !sameBatches(got, append(slices.Clone(list), want)) {
				t.Errorf("LogAppend(%v, %v) = %v, want %v behind", list, b, got, want)
			}
		}
	}
}

// Promise 60.
func TestBatchThatWasAppendedIsAppendedAgain(t *testing.T) {
	for i, list := range someLogs() {
		b := someBatches()[i]
		got, ok := impl.LogAppend(list, b)
		if !ok {
			continue
		}
		if again := mustAppend(t, list, got[len(list)]); !sameBatches(again, got) {
			t.Errorf("LogAppend(%v, %v) = %v, but %v for the last one of it", list, b, got, again)
		}
	}
}

func TestAppendUpToTheGreatestOffset(t *testing.T) {
	for many := 1; many <= 6; many++ {
		list := []impl.Batch{free(99999-many, 1)}
		if got := mustAppend(t, list, free(0, many)); lastOffset(got[1]) != 99999 || got[1].Records[0].Offset != 100000-many {
			t.Errorf("LogAppend = %v", got)
		}
		wantNotAppended(t, []impl.Batch{free(100000-many, 1)}, free(0, many))
		wantNotAppended(t, []impl.Batch{free(99999, 1)}, free(0, many))
	}
}

func TestAppendUpToTheGreatestNumberOfBatches(t *testing.T) {
	var list []impl.Batch
	for i := range 8 {
		// Where its own records are does not matter.
		list = mustAppend(t, list, free(99000*(i%2), 1+i%3))
	}
	want := []int{0, 1, 3, 6, 7, 9, 12, 13}
	for i, b := range list {
		if b.Records[0].Offset != want[i] {
			t.Errorf("the batches begin elsewhere than %v: %v", want, list)
		}
	}
	wantNotAppended(t, list, free(0, 1))
	wantNotAppended(t, list, free(14, 1))
}

func TestAppendOfInvalidBatches(t *testing.T) {
	for _, bad := range invalidBatches() {
		for _, list := range [][]impl.Batch{nil, {free(0, 1)}, {free(3, 6), markAt(50, 0)}} {
			wantNotAppended(t, list, bad)
		}
	}
}

// Promise 61.
func TestSegmentWithoutABatchAndWithItTwice(t *testing.T) {
	for _, list := range someLogs() {
		for i, b := range list {
			if without := slices.Delete(slices.Clone(list), i, i+1); !impl.LogValid(without) {
				t.Errorf("%v is not valid", without)
			}
			wantNoLog(t, slices.Insert(slices.Clone(list), i, b))
		}
	}
}

// Promise 62.
func TestBytesOfASegmentAreThoseOfItsBatches(t *testing.T) {
	for _, list := range someLogs() {
		want := []int{}
		for _, b := range list {
			want = append(want, mustBatchBytes(t, b)...)
		}
		if got := mustLogBytes(t, list); !slices.Equal(got, want) {
			t.Errorf("LogBytes(%v) = %v, want %v", list, got, want)
		}
	}
}

func TestInvalidSegments(t *testing.T) {
	for _, list := range invalidLogs() {
		wantNoLog(t, list)
	}
}

func TestSegmentsShareNoMemory(t *testing.T) {
	wantNoSharing(t, "LogAppend", func(list []impl.Batch) []impl.Batch {
		return mustAppend(t, list, list[0])
	})
	wantNoSharing(t, "LogAppend to no batches", func(list []impl.Batch) []impl.Batch {
		return mustAppend(t, nil, list[0])
	})
	wantNoSharing(t, "LogScan", func(list []impl.Batch) []impl.Batch {
		bytes := mustLogBytes(t, list)
		result, _, _ := impl.LogScan(bytes)
		clear(bytes)
		return result
	})
}
