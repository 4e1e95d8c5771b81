package tests

import (
	"math"
	"math/rand/v2"
	"slices"
	"testing"

	"loop.example/recordbatches/impl"
)

// fullRecord is a record with a key and a value of as many bytes as there may be.
func fullRecord(offset, time int) impl.Record {
	return impl.Record{Offset: offset, Time: time, HasKey: true, Key: slices.Repeat([]int{offset % 256}, 12), HasValue: true, Value: upTo(offset%200, offset%200+12)}
}

// bareRecords are so many records without keys and values, from an offset on.
func bareRecords(offset, many int) []impl.Record {
	result := []impl.Record{}
	for i := range many {
		result = append(result, impl.Record{Offset: offset + i})
	}
	return result
}

// batches are batches with bytes worked out by hand from the document; the sums were computed apart from the program.
var batches = []struct {
	why   string
	batch impl.Batch
	bytes []int
}{
	{"without a producer", impl.Batch{Producer: 255, Records: []impl.Record{{Offset: 5, Time: 10, HasValue: true, Value: []int{7}}}},
		[]int{0, 0, 5, 0, 17, 245, 190, 0, 255, 0, 0, 0, 0, 0, 10, 1, 0, 0, 10, 0, 0, 1, 2, 7}},
	{"of the first producer, with times that go back", impl.Batch{Producer: 0, Epoch: 99, Seq: 9999, Records: []impl.Record{
		{Offset: 258, Time: 70000, HasKey: true, Key: []int{9}}, {Offset: 300, Time: 69999, HasValue: true, Value: []int{8}}}},
		[]int{0, 1, 2, 0, 23, 38, 255, 0, 0, 99, 39, 15, 1, 17, 112, 2, 0, 0, 10, 0, 0, 2, 9, 1, 10, 1, 84, 1, 2, 8}},
	{"of the last producer, packed, with six records", impl.Batch{Packed: true, Producer: 254, Records: bareRecords(0, 6)},
		[]int{0, 0, 0, 0, 38, 64, 121, 1, 254, 0, 0, 0, 0, 0, 0, 6, 0, 0,
			7, 8, 0, 0, 1, 1, 8, 0, 2, 65, 5, 0, 4, 65, 5, 0, 6, 65, 5, 0, 8, 65, 5, 2, 10, 1, 1}},
	{"a mark", impl.Batch{Mark: true, Producer: 3, Epoch: 4, Seq: 5, Records: []impl.Record{{Offset: 99999, Time: 99999, HasValue: true, Value: []int{1}}}},
		[]int{1, 134, 159, 0, 17, 16, 95, 2, 3, 4, 0, 5, 1, 134, 159, 1, 0, 0, 10, 0, 0, 1, 2, 1}},
	{"a mark that is packed", impl.Batch{Packed: true, Mark: true, Producer: 254, Epoch: 99, Seq: 9999, Records: []impl.Record{{Offset: 99999, Time: 99999, HasValue: true, Value: []int{1}}}},
		[]int{1, 134, 159, 0, 18, 226, 185, 3, 254, 99, 39, 15, 1, 134, 159, 1, 0, 0, 5, 10, 0, 0, 1, 2, 1}},
}

// someBatches are the batches worked out by hand, the greatest ones, and many others.
func someBatches() []impl.Batch {
	result := []impl.Batch{}
	for _, e := range batches {
		result = append(result, e.batch)
	}
	great := impl.Batch{Producer: 0}
	for i := range 6 {
		great.Records = append(great.Records, fullRecord(i*19999, 99999*(i%2)))
	}
	packed := great
	packed.Packed = true
	result = append(result, great, packed)
	random := rand.New(rand.NewPCG(5, 34))
	for range 600 {
		result = append(result, randomBatch(random))
	}
	return result
}

func randomBatch(random *rand.Rand) impl.Batch {
	b := impl.Batch{Packed: random.IntN(2) == 0, Producer: impl.NoProducer}
	many := 1 + random.IntN(6)
	if random.IntN(3) > 0 {
		b.Producer, b.Epoch, b.Seq = random.IntN(255), random.IntN(100), random.IntN(10000)
		b.Mark = random.IntN(3) == 0
	}
	if b.Mark {
		many = 1
	}
	offset := random.IntN(99000)
	for range many {
		r := randomRecord(random)
		r.Offset = offset
		offset += 1 + random.IntN(100)
		b.Records = append(b.Records, r)
	}
	return b
}

// someReals are batches without a producer and of one, from which invalid ones are made.
func someReals() []impl.Batch {
	free := impl.Batch{Producer: impl.NoProducer, Records: bareRecords(7, 3)}
	numbered := impl.Batch{Packed: true, Producer: 8, Epoch: 1, Seq: 2, Records: bareRecords(7, 3)}
	return []impl.Batch{free, numbered}
}

// with returns a batch that is changed, and leaves the one it was as it is.
func with(b impl.Batch, change func(b *impl.Batch)) impl.Batch {
	b.Records = slices.Clone(b.Records)
	change(&b)
	return b
}

// invalidBatches are batches that are not valid, each for one reason.
func invalidBatches() []impl.Batch {
	result := []impl.Batch{{}, {Producer: impl.NoProducer}}
	for _, b := range someReals() {
		result = append(result,
			with(b, func(b *impl.Batch) { b.Records = nil }),
			with(b, func(b *impl.Batch) { b.Records = bareRecords(0, 7) }),
			with(b, func(b *impl.Batch) { b.Records = bareRecords(0, 300) }),
			with(b, func(b *impl.Batch) { b.Records[1].Offset = 7 }),
			with(b, func(b *impl.Batch) { b.Records[2].Offset = 7 }),
			with(b, func(b *impl.Batch) { b.Records[2].Offset = 8 }),
			with(b, func(b *impl.Batch) { b.Records[0].Offset = 10 }),
			with(b, func(b *impl.Batch) { b.Mark = true }),
		)
		for i := range b.Records {
			for _, r := range invalidRecords() {
				result = append(result, with(b, func(b *impl.Batch) { b.Records[i] = r }))
			}
		}
		for _, n := range []int{-1, -2, 100, 101, 256, math.MaxInt, math.MinInt} {
			result = append(result, with(b, func(b *impl.Batch) { b.Epoch = n }))
		}
		for _, n := range []int{-1, -2, 10000, 10001, 65536, math.MaxInt, math.MinInt} {
			result = append(result, with(b, func(b *impl.Batch) { b.Seq = n }))
		}
		for _, n := range []int{-1, -2, 256, 257, math.MaxInt, math.MinInt} {
			result = append(result, with(b, func(b *impl.Batch) { b.Producer = n }))
		}
	}
	free := someReals()[0]
	return append(result,
		with(free, func(b *impl.Batch) { b.Epoch = 1 }),
		with(free, func(b *impl.Batch) { b.Epoch = 99 }),
		with(free, func(b *impl.Batch) { b.Seq = 1 }),
		with(free, func(b *impl.Batch) { b.Seq = 9999 }),
		with(free, func(b *impl.Batch) { b.Mark, b.Records = true, b.Records[:1] }),
		with(free, func(b *impl.Batch) { b.Mark, b.Producer, b.Records = true, 1, b.Records[:2] }),
		with(free, func(b *impl.Batch) { b.Mark, b.Producer, b.Records = true, 1, nil }),
	)
}

// sealed returns bytes with what is ahead of the sum, and the right sum, ahead of them.
func sealed(offset int, summed ...[]int) []int {
	all, sum := slices.Concat(summed...), 1
	for _, b := range all {
		sum = (sum*257 + b) % 65521
	}
	many := len(all)
	return slices.Concat([]int{offset / 65536, offset / 256 % 256, offset % 256, many / 256, many % 256, sum / 256, sum % 256}, all)
}

// sameBatch reports whether two batches are equal; a nil slice and an empty one are.
func sameBatch(a, b impl.Batch) bool {
	return a.Packed == b.Packed && a.Mark == b.Mark && a.Producer == b.Producer && a.Epoch == b.Epoch && a.Seq == b.Seq &&
		slices.EqualFunc(a.Records, b.Records, sameRecord)
}

// mustBatchBytes returns the bytes of a batch.
func mustBatchBytes(t *testing.T, b impl.Batch) []int {
	t.Helper()
	bytes, ok := impl.BatchBytes(b)
	if !ok {
		t.Fatalf("BatchBytes(%v) failed", b)
	}
	return bytes
}

// wantBatch checks that BatchFrom succeeds with a batch and a place behind it.
func wantBatch(t *testing.T, bytes []int, at int, b impl.Batch, next int) {
	t.Helper()
	if got, behind, ok := impl.BatchFrom(bytes, at); !ok || behind != next || !sameBatch(got, b) {
		t.Errorf("BatchFrom(%v, %d) = %v, %d, %v, want %v, %d", bytes, at, got, behind, ok, b, next)
	}
}

// wantNoBatch checks that BatchFrom fails with zero values.
func wantNoBatch(t *testing.T, why string, bytes []int, at int) {
	t.Helper()
	if b, next, ok := impl.BatchFrom(bytes, at); ok || next != 0 || !sameBatch(b, impl.Batch{}) {
		t.Errorf("%s: BatchFrom(%v, %d) = %v, %d, %v, want none, 0, false", why, bytes, at, b, next, ok)
	}
}

// wantSameBatchBack checks promise 37: what BatchFrom reads has the bytes it was read from. It tells whether there is a batch.
func wantSameBatchBack(t *testing.T, bytes []int, at int) bool {
	t.Helper()
	b, next, ok := impl.BatchFrom(bytes, at)
	if !ok {
		wantNoBatch(t, "none", bytes, at)
		return false
	}
	if !impl.BatchValid(b) || next > len(bytes) || !slices.Equal(mustBatchBytes(t, b), bytes[at:next]) {
		t.Errorf("BatchFrom(%v, %d) = %v, %d, which has other bytes", bytes, at, b, next)
	}
	return true
}

func TestLimitsOfBatches(t *testing.T) {
	if impl.BatchMax != 6 || impl.HeadSize != 18 || impl.NoProducer != 255 {
		t.Errorf("the limits are %d, %d and %d", impl.BatchMax, impl.HeadSize, impl.NoProducer)
	}
}

func TestBatchesAtTheEdges(t *testing.T) {
	for _, e := range batches {
		if !impl.BatchValid(e.batch) {
			t.Errorf("%s: %v is not valid", e.why, e.batch)
		}
		if got, ok := impl.BatchBytes(e.batch); !ok || !slices.Equal(got, e.bytes) {
			t.Errorf("%s: BatchBytes(%v) = %v, %v, want %v", e.why, e.batch, got, ok, e.bytes)
		}
		wantBatch(t, e.bytes, 0, e.batch, len(e.bytes))
	}
}

// Promise 34.
func TestBatchIsReadBack(t *testing.T) {
	for _, b := range someBatches() {
		bytes := mustBatchBytes(t, b)
		wantBatch(t, bytes, 0, b, len(bytes))
	}
}

func TestBatchIsReadAtAnyPlace(t *testing.T) {
	for _, e := range batches {
		for _, ahead := range [][]int{{}, {0}, slices.Repeat([]int{255}, 20), batches[0].bytes} {
			for _, behind := range [][]int{{}, {0}, {255, 255}, batches[1].bytes} {
				bytes := slices.Concat(ahead, e.bytes, behind)
				before := slices.Clone(bytes)
				wantBatch(t, bytes, len(ahead), e.batch, len(ahead)+len(e.bytes))
				if !slices.Equal(bytes, before) {
					t.Errorf("BatchFrom changed %v to %v", before, bytes)
				}
			}
		}
	}
}

func TestProducersOfBatchesAtTheEdges(t *testing.T) {
	for _, producer := range []int{0, 1, 253, 254} {
		for _, epoch := range []int{0, 1, 98, 99} {
			for _, seq := range []int{0, 1, 255, 256, 9998, 9999} {
				for _, mark := range []bool{false, true} {
					b := impl.Batch{Mark: mark, Producer: producer, Epoch: epoch, Seq: seq, Records: bareRecords(99999, 1)}
					bytes := mustBatchBytes(t, b)
					if got := bytes[8:12]; !slices.Equal(got, []int{producer, epoch, seq / 256, seq % 256}) {
						t.Errorf("BatchBytes(%v) tells %v", b, got)
					}
					wantBatch(t, bytes, 0, b, len(bytes))
				}
			}
		}
	}
}

func TestEachNumberOfRecords(t *testing.T) {
	for many := 1; many <= 6; many++ {
		for _, offset := range []int{0, 99999 - many + 1} {
			b := impl.Batch{Producer: impl.NoProducer, Records: bareRecords(offset, many)}
			bytes := mustBatchBytes(t, b)
			if bytes[15] != many || len(bytes) != 18+5*many {
				t.Errorf("BatchBytes(%v) = %v", b, bytes)
			}
			wantBatch(t, bytes, 0, b, len(bytes))
		}
	}
}

// Promise 35.
func TestBatchBeginsWithItsOffsetAndItsSize(t *testing.T) {
	for _, b := range someBatches() {
		bytes := mustBatchBytes(t, b)
		if got := (bytes[0]*256+bytes[1])*256 + bytes[2]; got != b.Records[0].Offset {
			t.Errorf("BatchBytes(%v) begins with %v", b, bytes[:3])
		}
		if got := bytes[3]*256 + bytes[4]; got != len(bytes)-7 {
			t.Errorf("BatchBytes(%v) tells %d bytes behind the sum of %d", b, got, len(bytes)-7)
		}
		if got := bytes[5]*256 + bytes[6]; got != impl.SumOf(bytes[7:]) {
			t.Errorf("BatchBytes(%v) tells the sum %d", b, got)
		}
	}
}

// Promise 36, for each byte behind the fifth one, the sum included.
func TestDamagedByteIsNoticed(t *testing.T) {
	for _, b := range someBatches() {
		bytes := mustBatchBytes(t, b)
		for i := 5; i < len(bytes); i++ {
			damaged := slices.Clone(bytes)
			damaged[i]++
			if bytes[i] == 255 {
				damaged[i] = 254
			}
			wantNoBatch(t, "damaged", damaged, 0)
		}
	}
}

// Promise 37, for batches with any other byte at any place; also the offset, of which the sum tells nothing.
func TestReadBatchHasTheBytesItWasReadFrom(t *testing.T) {
	found := 0
	for _, e := range batches {
		for i := range e.bytes {
			for b := range 256 {
				bytes := slices.Concat([]int{1}, e.bytes, []int{0, 1})
				bytes[1+i] = b
				if wantSameBatchBack(t, bytes, 1) {
					found++
				}
				// The same with a sum that is right, so that all that is behind it is looked at.
				if i >= 7 {
					wantSameBatchBack(t, sealed(e.batch.Records[0].Offset, bytes[8:1+len(e.bytes)]), 0)
				}
			}
		}
	}
	if found < 1000 {
		t.Errorf("only %d batches were read", found)
	}
}

// The size of a batch is ahead of what is summed up, so it must be held against all the rest.
func TestSizeOfABatchThatIsNotItsOwn(t *testing.T) {
	for _, e := range batches {
		for size := range 300 {
			bytes := slices.Concat(e.bytes, make([]int, 300))
			bytes[3], bytes[4] = size/256, size%256
			if size != len(e.bytes)-7 {
				wantNoBatch(t, e.why, bytes, 0)
			}
		}
	}
}

// Promise 38, and all shorter beginnings.
func TestBatchThatEndsTooEarlyIsNone(t *testing.T) {
	for _, b := range someBatches()[:100] {
		bytes := mustBatchBytes(t, b)
		for many := range bytes {
			wantNoBatch(t, "too few", bytes[:many], 0)
		}
		wantNoBatch(t, "behind the last byte", bytes, len(bytes))
		wantNoBatch(t, "at the last byte", bytes, len(bytes)-1)
	}
}

func TestPlacesOfBatchesThatAreNone(t *testing.T) {
	for _, bytes := range [][]int{nil, {0}, batches[0].bytes, make([]int, 18)} {
		for _, at := range []int{-1, -2, math.MinInt, math.MinInt + 1, len(bytes), len(bytes) + 1, math.MaxInt - 1, math.MaxInt} {
			wantNoBatch(t, "place", bytes, at)
		}
	}
}

// Promise 39.
func TestBatchMayBePackedOrNot(t *testing.T) {
	for _, b := range someBatches() {
		first := mustBatchBytes(t, b)[:3]
		for _, packed := range []bool{false, true} {
			other := with(b, func(b *impl.Batch) { b.Packed = packed })
			bytes := mustBatchBytes(t, other)
			if !slices.Equal(bytes[:3], first) {
				t.Errorf("BatchBytes(%v) = %v, but %v begins with %v", other, bytes, b, first)
			}
			wantBatch(t, bytes, 0, other, len(bytes))
		}
	}
}

func TestRecordsOfABatchAreBasedOnTheFirstOne(t *testing.T) {
	for _, b := range someBatches() {
		first, want := b.Records[0], []int{}
		for _, r := range b.Records {
			want = append(want, mustRecordBytes(t, r, first.Offset, first.Time)...)
		}
		if b.Packed {
			want = mustPack(t, want)
		}
		if got := mustBatchBytes(t, b)[18:]; !slices.Equal(got, want) {
			t.Errorf("the records of %v are %v, want %v", b, got, want)
		}
	}
}

// Promise 40.
func TestSpanIsThatOfTheRecords(t *testing.T) {
	for _, b := range someBatches() {
		first, last, ok := impl.BatchSpan(b)
		if !ok || first != b.Records[0].Offset || last != b.Records[len(b.Records)-1].Offset || last < first {
			t.Errorf("BatchSpan(%v) = %d, %d, %v", b, first, last, ok)
		}
	}
}

// Promise 41.
func TestValidBatchBecomesInvalid(t *testing.T) {
	for _, b := range someBatches() {
		if !impl.BatchValid(b) {
			t.Fatalf("%v is not valid", b)
		}
		wantInvalidBatch(t, with(b, func(b *impl.Batch) { b.Records = nil }))
		wantInvalidBatch(t, with(b, func(b *impl.Batch) { b.Records = slices.Insert(b.Records, 0, b.Records[0]) }))
		if b.Producer == impl.NoProducer {
			wantInvalidBatch(t, with(b, func(b *impl.Batch) { b.Mark = true }))
			wantInvalidBatch(t, with(b, func(b *impl.Batch) { b.Mark, b.Records = true, b.Records[:1] }))
		}
	}
}

// wantInvalidBatch checks that a batch is invalid, and that it has no bytes and no offsets.
func wantInvalidBatch(t *testing.T, b impl.Batch) {
	t.Helper()
	if impl.BatchValid(b) {
		t.Errorf("%v is valid", b)
	}
	if got, ok := impl.BatchBytes(b); ok || len(got) != 0 {
		t.Errorf("BatchBytes(%v) = %v, %v, want none, false", b, got, ok)
	}
	if first, last, ok := impl.BatchSpan(b); ok || first != 0 || last != 0 {
		t.Errorf("BatchSpan(%v) = %d, %d, %v, want 0, 0, false", b, first, last, ok)
	}
}

func TestInvalidBatches(t *testing.T) {
	for _, b := range someReals() {
		if !impl.BatchValid(b) {
			t.Errorf("%v is not valid", b)
		}
	}
	for _, b := range invalidBatches() {
		wantInvalidBatch(t, b)
	}
}

// Promise 42.
func TestNextNumberHasOtherBytes(t *testing.T) {
	for _, b := range someBatches() {
		if b.Producer == impl.NoProducer || b.Seq == 9999 {
			continue
		}
		next := with(b, func(b *impl.Batch) { b.Seq++ })
		if slices.Equal(mustBatchBytes(t, b), mustBatchBytes(t, next)) {
			t.Errorf("%v and %v have the same bytes", b, next)
		}
	}
}

func TestBatchesOfNumbersThatAreNoBytes(t *testing.T) {
	for _, e := range batches {
		for _, bad := range noBytes {
			bytes := slices.Concat([]int{3, 4}, e.bytes, []int{5, 5})
			for i := range bytes {
				spoilt := slices.Clone(bytes)
				spoilt[i] = bad
				wantNoBatch(t, e.why, spoilt, 2)
			}
		}
	}
}

// headOf returns what is summed up ahead of the records: a head of the time 10.
func headOf(flags, producer, epoch, seq, count int) []int {
	return []int{flags, producer, epoch, seq / 256, seq % 256, 0, 0, 10, count, 0, 0}
}

func TestBytesThatAreNoBatch(t *testing.T) {
	first, second, third := []int{8, 0, 0, 1, 1}, []int{8, 0, 2, 1, 1}, []int{8, 0, 4, 1, 1}
	two := slices.Concat(first, second)
	free := headOf(0, 255, 0, 0, 2)
	wantBatch(t, sealed(5, free, two), 0, impl.Batch{Producer: 255, Records: []impl.Record{{Offset: 5, Time: 10}, {Offset: 6, Time: 10}}}, 28)
	for _, bad := range []struct {
		why   string
		bytes []int
	}{
		{"no records", sealed(5, headOf(0, 255, 0, 0, 0))},
		{"no records are told", sealed(5, headOf(0, 255, 0, 0, 0), two)},
		{"fewer records are told", sealed(5, headOf(0, 255, 0, 0, 1), two)},
		{"more records are told", sealed(5, headOf(0, 255, 0, 0, 3), two)},
		{"many more records are told", sealed(5, headOf(0, 255, 0, 0, 255), two)},
		{"the records are missing", sealed(5, free)},
		{"seven records", sealed(5, headOf(0, 255, 0, 0, 7), two, third, []int{8, 0, 6, 1, 1, 8, 0, 8, 1, 1, 8, 0, 10, 1, 1, 8, 0, 12, 1, 1})},
		{"a byte behind the last record", sealed(5, free, two, []int{0})},
		{"a further record", sealed(5, free, two, third)},
		{"a record that ends too early", sealed(5, free, first, second[:4])},
		{"the first of two zeros is 1", sealed(5, []int{0, 255, 0, 0, 0, 0, 0, 10, 2, 1, 0}, two)},
		{"the second of two zeros is 1", sealed(5, []int{0, 255, 0, 0, 0, 0, 0, 10, 2, 0, 1}, two)},
		{"an epoch without a producer", sealed(5, headOf(0, 255, 1, 0, 2), two)},
		{"a number without a producer", sealed(5, headOf(0, 255, 0, 1, 2), two)},
		{"a mark without a producer", sealed(5, headOf(2, 255, 0, 0, 1), first)},
		{"a mark of two records", sealed(5, headOf(2, 3, 0, 0, 2), two)},
		{"an epoch of 100", sealed(5, headOf(0, 3, 100, 0, 2), two)},
		{"an epoch of 255", sealed(5, headOf(0, 3, 255, 0, 2), two)},
		{"a number of 10000", sealed(5, headOf(0, 3, 0, 10000, 2), two)},
		{"a number of 65535", sealed(5, headOf(0, 3, 0, 65535, 2), two)},
		{"a flag of 4", sealed(5, headOf(4, 3, 0, 0, 1), first)},
		{"a flag of 8 and a mark", sealed(5, headOf(10, 3, 0, 0, 1), first)},
		{"a flag of 128", sealed(5, headOf(128, 3, 0, 0, 1), first)},
		{"an offset twice", sealed(5, free, first, first)},
		{"offsets that go back", sealed(5, headOf(0, 255, 0, 0, 3), first, third, second)},
		{"an offset less than the first one", sealed(5, free, first, []int{8, 0, 1, 1, 1})},
		{"a first record one behind the offset", sealed(4, free, second, third)},
		{"a first record one ahead of the offset", sealed(6, headOf(0, 255, 0, 0, 1), []int{8, 0, 1, 1, 1})},
		{"a first record with another time", sealed(5, free, []int{8, 2, 0, 1, 1}, []int{8, 2, 2, 1, 1})},
		{"an offset of 100000", sealed(100000, headOf(0, 255, 0, 0, 1), first)},
		{"an offset of 100000, and one less", sealed(100000, headOf(0, 255, 0, 0, 1), []int{8, 0, 1, 1, 1})},
		{"a second offset of 100000", sealed(99999, free, two)},
		{"the greatest offset", sealed(16777215, headOf(0, 255, 0, 0, 1), first)},
		{"a time of 100000", sealed(5, []int{0, 255, 0, 0, 0, 1, 134, 160, 1, 0, 0}, first)},
		{"a time of 100000, and one less", sealed(5, []int{0, 255, 0, 0, 0, 1, 134, 160, 1, 0, 0}, []int{8, 1, 0, 1, 1})},
		{"a time less than 0", sealed(5, free, first, []int{8, 21, 2, 1, 1})},
		{"a record with a number that has a byte more", sealed(5, free, first, []int{10, 128, 0, 2, 1, 1})},
		{"a key of 13 bytes", sealed(5, headOf(0, 255, 0, 0, 1), []int{34, 0, 0, 26, 13}, twelve, []int{1})},
		{"packed, but not told", sealed(5, free, mustPack(t, two))},
		{"told to be packed, but not", sealed(5, headOf(1, 255, 0, 0, 2), two)},
		{"packed by no matches", sealed(5, headOf(1, 255, 0, 0, 3), []int{14}, two, third)},
		{"packed in two pieces", sealed(5, headOf(1, 255, 0, 0, 1), []int{1, 8, 0}, []int{2, 0, 1, 1})},
		{"packed twice", sealed(5, headOf(1, 255, 0, 0, 2), mustPack(t, mustPack(t, two)))},
		{"packed with a distance ahead of the beginning", sealed(5, headOf(1, 255, 0, 0, 1), []int{4, 8, 0, 0, 1, 1, 64, 6})},
		{"packed in more than 200 bytes", sealed(5, headOf(1, 255, 0, 0, 1), []int{4, 8, 0, 0, 1, 1, 127, 5, 127, 5, 127, 5})},
		{"packed, and a byte behind", sealed(5, headOf(1, 255, 0, 0, 1), mustPack(t, first), []int{0})},
		{"packed, and a record behind", sealed(5, headOf(1, 255, 0, 0, 1), mustPack(t, two))},
		{"packed, of nothing", sealed(5, headOf(1, 255, 0, 0, 1))},
		{"nothing is summed up", sealed(5)},
		{"a head of 10 bytes", sealed(5, free[:10])},
		{"a head of 10 bytes, and more behind", slices.Concat(sealed(5, free[:10]), two)},
		{"a head of one byte, and more behind", slices.Concat(sealed(5, free[:1]), two, two)},
	} {
		wantNoBatch(t, bad.why, bad.bytes, 0)
	}
}

// A sum is told in two bytes, which have room for it and SumWrap more.
func TestSumThatIsGreaterThanSumWrap(t *testing.T) {
	found := 0
	for seq := range 10000 {
		for epoch := range 100 {
			if found > 0 {
				return
			}
			bytes := mustBatchBytes(t, impl.Batch{Producer: 1, Epoch: epoch, Seq: seq, Records: bareRecords(0, 1)})
			sum := bytes[5]*256 + bytes[6]
			if sum > 65535-65521 {
				continue
			}
			found++
			bytes[5], bytes[6] = (sum+65521)/256, (sum+65521)%256
			wantNoBatch(t, "sum", bytes, 0)
		}
	}
	t.Errorf("no batch has a sum that is small enough")
}

func TestBatchesShareNoMemory(t *testing.T) {
	key, value := []int{1, 2}, []int{3, 4}
	b := impl.Batch{Producer: impl.NoProducer, Records: []impl.Record{
		{HasKey: true, Key: key, HasValue: true, Value: value}, {Offset: 1, HasKey: true, Key: key}}}
	bytes := mustBatchBytes(t, b)
	before := slices.Clone(bytes)
	first, _, _ := impl.BatchFrom(bytes, 0)
	second, _, _ := impl.BatchFrom(bytes, 0)
	_ = append(first.Records[0].Key[:0], 9, 9, 9, 9)
	_ = append(first.Records[0].Value, 9, 9, 9, 9)
	first.Records[1] = impl.Record{}
	if !slices.Equal(bytes, before) || !sameBatch(second, b) || !slices.Equal(first.Records[0].Value, value) {
		t.Errorf("a batch that was read was changed from outside: %v, %v, %v", bytes, first, second)
	}
	clear(bytes)
	if !sameBatch(second, b) || !slices.Equal(key, []int{1, 2}) || !slices.Equal(mustBatchBytes(t, b), before) {
		t.Errorf("a batch was changed from outside: %v, %v", second, b)
	}
}
