package tests

import (
	"math"
	"math/rand/v2"
	"slices"
	"testing"

	"loop.example/recordbatches/impl"
)

// twelve is as many bytes as a key or a value may have.
var twelve = []int{1, 2, 3, 4, 5, 6, 7, 8, 9, 10, 11, 12}

// based is a record, a base, and the bytes of the record for this base.
type based struct {
	record       impl.Record
	offset, time int
	bytes        []int
}

// basedRecords are records with bytes worked out by hand from the document.
var basedRecords = []based{
	{impl.Record{}, 0, 0, []int{8, 0, 0, 1, 1}},
	{impl.Record{HasKey: true}, 0, 0, []int{8, 0, 0, 0, 1}},
	{impl.Record{HasValue: true}, 0, 0, []int{8, 0, 0, 1, 0}},
	{impl.Record{HasKey: true, HasValue: true}, 0, 0, []int{8, 0, 0, 0, 0}},
	{impl.Record{Offset: 7, Time: 12, HasKey: true, Key: []int{1}}, 5, 10, []int{10, 4, 4, 2, 1, 1}},
	{impl.Record{Offset: 5, Time: 10, HasValue: true, Value: []int{7}}, 5, 10, []int{10, 0, 0, 1, 2, 7}},
	{impl.Record{Offset: 3, Time: 5}, 5, 10, []int{8, 9, 3, 1, 1}},
	{impl.Record{Offset: 3, Time: 15}, 5, 10, []int{8, 10, 3, 1, 1}},
	{impl.Record{Offset: 8, Time: 5}, 5, 10, []int{8, 9, 6, 1, 1}},
	{impl.Record{Offset: 64, Time: 63}, 0, 0, []int{10, 126, 128, 1, 1, 1}},
	{impl.Record{Offset: 0, Time: 1}, 65, 65, []int{10, 127, 129, 1, 1, 1}},
	{impl.Record{Offset: 99999, Time: 99999}, 0, 0, []int{16, 190, 154, 12, 190, 154, 12, 1, 1}},
	{impl.Record{Offset: 0, Time: 0}, 99999, 99999, []int{16, 189, 154, 12, 189, 154, 12, 1, 1}},
	{impl.Record{Offset: 99999, Time: 99999}, 99999, 99999, []int{8, 0, 0, 1, 1}},
	{impl.Record{HasKey: true, Key: []int{0}, HasValue: true, Value: []int{255, 0, 128}}, 0, 0, []int{16, 0, 0, 2, 0, 6, 255, 0, 128}},
	{impl.Record{HasKey: true, Key: twelve}, 0, 0, slices.Concat([]int{32, 0, 0, 24}, twelve, []int{1})},
	{impl.Record{HasValue: true, Value: twelve}, 0, 0, slices.Concat([]int{32, 0, 0, 1, 24}, twelve)},
	{impl.Record{Offset: 99999, Time: 99999, HasKey: true, Key: twelve, HasValue: true, Value: twelve}, 0, 0,
		slices.Concat([]int{64, 190, 154, 12, 190, 154, 12, 24}, twelve, []int{24}, twelve)},
}

// invalidRecords are records that are not valid, each for one reason.
func invalidRecords() []impl.Record {
	result := []impl.Record{
		{Key: []int{1}},
		{Key: []int{0}, HasValue: true, Value: []int{1}},
		{Value: []int{1}},
		{Value: []int{0}, HasKey: true, Key: []int{1}},
		{HasKey: true, Key: slices.Repeat([]int{1}, 13)},
		{HasValue: true, Value: slices.Repeat([]int{1}, 13)},
		{HasKey: true, Key: slices.Repeat([]int{1}, 300)},
	}
	for _, n := range []int{-1, -2, 100000, 100001, math.MaxInt, math.MinInt} {
		result = append(result, impl.Record{Offset: n}, impl.Record{Time: n})
	}
	for _, bad := range noBytes {
		for i := range 3 {
			part := []int{1, 2, 3}
			part[i] = bad
			result = append(result, impl.Record{HasKey: true, Key: part}, impl.Record{HasValue: true, Value: part})
		}
	}
	return result
}

// invalidBases are offsets and times that are no base.
var invalidBases = [][2]int{
	{-1, 0}, {0, -1}, {100000, 0}, {0, 100000}, {100000, 100000},
	{math.MaxInt, 0}, {0, math.MaxInt}, {math.MinInt, 0}, {0, math.MinInt},
}

// someRecords are the records worked out by hand, and many others for many bases.
func someRecords() []based {
	result := slices.Clone(basedRecords)
	random := rand.New(rand.NewPCG(3, 19))
	for range 2000 {
		one := based{record: randomRecord(random), offset: random.IntN(100000), time: random.IntN(100000)}
		if random.IntN(2) == 0 {
			one.record.Offset = min(one.offset+random.IntN(200), impl.OffsetMax)
			one.record.Time = max(one.time-random.IntN(200), 0)
		}
		result = append(result, one)
	}
	return result
}

func randomRecord(random *rand.Rand) impl.Record {
	r := impl.Record{Offset: random.IntN(100000), Time: random.IntN(100000)}
	r.HasKey, r.Key = randomPart(random)
	r.HasValue, r.Value = randomPart(random)
	return r
}

func randomPart(random *rand.Rand) (bool, []int) {
	if random.IntN(4) == 0 {
		return false, nil
	}
	part := make([]int, random.IntN(13))
	for i := range part {
		part[i] = random.IntN(256)
	}
	return true, part
}

// sameRecord reports whether two records are equal; a nil slice and an empty one are.
func sameRecord(a, b impl.Record) bool {
	return a.Offset == b.Offset && a.Time == b.Time && a.HasKey == b.HasKey && a.HasValue == b.HasValue &&
		slices.Equal(a.Key, b.Key) && slices.Equal(a.Value, b.Value)
}

// mustRecordBytes returns the bytes of a record.
func mustRecordBytes(t *testing.T, r impl.Record, offset, time int) []int {
	t.Helper()
	bytes, ok := impl.RecordBytes(r, offset, time)
	if !ok {
		t.Fatalf("RecordBytes(%v, %d, %d) failed", r, offset, time)
	}
	return bytes
}

// wantRecord checks that RecordFrom succeeds with a record and a place behind it.
func wantRecord(t *testing.T, bytes []int, at int, one based, next int) {
	t.Helper()
	r, behind, ok := impl.RecordFrom(bytes, at, one.offset, one.time)
	if !ok || behind != next || !sameRecord(r, one.record) {
		t.Errorf("RecordFrom(%v, %d, %d, %d) = %v, %d, %v, want %v, %d", bytes, at, one.offset, one.time, r, behind, ok, one.record, next)
	}
}

// wantNoRecord checks that RecordFrom fails with zero values.
func wantNoRecord(t *testing.T, bytes []int, at, offset, time int) {
	t.Helper()
	if r, next, ok := impl.RecordFrom(bytes, at, offset, time); ok || next != 0 || !sameRecord(r, impl.Record{}) {
		t.Errorf("RecordFrom(%v, %d, %d, %d) = %v, %d, %v, want none, 0, false", bytes, at, offset, time, r, next, ok)
	}
}

// wantNoRecordBytes checks that RecordBytes fails with zero values, and RecordSize with it.
func wantNoRecordBytes(t *testing.T, r impl.Record, offset, time int) {
	t.Helper()
	if got, ok := impl.RecordBytes(r, offset, time); ok || len(got) != 0 {
		t.Errorf("RecordBytes(%v, %d, %d) = %v, %v, want none, false", r, offset, time, got, ok)
	}
	if got := impl.RecordSize(r, offset, time); got != -1 {
		t.Errorf("RecordSize(%v, %d, %d) = %d, want -1", r, offset, time, got)
	}
}

// wantSameBytesBack checks promise 22: what RecordFrom reads has the bytes it was read from. It tells whether there is a record.
func wantSameBytesBack(t *testing.T, bytes []int, at, offset, time int) bool {
	t.Helper()
	r, next, ok := impl.RecordFrom(bytes, at, offset, time)
	if !ok {
		wantNoRecord(t, bytes, at, offset, time)
		return false
	}
	if !impl.RecordValid(r) || next > len(bytes) || !slices.Equal(mustRecordBytes(t, r, offset, time), bytes[at:next]) {
		t.Errorf("RecordFrom(%v, %d, %d, %d) = %v, %d, which has other bytes", bytes, at, offset, time, r, next)
	}
	return true
}

func TestLimitsOfRecords(t *testing.T) {
	if impl.OffsetMax != 99999 || impl.TimeMax != 99999 || impl.PartMax != 12 {
		t.Errorf("the limits are %d, %d and %d", impl.OffsetMax, impl.TimeMax, impl.PartMax)
	}
}

func TestRecordsAtTheEdges(t *testing.T) {
	for _, one := range basedRecords {
		if !impl.RecordValid(one.record) {
			t.Errorf("%v is not valid", one.record)
		}
		if got, ok := impl.RecordBytes(one.record, one.offset, one.time); !ok || !slices.Equal(got, one.bytes) {
			t.Errorf("RecordBytes(%v, %d, %d) = %v, %v, want %v", one.record, one.offset, one.time, got, ok, one.bytes)
		}
		if got := impl.RecordSize(one.record, one.offset, one.time); got != len(one.bytes) {
			t.Errorf("RecordSize(%v, %d, %d) = %d, want %d", one.record, one.offset, one.time, got, len(one.bytes))
		}
		wantRecord(t, one.bytes, 0, one, len(one.bytes))
	}
}

// Promise 19.
func TestRecordIsReadBack(t *testing.T) {
	for _, one := range someRecords() {
		bytes := mustRecordBytes(t, one.record, one.offset, one.time)
		wantRecord(t, bytes, 0, one, len(bytes))
	}
}

func TestRecordIsReadAtAnyPlace(t *testing.T) {
	for _, one := range basedRecords {
		for _, ahead := range [][]int{{}, {0}, {8, 0, 0, 1, 1}, {255, 255, 255}} {
			for _, behind := range [][]int{{}, {0}, {255}, {8, 0, 0, 1, 1}} {
				bytes := slices.Concat(ahead, one.bytes, behind)
				before := slices.Clone(bytes)
				wantRecord(t, bytes, len(ahead), one, len(ahead)+len(one.bytes))
				if !slices.Equal(bytes, before) {
					t.Errorf("RecordFrom changed %v to %v", before, bytes)
				}
			}
		}
	}
}

// Promise 20.
func TestRecordBytesTellOffsetsByTheBase(t *testing.T) {
	for _, one := range someRecords() {
		if one.offset == impl.OffsetMax || one.record.Offset == impl.OffsetMax {
			continue
		}
		bytes := mustRecordBytes(t, one.record, one.offset, one.time)
		further := one.record
		further.Offset++
		if got := mustRecordBytes(t, further, one.offset+1, one.time); !slices.Equal(got, bytes) {
			t.Errorf("RecordBytes(%v, %d, %d) = %v, but %v one further", one.record, one.offset, one.time, bytes, got)
		}
	}
}

// Promise 21.
func TestRecordBytesBeginWithTheirNumber(t *testing.T) {
	for _, one := range someRecords() {
		bytes := mustRecordBytes(t, one.record, one.offset, one.time)
		n, next, ok := impl.VarFrom(bytes, 0)
		if !ok || n != len(bytes)-next || len(bytes) > 33 {
			t.Errorf("RecordBytes(%v, %d, %d) = %v", one.record, one.offset, one.time, bytes)
		}
	}
}

// Promise 22, for records of which one byte is another one.
func TestReadRecordHasTheBytesItWasReadFrom(t *testing.T) {
	found := 0
	for _, one := range basedRecords {
		for i := range one.bytes {
			for b := range 256 {
				bytes := slices.Concat([]int{1}, one.bytes, []int{0, 1, 0})
				bytes[1+i] = b
				if wantSameBytesBack(t, bytes, 1, one.offset, one.time) {
					found++
				}
			}
		}
	}
	if found < 1000 {
		t.Errorf("only %d records were read", found)
	}
}

// Promise 22, for any bytes.
func TestReadRecordOfAnyBytes(t *testing.T) {
	random := rand.New(rand.NewPCG(22, 22))
	found := 0
	for range 200000 {
		bytes := []int{8 + 2*random.IntN(4), random.IntN(256), random.IntN(256), random.IntN(8), random.IntN(8), random.IntN(8), random.IntN(4), random.IntN(4)}
		if wantSameBytesBack(t, bytes, 0, 40, 50) {
			found++
		}
	}
	if found < 1000 {
		t.Errorf("only %d records were read", found)
	}
}

// Promise 23, and all shorter beginnings.
func TestRecordThatEndsTooEarlyIsNone(t *testing.T) {
	for _, one := range someRecords() {
		bytes := mustRecordBytes(t, one.record, one.offset, one.time)
		for many := range bytes {
			wantNoRecord(t, bytes[:many], 0, one.offset, one.time)
			wantNoRecord(t, slices.Concat([]int{3}, bytes[:many]), 1, one.offset, one.time)
		}
	}
}

// Promise 24.
func TestRecordSizeIsTheNumberOfBytes(t *testing.T) {
	for _, one := range someRecords() {
		size := impl.RecordSize(one.record, one.offset, one.time)
		if got := len(mustRecordBytes(t, one.record, one.offset, one.time)); got != size {
			t.Errorf("RecordSize(%v, %d, %d) = %d, but RecordBytes has %d", one.record, one.offset, one.time, size, got)
		}
	}
}

// Promise 25, for keys and for values.
func TestEmptyPartIsNotAMissingOne(t *testing.T) {
	for _, one := range someRecords() {
		none, empty := one.record, one.record
		none.HasKey, none.Key = false, nil
		empty.HasKey, empty.Key = true, []int{}
		wantOtherBytes(t, none, empty, one)
		none, empty = one.record, one.record
		none.HasValue, none.Value = false, nil
		empty.HasValue, empty.Value = true, []int{}
		wantOtherBytes(t, none, empty, one)
	}
}

// wantOtherBytes checks that two records have as many bytes, but other ones.
func wantOtherBytes(t *testing.T, a, b impl.Record, base based) {
	t.Helper()
	bytes, others := mustRecordBytes(t, a, base.offset, base.time), mustRecordBytes(t, b, base.offset, base.time)
	if len(bytes) != len(others) || slices.Equal(bytes, others) {
		t.Errorf("the bytes of %v are %v, and those of %v are %v", a, bytes, b, others)
	}
}

// Promise 26.
func TestValidRecordBecomesInvalid(t *testing.T) {
	for _, one := range someRecords() {
		if !impl.RecordValid(one.record) {
			t.Fatalf("%v is not valid", one.record)
		}
		value, key, offset, time := one.record, one.record, one.record, one.record
		value.HasValue, value.Value = false, []int{1}
		key.HasKey, key.Key = false, []int{1}
		offset.Offset = -1
		time.Time = -1
		for _, r := range []impl.Record{value, key, offset, time} {
			if impl.RecordValid(r) {
				t.Errorf("%v is valid", r)
			}
			wantNoRecordBytes(t, r, one.offset, one.time)
		}
	}
}

func TestInvalidRecords(t *testing.T) {
	for _, r := range invalidRecords() {
		if impl.RecordValid(r) {
			t.Errorf("%v is valid", r)
		}
		wantNoRecordBytes(t, r, 0, 0)
		wantNoRecordBytes(t, r, 99999, 99999)
	}
}

func TestBasesBeyondTheRange(t *testing.T) {
	for _, base := range invalidBases {
		for _, one := range basedRecords {
			wantNoRecordBytes(t, one.record, base[0], base[1])
			wantNoRecord(t, one.bytes, 0, base[0], base[1])
		}
	}
	// The offset 99999 and the time 99999, told from bases that are none.
	wantNoRecord(t, []int{8, 0, 1, 1, 1}, 0, 100000, 0)
	wantNoRecord(t, []int{8, 1, 0, 1, 1}, 0, 0, 100000)
	wantNoRecord(t, []int{8, 0, 2, 1, 1}, 0, -1, 0)
	wantNoRecord(t, []int{8, 2, 0, 1, 1}, 0, 0, -1)
}

func TestPlacesOfRecordsThatAreNone(t *testing.T) {
	for _, bytes := range [][]int{nil, {8, 0, 0, 1, 1}, {0}, {1, 1, 1}} {
		for _, at := range []int{-1, -2, math.MinInt, math.MinInt + 1, len(bytes), len(bytes) + 1, math.MaxInt - 1, math.MaxInt} {
			wantNoRecord(t, bytes, at, 0, 0)
		}
	}
}

func TestRecordsOfNumbersThatAreNoBytes(t *testing.T) {
	for _, one := range basedRecords {
		for _, bad := range noBytes {
			bytes := slices.Concat([]int{3}, one.bytes, []int{5, 5})
			for i := range bytes {
				spoilt := slices.Clone(bytes)
				spoilt[i] = bad
				wantNoRecord(t, spoilt, 1, one.offset, one.time)
			}
		}
	}
}

// badRecords are bytes that tell no record for the base 5 and 10, each for one reason.
var badRecords = []struct {
	why   string
	bytes []int
}{
	{"no bytes follow", []int{0, 0, 0, 1, 1}},
	{"fewer than 0 bytes follow", []int{1, 0, 0, 1, 1}},
	{"many less than 0 bytes follow", []int{255, 136, 122, 0, 0, 1, 1}},
	{"a byte too few is told", []int{6, 0, 0, 1, 1}},
	{"a byte too many is told", []int{10, 0, 0, 1, 1}},
	{"many bytes too many are told", []int{128, 137, 122, 0, 0, 1, 1}},
	{"a further byte inside", []int{10, 0, 0, 1, 1, 0}},
	{"a further byte behind the value", []int{12, 0, 0, 1, 2, 7, 1}},
	{"a further part inside", []int{10, 0, 0, 1, 1, 1}},
	{"the number of bytes with a byte more", []int{136, 0, 0, 0, 1, 1}},
	{"the time with a byte more", []int{10, 128, 0, 0, 1, 1}},
	{"the offset with a byte more", []int{10, 0, 128, 0, 1, 1}},
	{"the missing key with a byte more", []int{10, 0, 0, 129, 0, 1}},
	{"the missing value with a byte more", []int{10, 0, 0, 1, 129, 0}},
	{"the empty key with a byte more", []int{10, 0, 0, 128, 0, 1}},
	{"the time with two bytes more", []int{12, 128, 128, 0, 0, 1, 1}},
	{"a number that is too great", []int{14, 129, 137, 122, 0, 1, 1, 0}},
	{"a time less than 0", []int{8, 21, 0, 1, 1}},
	{"an offset less than 0", []int{8, 0, 11, 1, 1}},
	{"a time that is too great", []int{12, 172, 154, 12, 0, 1, 1}},
	{"an offset that is too great", []int{12, 0, 182, 154, 12, 1, 1}},
	{"a key of -2 bytes", []int{8, 0, 0, 3, 1}},
	{"a value of -2 bytes", []int{8, 0, 0, 1, 3}},
	{"a key of 13 bytes", slices.Concat([]int{34, 0, 0, 26, 13}, twelve, []int{1})},
	{"a value of 13 bytes", slices.Concat([]int{34, 0, 0, 1, 26, 13}, twelve)},
	{"a key that goes on behind the record", []int{8, 0, 0, 4, 7, 7, 1}},
	{"a value that goes on behind the record", []int{10, 0, 0, 1, 4, 7, 7}},
	{"a value that begins behind the record", []int{8, 0, 0, 2, 7, 1}},
	{"no value", []int{6, 0, 0, 1}},
	{"no key", []int{4, 0, 0}},
	{"no offset", []int{2, 0}},
	{"a time that goes on behind the record", []int{2, 128, 1, 0, 1, 1}},
}

func TestBytesThatAreNoRecord(t *testing.T) {
	for _, bad := range badRecords {
		for _, behind := range [][]int{{}, {1}, {1, 1, 1, 1, 1, 1, 1, 1}} {
			bytes := slices.Concat(bad.bytes, behind)
			if _, _, ok := impl.RecordFrom(bytes, 0, 5, 10); ok {
				t.Errorf("%s, and %d bytes behind:", bad.why, len(behind))
			}
			wantNoRecord(t, bytes, 0, 5, 10)
		}
	}
}

// The greatest offset and time that the numbers of bytes above go beyond, and the least ones.
func TestRecordsAtTheEndOfTheRange(t *testing.T) {
	wantRecord(t, []int{8, 19, 9, 1, 1}, 0, based{offset: 5, time: 10}, 5)
	wantRecord(t, []int{12, 170, 154, 12, 0, 1, 1}, 0, based{record: impl.Record{Offset: 5, Time: 99999}, offset: 5, time: 10}, 7)
	wantRecord(t, []int{12, 0, 180, 154, 12, 1, 1}, 0, based{record: impl.Record{Offset: 99999, Time: 10}, offset: 5, time: 10}, 7)
}

func TestRecordsShareNoMemory(t *testing.T) {
	record := impl.Record{HasKey: true, Key: []int{1, 2}, HasValue: true, Value: []int{3, 4}}
	bytes := mustRecordBytes(t, record, 0, 0)
	before := slices.Clone(bytes)
	first, _, _ := impl.RecordFrom(bytes, 0, 0, 0)
	second, _, _ := impl.RecordFrom(bytes, 0, 0, 0)
	_ = append(first.Key, 9, 9, 9)
	_ = append(first.Key[:0], 8, 8)
	_ = append(first.Value[:0], 7, 7)
	if !slices.Equal(bytes, before) || !sameRecord(second, record) || !slices.Equal(first.Value, []int{7, 7}) {
		t.Errorf("a record that was read was changed from outside: %v, %v, %v", bytes, first, second)
	}
	clear(bytes)
	if !sameRecord(second, record) || !sameRecord(record, impl.Record{HasKey: true, Key: []int{1, 2}, HasValue: true, Value: []int{3, 4}}) {
		t.Errorf("a record was changed from outside: %v, %v", second, record)
	}
	if !slices.Equal(mustRecordBytes(t, record, 0, 0), before) {
		t.Errorf("the bytes of a record are other ones the second time")
	}
}
