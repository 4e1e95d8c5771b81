package tests

import (
	"math"
	"math/rand/v2"
	"slices"
	"testing"

	"loop.example/recordbatches/impl"
)

// messages are messages with bytes worked out by hand from the document; the sums were computed apart from the program.
var messages = []struct {
	why     string
	message impl.Old
	bytes   []int
}{
	{"without a key", impl.Old{Offset: 3, Value: []int{9}}, []int{0, 0, 3, 80, 84, 0, 255, 1, 9}},
	{"without anything", impl.Old{Missing: true}, []int{0, 0, 0, 19, 59, 0, 255, 255}},
	{"with an empty key and an empty value", impl.Old{HasKey: true}, []int{0, 0, 0, 18, 46, 0, 0, 0}},
	{"with an empty key", impl.Old{HasKey: true, Missing: true}, []int{0, 0, 0, 19, 45, 0, 0, 255}},
	{"with an empty value", impl.Old{}, []int{0, 0, 0, 18, 60, 0, 255, 0}},
	{"with the time 0", impl.Old{Timed: true, Missing: true}, []int{0, 0, 0, 21, 193, 1, 0, 0, 0, 255, 255}},
	{"with the greatest offset and the greatest time", impl.Old{Offset: 99999, Timed: true, Time: 99999, Missing: true},
		[]int{1, 134, 159, 35, 166, 1, 1, 134, 159, 255, 255}},
	{"with all", impl.Old{Offset: 258, Timed: true, Time: 258, HasKey: true, Key: []int{7, 0}, Value: []int{255, 0, 1}},
		[]int{0, 1, 2, 19, 188, 1, 0, 1, 2, 2, 7, 0, 3, 255, 0, 1}},
	{"with a key of 12 bytes", impl.Old{Offset: 65536, HasKey: true, Key: twelve, Missing: true},
		slices.Concat([]int{1, 0, 0, 139, 78, 0, 12}, twelve, []int{255})},
	{"with a value of 12 bytes", impl.Old{Offset: 255, Timed: true, Time: 65536, Value: twelve},
		slices.Concat([]int{0, 0, 255, 73, 158, 1, 1, 0, 0, 255, 12}, twelve)},
	{"with as many bytes as there may be", impl.Old{Offset: 99999, Timed: true, Time: 99999, HasKey: true, Key: twelve, Value: twelve},
		slices.Concat([]int{1, 134, 159, 213, 91, 1, 1, 134, 159, 12}, twelve, []int{12}, twelve)},
}

// someMessages are the messages worked out by hand, and many others.
func someMessages() []impl.Old {
	result := []impl.Old{}
	for _, e := range messages {
		result = append(result, e.message)
	}
	random := rand.New(rand.NewPCG(6, 43))
	for range 1000 {
		result = append(result, randomMessage(random))
	}
	return result
}

func randomMessage(random *rand.Rand) impl.Old {
	m := impl.Old{Offset: random.IntN(100000), Timed: random.IntN(2) == 0}
	if m.Timed {
		m.Time = random.IntN(100000)
	}
	m.HasKey, m.Key = randomPart(random)
	hasValue, value := randomPart(random)
	m.Missing, m.Value = !hasValue, value
	return m
}

// someLists are lists of 1 to 6 messages with ascending offsets.
func someLists() [][]impl.Old {
	result := [][]impl.Old{}
	random := rand.New(rand.NewPCG(6, 48))
	for many := 1; many <= 6; many++ {
		for range 50 {
			list, offset := []impl.Old{}, random.IntN(99000)
			for range many {
				m := randomMessage(random)
				m.Offset = offset
				offset += 1 + random.IntN(100)*random.IntN(2)
				list = append(list, m)
			}
			result = append(result, list)
		}
		list := []impl.Old{}
		for i := range many {
			list = append(list, impl.Old{Offset: 99999 - many + 1 + i, Timed: true, Time: 99999, HasKey: true, Key: twelve, Value: twelve})
		}
		result = append(result, list)
	}
	return result
}

// invalidMessages are messages that are not valid, each for one reason.
func invalidMessages() []impl.Old {
	result := []impl.Old{
		{Time: 1},
		{Time: 99999},
		{Time: -1},
		{Time: math.MaxInt},
		{Key: []int{1}},
		{Key: []int{0}, Missing: true},
		{Missing: true, Value: []int{1}},
		{Missing: true, Value: []int{0}, HasKey: true, Key: []int{1}, Timed: true},
		{HasKey: true, Key: slices.Repeat([]int{1}, 13)},
		{Value: slices.Repeat([]int{1}, 13)},
		{HasKey: true, Key: slices.Repeat([]int{1}, 255)},
		{Value: slices.Repeat([]int{1}, 255)},
		{Value: slices.Repeat([]int{1}, 256)},
	}
	for _, n := range []int{-1, -2, 100000, 100001, 1 << 24, math.MaxInt, math.MinInt} {
		result = append(result, impl.Old{Offset: n}, impl.Old{Offset: n, Timed: true}, impl.Old{Timed: true, Time: n})
	}
	for _, bad := range noBytes {
		for i := range 3 {
			part := []int{1, 2, 3}
			part[i] = bad
			result = append(result, impl.Old{HasKey: true, Key: part}, impl.Old{Value: part})
		}
	}
	return result
}

// sealedMessage returns bytes with an offset, and the right sum, ahead of them.
func sealedMessage(offset int, summed ...[]int) []int {
	bytes := sealed(offset, summed...)
	// A batch tells the number of bytes between both.
	return slices.Concat(bytes[:3], bytes[5:])
}

// sameMessage reports whether two messages are equal; a nil slice and an empty one are.
func sameMessage(a, b impl.Old) bool {
	return a.Offset == b.Offset && a.Timed == b.Timed && a.Time == b.Time && a.HasKey == b.HasKey && a.Missing == b.Missing &&
		slices.Equal(a.Key, b.Key) && slices.Equal(a.Value, b.Value)
}

// mustOldBytes returns the bytes of a message.
func mustOldBytes(t *testing.T, m impl.Old) []int {
	t.Helper()
	bytes, ok := impl.OldBytes(m)
	if !ok {
		t.Fatalf("OldBytes(%v) failed", m)
	}
	return bytes
}

// mustTurn returns the batch of messages.
func mustTurn(t *testing.T, list []impl.Old, packed bool) impl.Batch {
	t.Helper()
	b, ok := impl.OldTurn(list, packed)
	if !ok {
		t.Fatalf("OldTurn(%v, %v) failed", list, packed)
	}
	return b
}

// wantMessage checks that OldFrom succeeds with a message.
func wantMessage(t *testing.T, bytes []int, m impl.Old) {
	t.Helper()
	if got, ok := impl.OldFrom(bytes); !ok || !sameMessage(got, m) {
		t.Errorf("OldFrom(%v) = %v, %v, want %v", bytes, got, ok, m)
	}
}

// wantNoMessage checks that OldFrom fails with zero values.
func wantNoMessage(t *testing.T, why string, bytes []int) {
	t.Helper()
	if m, ok := impl.OldFrom(bytes); ok || !sameMessage(m, impl.Old{}) {
		t.Errorf("%s: OldFrom(%v) = %v, %v, want none, false", why, bytes, m, ok)
	}
}

// wantNotTurned checks that OldTurn fails with zero values, packed or not.
func wantNotTurned(t *testing.T, why string, list []impl.Old) {
	t.Helper()
	for _, packed := range []bool{false, true} {
		if b, ok := impl.OldTurn(list, packed); ok || !sameBatch(b, impl.Batch{}) {
			t.Errorf("%s: OldTurn(%v, %v) = %v, %v, want none, false", why, list, packed, b, ok)
		}
	}
}

// wantInvalidMessage checks that a message is invalid, that it has no bytes, and that it is turned into nothing.
func wantInvalidMessage(t *testing.T, m impl.Old) {
	t.Helper()
	if impl.OldValid(m) {
		t.Errorf("%v is valid", m)
	}
	if got, ok := impl.OldBytes(m); ok || len(got) != 0 {
		t.Errorf("OldBytes(%v) = %v, %v, want none, false", m, got, ok)
	}
	wantNotTurned(t, "invalid", []impl.Old{m})
}

// wantSameMessageBack checks promise 46: what OldFrom reads has the bytes it was read from. It tells whether there is a message.
func wantSameMessageBack(t *testing.T, bytes []int) bool {
	t.Helper()
	m, ok := impl.OldFrom(bytes)
	if !ok {
		wantNoMessage(t, "none", bytes)
		return false
	}
	if !impl.OldValid(m) || !slices.Equal(mustOldBytes(t, m), bytes) {
		t.Errorf("OldFrom(%v) = %v, which has other bytes", bytes, m)
	}
	return true
}

func TestOldMax(t *testing.T) {
	if impl.OldMax != 6 {
		t.Errorf("OldMax is %d", impl.OldMax)
	}
}

func TestMessagesAtTheEdges(t *testing.T) {
	for _, e := range messages {
		if !impl.OldValid(e.message) {
			t.Errorf("%s: %v is not valid", e.why, e.message)
		}
		if got, ok := impl.OldBytes(e.message); !ok || !slices.Equal(got, e.bytes) {
			t.Errorf("%s: OldBytes(%v) = %v, %v, want %v", e.why, e.message, got, ok, e.bytes)
		}
		wantMessage(t, e.bytes, e.message)
	}
}

// Promise 43.
func TestMessageIsReadBack(t *testing.T) {
	for _, m := range someMessages() {
		if !impl.OldValid(m) {
			t.Errorf("%v is not valid", m)
		}
		wantMessage(t, mustOldBytes(t, m), m)
	}
}

// Promise 44.
func TestNumberOfBytesOfAMessage(t *testing.T) {
	for _, m := range someMessages() {
		want := 8 + len(m.Key) + len(m.Value)
		if m.Timed {
			want += 3
		}
		if got := mustOldBytes(t, m); len(got) != want {
			t.Errorf("OldBytes(%v) = %v, want %d bytes", m, got, want)
		}
	}
}

// Promise 45, and for the messages worked out by hand each other byte.
func TestDamagedByteOfAMessageIsNoticed(t *testing.T) {
	for _, m := range someMessages() {
		bytes := mustOldBytes(t, m)
		for i := 3; i < len(bytes); i++ {
			damaged := slices.Clone(bytes)
			damaged[i]++
			if bytes[i] == 255 {
				damaged[i] = 254
			}
			wantNoMessage(t, "damaged", damaged)
		}
	}
	for _, e := range messages {
		for i := 3; i < len(e.bytes); i++ {
			for more := 1; more < 256; more++ {
				damaged := slices.Clone(e.bytes)
				damaged[i] = (damaged[i] + more) % 256
				wantNoMessage(t, e.why, damaged)
			}
		}
	}
}

// Promise 46, for any offset, of which the sum tells nothing, and for any byte with a sum that is right.
func TestReadMessageHasTheBytesItWasReadFrom(t *testing.T) {
	found := 0
	for _, e := range messages {
		for i := range e.bytes {
			for b := range 256 {
				bytes := slices.Clone(e.bytes)
				bytes[i] = b
				if wantSameMessageBack(t, bytes) {
					found++
				}
				if i >= 5 && wantSameMessageBack(t, sealedMessage(e.message.Offset, bytes[5:])) {
					found++
				}
			}
		}
	}
	if found < 1000 {
		t.Errorf("only %d messages were read", found)
	}
}

// Promise 46, for any bytes with a sum that is right.
func TestReadMessageOfAnyBytes(t *testing.T) {
	random := rand.New(rand.NewPCG(46, 46))
	found := 0
	for range 100000 {
		summed := make([]int, 3+random.IntN(6))
		for i := range summed {
			summed[i] = []int{0, 1, 2, 3, 255}[random.IntN(5)]
		}
		if wantSameMessageBack(t, sealedMessage(random.IntN(110000), summed)) {
			found++
		}
	}
	if found < 1000 {
		t.Errorf("only %d messages were read", found)
	}
}

// Promise 47, all shorter beginnings, and all further bytes.
func TestMessageThatEndsElsewhereIsNone(t *testing.T) {
	for _, m := range someMessages() {
		bytes := mustOldBytes(t, m)
		for many := range bytes {
			wantNoMessage(t, "too few", bytes[:many])
		}
		for further := range 256 {
			wantNoMessage(t, "one more", slices.Concat(bytes, []int{further}))
		}
		wantNoMessage(t, "twice", slices.Concat(bytes, bytes))
		wantNoMessage(t, "a further one with the right sum", sealedMessage(m.Offset, bytes[5:], []int{0}))
		wantNoMessage(t, "one less with the right sum", sealedMessage(m.Offset, bytes[5:len(bytes)-1]))
	}
}

// Promise 48.
func TestTurnedMessagesAreRecords(t *testing.T) {
	for _, list := range someLists() {
		for _, packed := range []bool{false, true} {
			b := mustTurn(t, list, packed)
			want := impl.Batch{Packed: packed, Producer: 255}
			for _, m := range list {
				want.Records = append(want.Records, impl.Record{Offset: m.Offset, Time: m.Time, HasKey: m.HasKey, Key: m.Key, HasValue: !m.Missing, Value: m.Value})
			}
			if !impl.BatchValid(b) || !sameBatch(b, want) {
				t.Errorf("OldTurn(%v, %v) = %v", list, packed, b)
			}
		}
	}
}

// Promise 49.
func TestTurnedMessagesAreReadBack(t *testing.T) {
	for _, list := range someLists() {
		for _, packed := range []bool{false, true} {
			b := mustTurn(t, list, packed)
			bytes := mustBatchBytes(t, b)
			wantBatch(t, bytes, 0, b, len(bytes))
		}
	}
}

// Promise 50, and the same for a key.
func TestValidMessageBecomesInvalid(t *testing.T) {
	for _, m := range someMessages() {
		time, value, key := m, m, m
		time.Timed, time.Time = false, max(1, m.Time)
		value.Missing, value.Value = true, []int{1}
		key.HasKey, key.Key = false, []int{1}
		for _, bad := range []impl.Old{time, value, key} {
			wantInvalidMessage(t, bad)
		}
	}
}

// Promise 51, and two neighbours exchanged or equal.
func TestOffsetsOfTurnedMessagesAscend(t *testing.T) {
	for _, list := range someLists() {
		if len(list) < 2 {
			continue
		}
		turned := slices.Clone(list)
		slices.Reverse(turned)
		wantNotTurned(t, "in the other direction", turned)
		for i := range list[1:] {
			exchanged := slices.Clone(list)
			exchanged[i], exchanged[i+1] = exchanged[i+1], exchanged[i]
			wantNotTurned(t, "exchanged", exchanged)
			equal := slices.Clone(list)
			equal[i+1].Offset = equal[i].Offset
			wantNotTurned(t, "equal offsets", equal)
		}
	}
}

func TestInvalidMessages(t *testing.T) {
	for _, m := range invalidMessages() {
		wantInvalidMessage(t, m)
	}
}

func TestInvalidMessageAmongOthersIsNotTurned(t *testing.T) {
	for at := range 6 {
		for _, bad := range invalidMessages() {
			list := []impl.Old{}
			for i := range 6 {
				list = append(list, impl.Old{Offset: 10 + i})
			}
			// Where its offset is not what is wrong, it has one that would ascend.
			if bad.Offset == 0 {
				bad.Offset = 10 + at
			}
			list[at] = bad
			wantNotTurned(t, "one is invalid", list)
		}
	}
}

func TestNumberOfMessagesThatAreTurned(t *testing.T) {
	wantNotTurned(t, "no messages", nil)
	wantNotTurned(t, "no messages", []impl.Old{})
	list := []impl.Old{}
	for i := range 300 {
		list = append(list, impl.Old{Offset: i})
	}
	for many := 7; many <= 300; many++ {
		wantNotTurned(t, "too many", list[:many])
	}
	if b := mustTurn(t, list[:6], true); len(b.Records) != 6 {
		t.Errorf("OldTurn of 6 messages = %v", b)
	}
}

func TestMessagesOfNumbersThatAreNoBytes(t *testing.T) {
	for _, e := range messages {
		for _, bad := range noBytes {
			for i := range e.bytes {
				spoilt := slices.Clone(e.bytes)
				spoilt[i] = bad
				wantNoMessage(t, e.why, spoilt)
			}
			wantNoMessage(t, e.why, slices.Concat(e.bytes, []int{bad}))
		}
	}
}

func TestBytesThatAreNoMessage(t *testing.T) {
	wantMessage(t, sealedMessage(5, []int{1, 0, 0, 9, 2, 7, 8, 1, 6}), impl.Old{Offset: 5, Timed: true, Time: 9, HasKey: true, Key: []int{7, 8}, Value: []int{6}})
	for _, bad := range []struct {
		why   string
		bytes []int
	}{
		{"none", nil},
		{"only an offset", []int{0, 0, 5}},
		{"only an offset and a sum", sealedMessage(5)},
		{"a mark of time of 2", sealedMessage(5, []int{2, 255, 255})},
		{"a mark of time of 2, and a time", sealedMessage(5, []int{2, 0, 0, 9, 255, 255})},
		{"a mark of time of 255", sealedMessage(5, []int{255, 255, 255})},
		{"no mark of time", sealedMessage(5, []int{255, 255})},
		{"no time", sealedMessage(5, []int{1})},
		{"a time that ends too early", sealedMessage(5, []int{1, 0, 0})},
		{"a time, and no key", sealedMessage(5, []int{1, 0, 0, 9})},
		{"a time that is not told", sealedMessage(5, []int{0, 0, 0, 9, 255, 255})},
		{"a time that is told, but is not there", sealedMessage(5, []int{1, 255, 255})},
		{"a time of 100000", sealedMessage(5, []int{1, 1, 134, 160, 255, 255})},
		{"the greatest time of three bytes", sealedMessage(5, []int{1, 255, 255, 255, 255, 255})},
		{"an offset of 100000", sealedMessage(100000, []int{0, 255, 255})},
		{"the greatest offset of three bytes", sealedMessage(16777215, []int{0, 255, 255})},
		{"no key", sealedMessage(5, []int{0})},
		{"no value", sealedMessage(5, []int{0, 255})},
		{"no value behind a key", sealedMessage(5, []int{0, 1, 7})},
		{"a key that ends too early", sealedMessage(5, []int{0, 2, 7})},
		{"a value that ends too early", sealedMessage(5, []int{0, 255, 2, 7})},
		{"a key of 13 bytes", sealedMessage(5, []int{0, 13, 0}, twelve, []int{255})},
		{"a value of 13 bytes", sealedMessage(5, []int{0, 255, 13, 0}, twelve)},
		{"a key of 254 bytes", sealedMessage(5, []int{0, 254}, slices.Repeat([]int{1}, 254), []int{255})},
		{"a value of 254 bytes", sealedMessage(5, []int{0, 255, 254}, slices.Repeat([]int{1}, 254))},
		{"a key of 255 bytes", sealedMessage(5, []int{0, 255}, slices.Repeat([]int{1}, 255), []int{255})},
		{"a further part", sealedMessage(5, []int{0, 255, 255, 255})},
		{"a batch", mustBatchBytes(t, batches[0].batch)},
	} {
		wantNoMessage(t, bad.why, bad.bytes)
	}
}

func TestMessagesShareNoMemory(t *testing.T) {
	m := impl.Old{Timed: true, Time: 3, HasKey: true, Key: []int{1, 2}, Value: []int{3, 4}}
	bytes := mustOldBytes(t, m)
	before := slices.Clone(bytes)
	first, _ := impl.OldFrom(bytes)
	second, _ := impl.OldFrom(bytes)
	_ = append(first.Key[:0], 9, 9, 9, 9, 9)
	_ = append(first.Key, 9, 9, 9, 9, 9)
	if !slices.Equal(bytes, before) || !sameMessage(second, m) || !slices.Equal(first.Value, []int{3, 4}) {
		t.Errorf("a message that was read was changed from outside: %v, %v, %v", bytes, first, second)
	}
	clear(bytes)
	if !sameMessage(second, m) || !slices.Equal(mustOldBytes(t, m), before) {
		t.Errorf("a message was changed from outside: %v, %v", second, m)
	}
}

func TestTurnedMessagesShareNoMemory(t *testing.T) {
	part := []int{1, 2, 3, 4}
	list := []impl.Old{{HasKey: true, Key: part[:2], Value: part[:3]}, {Offset: 1, HasKey: true, Key: part[:2], Missing: true}}
	b := mustTurn(t, list, false)
	want := mustTurn(t, list, false)
	_ = append(b.Records[0].Key[:0], 9, 9, 9, 9, 9)
	if !slices.Equal(part, []int{1, 2, 3, 4}) || !slices.Equal(b.Records[0].Value, []int{1, 2, 3}) || !sameRecord(b.Records[1], want.Records[1]) {
		t.Errorf("%v was changed from outside, or the argument: %v", b, part)
	}
	clear(part)
	if want.Records[0].Key[1] != 2 || want.Records[0].Value[2] != 3 || want.Records[1].Key[0] != 1 {
		t.Errorf("%v was changed from outside", want)
	}
	_ = append(want.Records[:1], impl.Record{Offset: 7})
	if list[1].Offset != 1 || !list[1].Missing {
		t.Errorf("OldTurn changed its argument to %v", list)
	}
}
