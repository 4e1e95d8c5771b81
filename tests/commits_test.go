package tests

import (
	"math"
	"math/rand/v2"
	"slices"
	"testing"

	"loop.example/recordbatches/impl"
)

// open is a batch of a producer with so many records, from an offset on.
func open(producer, offset, many int) impl.Batch {
	return impl.Batch{Producer: producer, Records: bareRecords(offset, many)}
}

// markWith is a mark of a producer with a value; nil is a missing one.
func markWith(producer, offset int, value []int) impl.Batch {
	return impl.Batch{Mark: true, Producer: producer, Records: []impl.Record{keyed(offset, nil, value)}}
}

// fine and back are marks of a producer: that its records count, and that they are taken back.
func fine(producer, offset int) impl.Batch {
	return markWith(producer, offset, []int{1})
}

func back(producer, offset int) impl.Batch {
	return markWith(producer, offset, []int{0})
}

// commits are segments, what was taken back in them, the end up to which all is decided, and the offsets of the records that count, worked out by hand from the document.
var commits = []struct {
	why     string
	list    []impl.Batch
	undone  []impl.Undone
	end     int
	offsets []int
}{
	{"no batches", nil, nil, 0, nil},
	{"no producer", []impl.Batch{free(3, 2), free(7, 1)}, nil, 8, []int{3, 4, 7}},
	{"a mark as the first batch", []impl.Batch{fine(1, 4)}, nil, 5, nil},
	{"a mark that takes nothing back", []impl.Batch{back(1, 4), free(5, 1)}, nil, 6, []int{5}},
	{"an open batch", []impl.Batch{open(1, 4, 2)}, nil, 4, nil},
	{"an open batch at 0", []impl.Batch{open(1, 0, 2), free(5, 1)}, nil, 0, nil},
	{"an open batch behind others", []impl.Batch{free(0, 2), fine(1, 2), open(1, 3, 2), free(9, 1)}, nil, 3, []int{0, 1}},
	{"a batch that counts", []impl.Batch{open(1, 4, 2), fine(1, 6)}, nil, 7, []int{4, 5}},
	{"a batch that is taken back", []impl.Batch{open(1, 4, 2), back(1, 6)}, []impl.Undone{{Producer: 1, First: 4, Last: 6}}, 7, nil},
	{"several batches that count", []impl.Batch{open(1, 0, 2), free(2, 1), open(1, 3, 1), fine(1, 9)}, nil, 10, []int{0, 1, 2, 3}},
	{"several batches that are taken back", []impl.Batch{open(1, 0, 2), free(2, 1), open(1, 3, 1), back(1, 9)}, []impl.Undone{{Producer: 1, First: 0, Last: 9}}, 10, []int{2}},
	{"a mark of another producer", []impl.Batch{open(1, 0, 2), fine(2, 2)}, nil, 0, nil},
	{"a mark of another producer that takes back", []impl.Batch{open(1, 0, 2), back(2, 2), fine(1, 3)}, nil, 4, []int{0, 1}},
	{"a mark of another epoch", []impl.Batch{{Producer: 1, Epoch: 7, Seq: 5, Records: bareRecords(0, 2)}, fine(1, 2)}, nil, 3, []int{0, 1}},
	{"a mark of another epoch that takes back", []impl.Batch{open(1, 0, 2), with(back(1, 2), func(b *impl.Batch) { b.Epoch, b.Seq = 99, 5 })}, []impl.Undone{{Producer: 1, First: 0, Last: 2}}, 3, nil},
	{"a second mark that takes nothing back", []impl.Batch{open(1, 0, 2), fine(1, 2), back(1, 3)}, nil, 4, []int{0, 1}},
	{"a second mark that comes too late", []impl.Batch{open(1, 0, 2), back(1, 2), fine(1, 3)}, []impl.Undone{{Producer: 1, First: 0, Last: 2}}, 4, nil},
	{"rows of one producer", []impl.Batch{open(1, 0, 1), back(1, 1), open(1, 2, 1), fine(1, 3), open(1, 4, 1), open(1, 5, 1), back(1, 6), open(1, 7, 1)},
		[]impl.Undone{{Producer: 1, First: 0, Last: 1}, {Producer: 1, First: 4, Last: 6}}, 7, []int{2}},
	{"rows within each other", []impl.Batch{open(1, 0, 1), open(2, 1, 1), open(3, 2, 1), back(2, 3), fine(3, 4), back(1, 5)},
		[]impl.Undone{{Producer: 1, First: 0, Last: 5}, {Producer: 2, First: 1, Last: 3}}, 6, []int{2}},
	{"rows that overlap", []impl.Batch{open(2, 0, 1), open(1, 1, 1), back(2, 2), open(2, 3, 1), back(1, 4), back(2, 5)},
		[]impl.Undone{{Producer: 2, First: 0, Last: 2}, {Producer: 1, First: 1, Last: 4}, {Producer: 2, First: 3, Last: 5}}, 6, nil},
	{"the producer that has come last is open", []impl.Batch{open(1, 0, 1), open(2, 1, 1), fine(1, 2), free(3, 1)}, nil, 1, []int{0}},
	{"the producer that has come first is open", []impl.Batch{open(1, 0, 1), open(2, 1, 1), fine(2, 2), free(3, 1)}, nil, 0, nil},
	{"both are open", []impl.Batch{free(0, 1), open(254, 1, 1), open(0, 2, 1), free(3, 1)}, nil, 1, []int{0}},
	{"a batch behind an open one counts, but is not ahead of the end", []impl.Batch{free(0, 1), open(1, 1, 1), open(2, 2, 1), fine(2, 3), free(4, 1)}, nil, 1, []int{0}},
	{"a batch behind an open one is taken back", []impl.Batch{open(1, 1, 1), open(2, 2, 1), back(2, 3)}, []impl.Undone{{Producer: 2, First: 2, Last: 3}}, 1, nil},
	{"the byte 2", []impl.Batch{open(1, 0, 1), markWith(1, 1, []int{2})}, []impl.Undone{{Producer: 1, First: 0, Last: 1}}, 2, nil},
	{"the byte 255", []impl.Batch{open(1, 0, 1), markWith(1, 1, []int{255})}, []impl.Undone{{Producer: 1, First: 0, Last: 1}}, 2, nil},
	{"the byte 1 and a zero", []impl.Batch{open(1, 0, 1), markWith(1, 1, []int{1, 0})}, []impl.Undone{{Producer: 1, First: 0, Last: 1}}, 2, nil},
	{"the byte 1 behind a zero", []impl.Batch{open(1, 0, 1), markWith(1, 1, []int{0, 1})}, []impl.Undone{{Producer: 1, First: 0, Last: 1}}, 2, nil},
	{"the byte 1 twice", []impl.Batch{open(1, 0, 1), markWith(1, 1, []int{1, 1})}, []impl.Undone{{Producer: 1, First: 0, Last: 1}}, 2, nil},
	{"an empty value", []impl.Batch{open(1, 0, 1), markWith(1, 1, []int{})}, []impl.Undone{{Producer: 1, First: 0, Last: 1}}, 2, nil},
	{"a missing value", []impl.Batch{open(1, 0, 1), markWith(1, 1, nil)}, []impl.Undone{{Producer: 1, First: 0, Last: 1}}, 2, nil},
	{"a missing value and the key 1", []impl.Batch{open(1, 0, 1), markOf(keyed(1, part1, nil)), {Mark: true, Producer: 1, Records: []impl.Record{keyed(2, part1, nil)}}}, []impl.Undone{{Producer: 1, First: 0, Last: 2}}, 3, nil},
	{"the byte 1 and a key", []impl.Batch{open(1, 0, 1), {Packed: true, Mark: true, Producer: 1, Records: []impl.Record{keyed(1, part2, part1)}}}, nil, 2, []int{0}},
	{"a record that looks like a mark", []impl.Batch{open(1, 0, 1), {Producer: 1, Records: fine(1, 1).Records}, freeOf(fine(1, 2).Records...)}, nil, 0, nil},
	{"the greatest offsets", []impl.Batch{open(254, 99990, 6), open(0, 99997, 1), back(254, 99998), fine(0, 99999)}, []impl.Undone{{Producer: 254, First: 99990, Last: 99998}}, 100000, []int{99997}},
}

// commitLog is a segment of so many batches of few producers, of none, and of marks of all kinds.
func commitLog(random *rand.Rand, many int) []impl.Batch {
	values := [][]int{{1}, {1}, {1}, {0}, {0}, {2}, {1, 0}, {}, nil}
	list, offset := []impl.Batch{}, random.IntN(3)
	for range many {
		b := open([]int{0, 1, 2, 254, impl.NoProducer}[random.IntN(5)], offset, 1+random.IntN(3))
		if b.Producer != impl.NoProducer {
			b.Epoch, b.Seq = random.IntN(2), random.IntN(50)
			if random.IntN(5) < 2 {
				b = with(markWith(b.Producer, offset, values[random.IntN(len(values))]), func(m *impl.Batch) { m.Epoch, m.Seq = b.Epoch, b.Seq })
			}
		}
		b.Packed = random.IntN(4) == 0
		b = movedBy(b, random.IntN(2)*random.IntN(5))
		list = append(list, b)
		offset = lastOffset(b) + 1
	}
	return list
}

// commitLogs are the segments worked out by hand, others, and many of few producers.
func commitLogs() [][]impl.Batch {
	result := someLogs()
	for _, e := range commits {
		result = append(result, e.list)
	}
	random := rand.New(rand.NewPCG(22, 109))
	for many := range 9 {
		for range 150 {
			result = append(result, commitLog(random, many))
		}
	}
	return result
}

// nextMark is the next mark of the producer of a batch behind it, or -1.
func nextMark(list []impl.Batch, i int) int {
	for k := i + 1; k < len(list); k++ {
		if list[k].Mark && list[k].Producer == list[i].Producer {
			return k
		}
	}
	return -1
}

// tellsFine reports whether the value of a mark is the byte 1 alone.
func tellsFine(mark impl.Batch) bool {
	return slices.Equal(mark.Records[0].Value, []int{1})
}

// undonePlainly returns what was taken back as the document tells it.
func undonePlainly(list []impl.Batch) []impl.Undone {
	result := []impl.Undone{}
	for i, b := range list {
		mark := nextMark(list, i)
		if b.Mark || b.Producer == impl.NoProducer || mark < 0 || tellsFine(list[mark]) {
			continue
		}
		ahead := i - 1
		for ahead >= 0 && list[ahead].Producer != b.Producer {
			ahead--
		}
		if ahead < 0 || list[ahead].Mark {
			result = append(result, impl.Undone{Producer: b.Producer, First: b.Records[0].Offset, Last: list[mark].Records[0].Offset})
		}
	}
	return result
}

// stablePlainly returns where the first open batch is, or how many batches there are, and the offset, as the document tells it.
func stablePlainly(list []impl.Batch) (int, int) {
	for i, b := range list {
		if !b.Mark && b.Producer != impl.NoProducer && nextMark(list, i) < 0 {
			return i, b.Records[0].Offset
		}
	}
	if len(list) == 0 {
		return 0, 0
	}
	return len(list), lastOffset(list[len(list)-1]) + 1
}

// countingPlainly returns the records that count and are decided as the document tells it.
func countingPlainly(list []impl.Batch) []impl.Record {
	result := []impl.Record{}
	many, _ := stablePlainly(list)
	for i, b := range list[:many] {
		if !b.Mark && (b.Producer == impl.NoProducer || tellsFine(list[nextMark(list, i)])) {
			result = append(result, b.Records...)
		}
	}
	return result
}

// mustMark returns a mark.
func mustMark(t *testing.T, producer, epoch, offset, time int, isFine bool) impl.Batch {
	t.Helper()
	b, ok := impl.MarkBatch(producer, epoch, offset, time, isFine)
	if !ok {
		t.Fatalf("MarkBatch(%d, %d, %d, %d, %v) failed", producer, epoch, offset, time, isFine)
	}
	return b
}

// wantUndone checks what UndoneOf returns.
func wantUndone(t *testing.T, list []impl.Batch, want []impl.Undone) {
	t.Helper()
	if got := impl.UndoneOf(list); !slices.Equal(got, want) {
		t.Errorf("UndoneOf(%v) = %v, want %v", list, got, want)
	}
}

// wantStable checks what StableEnd and StableRecords return.
func wantStable(t *testing.T, list []impl.Batch, end int, want []impl.Record) {
	t.Helper()
	if got := impl.StableEnd(list); got != end {
		t.Errorf("StableEnd(%v) = %d, want %d", list, got, end)
	}
	if got := impl.StableRecords(list); !sameRecords(got, want) {
		t.Errorf("StableRecords(%v) = %v, want %v", list, got, want)
	}
}

func TestCommitsAtTheEdges(t *testing.T) {
	for _, e := range commits {
		if got := impl.UndoneOf(e.list); !slices.Equal(got, e.undone) {
			t.Errorf("%s: UndoneOf(%v) = %v, want %v", e.why, e.list, got, e.undone)
		}
		if got := impl.StableEnd(e.list); got != e.end {
			t.Errorf("%s: StableEnd(%v) = %d, want %d", e.why, e.list, got, e.end)
		}
		if got := offsetsOf(impl.StableRecords(e.list)); !slices.Equal(got, e.offsets) {
			t.Errorf("%s: StableRecords(%v) has the offsets %v, want %v", e.why, e.list, got, e.offsets)
		}
	}
}

// Promises 109 and 110.
func TestMarksDifferByTheirValues(t *testing.T) {
	for _, producer := range []int{0, 1, 200, 254} {
		for _, epoch := range []int{0, 1, 99} {
			for _, offset := range []int{0, 7, 99999} {
				for _, time := range []int{0, 8, 99999} {
					for value, isFine := range []bool{false, true} {
						want := impl.Batch{Mark: true, Producer: producer, Epoch: epoch, Records: []impl.Record{{Offset: offset, Time: time, HasValue: true, Value: []int{value}}}}
						got := mustMark(t, producer, epoch, offset, time, isFine)
						if !sameBatch(got, want) || !impl.BatchValid(got) {
							t.Errorf("MarkBatch(%d, %d, %d, %d, %v) = %v, want %v", producer, epoch, offset, time, isFine, got, want)
						}
					}
				}
			}
		}
	}
}

func TestMarksOfInvalidArguments(t *testing.T) {
	for i, bads := range [][]int{
		{-1, -2, 255, 256, math.MaxInt, math.MinInt},
		{-1, -2, 100, 101, math.MaxInt, math.MinInt},
		{-1, -2, 100000, 100001, math.MaxInt, math.MinInt},
		{-1, -2, 100000, 100001, math.MaxInt, math.MinInt},
	} {
		for _, bad := range bads {
			for _, n := range [][]int{{3, 4, 5, 6}, {0, 0, 0, 0}} {
				n[i] = bad
				for _, isFine := range []bool{false, true} {
					if got, ok := impl.MarkBatch(n[0], n[1], n[2], n[3], isFine); ok || !sameBatch(got, impl.Batch{}) {
						t.Errorf("MarkBatch(%v, %v) = %v, %v, want none, false", n, isFine, got, ok)
					}
				}
			}
		}
	}
}

// A mark decides what is ahead of it in a segment.
func TestMarkBatchDecides(t *testing.T) {
	list := []impl.Batch{{Producer: 9, Epoch: 3, Records: bareRecords(4, 2)}}
	wantStable(t, list, 4, nil)
	kept := append(list, mustMark(t, 9, 3, 6, 1, true))
	wantStable(t, kept, 7, list[0].Records)
	wantUndone(t, kept, nil)
	gone := append(list, mustMark(t, 9, 2, 6, 1, false))
	wantStable(t, gone, 7, nil)
	wantUndone(t, gone, []impl.Undone{{Producer: 9, First: 4, Last: 6}})
}

// Promises 111 and 112.
func TestUndoneRowsEndWithMarks(t *testing.T) {
	for _, list := range commitLogs() {
		wantUndone(t, list, undonePlainly(list))
		ends, first := map[int]int{}, -1
		for _, u := range impl.UndoneOf(list) {
			mark := slices.IndexFunc(list, func(b impl.Batch) bool { return b.Mark && b.Producer == u.Producer && b.Records[0].Offset == u.Last })
			begin := slices.IndexFunc(list, func(b impl.Batch) bool {
				return !b.Mark && b.Producer == u.Producer && b.Records[0].Offset == u.First
			})
			if mark < 0 || begin < 0 || begin > mark {
				t.Errorf("UndoneOf(%v) has %v", list, u)
			}
			if end, ok := ends[u.Producer]; ok && u.First <= end || u.First <= first {
				t.Errorf("UndoneOf(%v) has %v behind %d", list, u, first)
			}
			ends[u.Producer], first = u.Last, u.First
		}
	}
}

// Promise 119.
func TestNothingIsUndoneOfProducersWhoseRecordsCount(t *testing.T) {
	for _, list := range commitLogs() {
		for _, u := range impl.UndoneOf(list) {
			if !slices.ContainsFunc(list, func(b impl.Batch) bool { return b.Mark && b.Producer == u.Producer && !tellsFine(b) }) {
				t.Errorf("UndoneOf(%v) has %v", list, u)
			}
		}
		all := slices.Clone(list)
		for i, b := range all {
			if b.Mark {
				all[i] = fine(b.Producer, b.Records[0].Offset)
			}
		}
		wantUndone(t, all, nil)
	}
}

// Promise 113.
func TestAllIsDecidedAheadOfTheStableEnd(t *testing.T) {
	for _, list := range commitLogs() {
		i, want := stablePlainly(list)
		end := impl.StableEnd(list)
		if end != want || end > impl.ReadEnd(list) {
			t.Errorf("StableEnd(%v) = %d, want %d", list, end, want)
		}
		if end == impl.ReadEnd(list) {
			continue
		}
		if b := list[i]; b.Records[0].Offset != end || b.Mark || b.Producer == impl.NoProducer || nextMark(list, i) >= 0 {
			t.Errorf("StableEnd(%v) = %d, where %v begins", list, end, b)
		}
	}
}

// Promise 114.
func TestStableEndOfOneBatchMore(t *testing.T) {
	appended := 0
	for _, list := range commitLogs() {
		longer, ok := impl.LogAppend(list, free(0, 2))
		if !ok {
			continue
		}
		appended++
		end, next := impl.StableEnd(list), impl.StableEnd(longer)
		if end == impl.ReadEnd(list) {
			end += 2
		}
		if next != end {
			t.Errorf("StableEnd(%v) = %d, want %d", longer, next, end)
		}
	}
	if appended < 500 {
		t.Errorf("only %d batches were appended", appended)
	}
}

// Promise 115.
func TestAllCountsWithoutProducers(t *testing.T) {
	for _, list := range commitLogs() {
		all := deepCopy(list)
		for i, b := range all {
			all[i] = impl.Batch{Packed: b.Packed, Producer: impl.NoProducer, Records: b.Records}
		}
		wantStable(t, all, impl.ReadEnd(all), allRecords(all, true))
		wantUndone(t, all, nil)
	}
}

// Promises 116 and 117.
func TestStableRecordsCount(t *testing.T) {
	for _, list := range commitLogs() {
		_, end := stablePlainly(list)
		wantStable(t, list, end, countingPlainly(list))
		got, undone, all := impl.StableRecords(list), impl.UndoneOf(list), impl.ReadRecords(list, 0, 99)
		for i, r := range got {
			if r.Offset >= end || i > 0 && r.Offset <= got[i-1].Offset || !slices.ContainsFunc(all, func(other impl.Record) bool { return sameRecord(r, other) }) {
				t.Errorf("StableRecords(%v) has %v", list, r)
			}
			at := slices.IndexFunc(list, func(b impl.Batch) bool { return b.Records[0].Offset <= r.Offset && r.Offset <= lastOffset(b) })
			for _, u := range undone {
				if u.Producer == list[at].Producer && u.First <= r.Offset && r.Offset < u.Last {
					t.Errorf("StableRecords(%v) has %v, but %v was taken back", list, r, u)
				}
			}
		}
	}
}

// Promise 118.
func TestMarkOfTheOpenProducerMovesTheStableEnd(t *testing.T) {
	moved := 0
	for _, list := range commitLogs() {
		i, end := stablePlainly(list)
		for _, isFine := range []bool{false, true} {
			if i == len(list) {
				continue
			}
			longer, ok := impl.LogAppend(list, mustMark(t, list[i].Producer, 5, 0, 0, isFine))
			if !ok {
				continue
			}
			moved++
			if next := impl.StableEnd(longer); next <= end {
				t.Errorf("StableEnd(%v) = %d, but it was %d before", longer, next, end)
			}
			wantUndone(t, longer, undonePlainly(longer))
		}
	}
	if moved < 500 {
		t.Errorf("only %d marks were appended", moved)
	}
}

func TestCommitsOfInvalidBatches(t *testing.T) {
	for _, list := range invalidLogs() {
		wantUndone(t, list, nil)
		wantStable(t, list, -1, nil)
	}
	wantUndone(t, []impl.Batch{open(1, 0, 1), back(1, 1), back(1, 1)}, nil)
	wantUndone(t, []impl.Batch{open(1, 1, 1), back(1, 0)}, nil)
	wantStable(t, []impl.Batch{open(1, 1, 1), fine(1, 0)}, -1, nil)
}

func TestCommitsShareNoMemory(t *testing.T) {
	wantNoSharing(t, "StableRecords", func(list []impl.Batch) []impl.Batch {
		impl.StableEnd(list)
		overwriteAll(impl.UndoneOf(list), impl.Undone{Producer: 77})
		return []impl.Batch{{Records: impl.StableRecords(list)}}
	})
	wantNoSharing(t, "MarkBatch", func([]impl.Batch) []impl.Batch {
		return []impl.Batch{mustMark(t, 1, 2, 3, 4, true), mustMark(t, 1, 2, 3, 4, false)}
	})
	list := []impl.Batch{open(1, 0, 1), open(2, 1, 1), back(2, 2), back(1, 3)}
	first, second := impl.UndoneOf(list), impl.UndoneOf(list)
	overwriteAll(first, impl.Undone{Producer: 77})
	overwrite(list)
	if !slices.Equal(second, []impl.Undone{{Producer: 1, First: 0, Last: 3}, {Producer: 2, First: 1, Last: 2}}) {
		t.Errorf("UndoneOf: the result was changed to %v", second)
	}
}
