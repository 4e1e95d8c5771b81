package tests

import (
	"math"
	"math/rand/v2"
	"slices"
	"testing"

	"loop.example/recordbatches/impl"
)

// numbered is a batch of a producer with so many records.
func numbered(producer, epoch, seq, many int) impl.Batch {
	return impl.Batch{Producer: producer, Epoch: epoch, Seq: seq, Records: bareRecords(7, many)}
}

// crowd is so many producers, from a number on.
func crowd(from, many int) []impl.Producer {
	result := []impl.Producer{}
	for i := range many {
		result = append(result, impl.Producer{Id: from + i, Epoch: i % 3, Next: 5 * i})
	}
	return result
}

// someProducers are valid producers, none up to as many as there may be.
func someProducers() [][]impl.Producer {
	result := [][]impl.Producer{
		nil,
		{{Id: 0}},
		{{Id: 254}},
		{{Id: 0, Epoch: 99, Next: 99999}},
		{{Id: 254, Epoch: 99, Next: 99999}},
		{{Id: 0, Epoch: 0, Next: 99999}, {Id: 1, Epoch: 99, Next: 0}, {Id: 253, Next: 9999}, {Id: 254, Epoch: 1, Next: 10000}},
		{{Id: 3, Epoch: 98, Next: 9998}, {Id: 4, Epoch: 50, Next: 10005}, {Id: 5, Epoch: 2, Next: 1}},
		crowd(0, 19), crowd(0, 20), crowd(235, 20), crowd(236, 19),
	}
	random := rand.New(rand.NewPCG(21, 98))
	for many := range 21 {
		ids := random.Perm(255)[:many]
		slices.Sort(ids)
		list := []impl.Producer{}
		for _, id := range ids {
			list = append(list, impl.Producer{Id: id, Epoch: random.IntN(100), Next: random.IntN(10010)})
		}
		result = append(result, list)
	}
	return result
}

// invalidProducers are producers that are not valid, each for one reason.
func invalidProducers() [][]impl.Producer {
	result := [][]impl.Producer{
		crowd(0, 21), crowd(100, 21), crowd(0, 255), crowd(234, 21),
		{{Id: 1}, {Id: 1}},
		{{Id: 2}, {Id: 1}},
		{{Id: 1}, {Id: 5}, {Id: 5}},
		{{Id: 1}, {Id: 5}, {Id: 1}},
		{{Id: 1}, {Id: 5}, {Id: 3}, {Id: 8}},
		{{Id: 1, Epoch: 1, Next: 3}, {Id: 1, Epoch: 2, Next: 3}},
		slices.Repeat(crowd(7, 1), 3),
	}
	for _, list := range [][]impl.Producer{{{Id: 8}}, {{Id: 3}, {Id: 8}, {Id: 100}}} {
		i := len(list) / 2
		bad := func(p impl.Producer) {
			changed := slices.Clone(list)
			changed[i] = p
			result = append(result, changed)
		}
		for _, n := range []int{-1, -2, 255, 256, math.MaxInt, math.MinInt} {
			bad(impl.Producer{Id: n})
		}
		for _, n := range []int{-1, -2, 100, 101, math.MaxInt, math.MinInt} {
			bad(impl.Producer{Id: 8, Epoch: n})
		}
		for _, n := range []int{-1, -2, 100000, 100001, math.MaxInt, math.MinInt} {
			bad(impl.Producer{Id: 8, Next: n})
		}
	}
	return append(result, []impl.Producer{{Id: 3}, {Id: 254}, {Id: 255}})
}

// batchesFor are batches of no producer, of each one, of new ones, of the same epoch and of others, with the next number and with others; and marks.
func batchesFor(list []impl.Producer) []impl.Batch {
	result := []impl.Batch{free(3, 2), free(0, 6)}
	known := append(slices.Clone(list), impl.Producer{Id: 0}, impl.Producer{Id: 254}, impl.Producer{Id: 77, Epoch: 3}, impl.Producer{Id: 6, Epoch: 99})
	for i, p := range known {
		for _, epoch := range []int{0, p.Epoch - 1, p.Epoch, p.Epoch + 1, 99} {
			for _, seq := range []int{0, 1, p.Next - 1, p.Next, p.Next + 1, 9999} {
				b := numbered(p.Id, epoch, seq, 1+(i+epoch+seq+7)%6)
				if b.Mark = seq%3 == 0; b.Mark {
					b.Records = b.Records[:1]
				}
				if epoch >= 0 && epoch <= 99 && seq >= 0 && seq <= 9999 {
					result = append(result, b)
				}
			}
		}
	}
	return result
}

// checkPlainly returns the code of valid arguments as the document tells it.
func checkPlainly(list []impl.Producer, b impl.Batch) int {
	if b.Producer == impl.NoProducer {
		return impl.CheckFree
	}
	next := 0
	if i := indexOf(list, b.Producer); i >= 0 {
		if list[i].Epoch > b.Epoch {
			return impl.CheckOld
		}
		if list[i].Epoch == b.Epoch {
			next = list[i].Next
		}
	}
	switch {
	case b.Seq < next:
		return impl.CheckTwice
	case b.Seq > next:
		return impl.CheckGap
	}
	return impl.CheckFine
}

// indexOf is where the producer with a number is, or -1.
func indexOf(list []impl.Producer, id int) int {
	return slices.IndexFunc(list, func(p impl.Producer) bool { return p.Id == id })
}

// putPlainly returns the producers and the code of valid arguments as the document tells it.
func putPlainly(list []impl.Producer, b impl.Batch) ([]impl.Producer, int) {
	if code := checkPlainly(list, b); code != impl.CheckFine {
		return list, code
	}
	result := slices.DeleteFunc(slices.Clone(list), func(p impl.Producer) bool { return p.Id == b.Producer })
	result = append(result, impl.Producer{Id: b.Producer, Epoch: b.Epoch, Next: b.Seq + len(b.Records)})
	if len(result) > 20 {
		return nil, impl.CheckBad
	}
	slices.SortFunc(result, func(a, b impl.Producer) int { return a.Id - b.Id })
	return result, impl.CheckFine
}

// wantCheck checks what ProducersCheck returns.
func wantCheck(t *testing.T, list []impl.Producer, b impl.Batch, code int) {
	t.Helper()
	if got := impl.ProducersCheck(list, b); got != code {
		t.Errorf("ProducersCheck(%v, %v) = %d, want %d", list, b, got, code)
	}
}

// wantPut checks what ProducersPut returns.
func wantPut(t *testing.T, list []impl.Producer, b impl.Batch, want []impl.Producer, code int) {
	t.Helper()
	if got, n := impl.ProducersPut(list, b); n != code || !slices.Equal(got, want) {
		t.Errorf("ProducersPut(%v, %v) = %v, %d, want %v, %d", list, b, got, n, want, code)
	}
}

// wantRun checks what ProducersRun returns.
func wantRun(t *testing.T, list []impl.Batch, want []impl.Producer, codes ...int) {
	t.Helper()
	if got, n := impl.ProducersRun(list); !slices.Equal(n, codes) || !slices.Equal(got, want) {
		t.Errorf("ProducersRun(%v) = %v, %v, want %v, %v", list, got, n, want, codes)
	}
}

// eachPut calls a function for many producers and batches that ProducersPut takes, with what it returns.
func eachPut(t *testing.T, do func(list, after []impl.Producer, b impl.Batch)) {
	t.Helper()
	taken := 0
	for _, list := range someProducers() {
		for _, b := range batchesFor(list) {
			if after, code := impl.ProducersPut(list, b); code == impl.CheckFine {
				taken++
				do(list, after, b)
			}
		}
	}
	if taken < 500 {
		t.Errorf("only %d batches were taken", taken)
	}
}

func TestCodesOfProducers(t *testing.T) {
	codes := []int{impl.CheckFine, impl.CheckTwice, impl.CheckGap, impl.CheckOld, impl.CheckFree, impl.CheckBad}
	if !slices.Equal(codes, upTo(0, 6)) {
		t.Errorf("the codes are %v", codes)
	}
}

func TestCheckAtTheEdges(t *testing.T) {
	list := []impl.Producer{{Id: 0, Epoch: 2, Next: 0}, {Id: 7, Epoch: 99, Next: 9999}, {Id: 9, Epoch: 0, Next: 10000}, {Id: 254, Epoch: 5, Next: 10}}
	for _, e := range []struct {
		b    impl.Batch
		code int
	}{
		{free(0, 1), impl.CheckFree},
		{numbered(0, 2, 0, 1), impl.CheckFine}, {numbered(0, 2, 1, 1), impl.CheckGap}, {numbered(0, 2, 9999, 1), impl.CheckGap},
		{numbered(0, 3, 0, 1), impl.CheckFine}, {numbered(0, 99, 0, 6), impl.CheckFine}, {numbered(0, 3, 1, 1), impl.CheckGap},
		{numbered(0, 1, 0, 1), impl.CheckOld}, {numbered(0, 0, 9999, 1), impl.CheckOld},
		{numbered(7, 99, 9999, 1), impl.CheckFine}, {numbered(7, 99, 9998, 1), impl.CheckTwice}, {numbered(7, 99, 9998, 6), impl.CheckTwice}, {numbered(7, 99, 0, 1), impl.CheckTwice}, {numbered(7, 98, 9999, 1), impl.CheckOld},
		{numbered(9, 0, 9999, 1), impl.CheckTwice}, {numbered(9, 0, 0, 1), impl.CheckTwice}, {numbered(9, 1, 0, 1), impl.CheckFine}, {numbered(9, 1, 9999, 1), impl.CheckGap},
		{numbered(254, 5, 9, 1), impl.CheckTwice}, {numbered(254, 5, 10, 1), impl.CheckFine}, {numbered(254, 5, 11, 1), impl.CheckGap},
		{numbered(254, 6, 0, 1), impl.CheckFine}, {numbered(254, 6, 10, 1), impl.CheckGap}, {numbered(254, 4, 0, 1), impl.CheckOld}, {numbered(254, 4, 10, 1), impl.CheckOld},
		{numbered(1, 0, 0, 1), impl.CheckFine}, {numbered(1, 99, 0, 6), impl.CheckFine}, {numbered(1, 0, 1, 1), impl.CheckGap}, {numbered(253, 5, 10, 1), impl.CheckGap},
		{impl.Batch{Mark: true, Producer: 254, Epoch: 5, Seq: 10, Records: bareRecords(0, 1)}, impl.CheckFine},
		{impl.Batch{Mark: true, Producer: 254, Epoch: 5, Seq: 0, Records: bareRecords(0, 1)}, impl.CheckTwice},
		{impl.Batch{Packed: true, Mark: true, Producer: 254, Epoch: 5, Seq: 11, Records: bareRecords(0, 1)}, impl.CheckGap},
	} {
		wantCheck(t, list, e.b, e.code)
	}
}

// Promises 98, 99 and 100.
func TestCheckTellsWhetherABatchFollows(t *testing.T) {
	codes := map[int]int{}
	for _, list := range someProducers() {
		for _, b := range batchesFor(list) {
			code := checkPlainly(list, b)
			wantCheck(t, list, b, code)
			codes[code]++
			if code != impl.CheckOld {
				continue
			}
			for _, seq := range []int{0, 1, 2, 5000, 9998, 9999} {
				wantCheck(t, list, with(b, func(b *impl.Batch) { b.Seq = seq }), impl.CheckOld)
			}
		}
	}
	if len(codes) != 5 || slices.ContainsFunc([]int{0, 1, 2, 3, 4}, func(code int) bool { return codes[code] < 50 }) {
		t.Errorf("the codes were %v", codes)
	}
}

// Promises 103 and 104, and that of the producer itself.
func TestPutTakesWhatFollows(t *testing.T) {
	codes := map[int]int{}
	for _, list := range someProducers() {
		for _, b := range batchesFor(list) {
			want, code := putPlainly(list, b)
			wantPut(t, list, b, want, code)
			codes[code]++
		}
	}
	if len(codes) != 6 {
		t.Errorf("the codes were %v", codes)
	}
}

// Promises 101 and 102.
func TestTakenBatchIsNotTakenTwice(t *testing.T) {
	eachPut(t, func(list, after []impl.Producer, b impl.Batch) {
		if !impl.ProducersValid(after) {
			t.Errorf("ProducersPut(%v, %v) = %v, which is not valid", list, b, after)
		}
		wantCheck(t, after, b, impl.CheckTwice)
		wantPut(t, after, b, after, impl.CheckTwice)
		if next := b.Seq + len(b.Records); next <= 9999 {
			wantCheck(t, after, with(b, func(b *impl.Batch) { b.Seq = next }), impl.CheckFine)
		}
	})
}

// Promise 104.
func TestOtherProducersStayAsTheyAre(t *testing.T) {
	eachPut(t, func(list, after []impl.Producer, b impl.Batch) {
		isIts := func(p impl.Producer) bool { return p.Id == b.Producer }
		before, others := slices.DeleteFunc(slices.Clone(list), isIts), slices.DeleteFunc(slices.Clone(after), isIts)
		if !slices.Equal(before, others) || len(others) != len(after)-1 {
			t.Errorf("ProducersPut(%v, %v) = %v", list, b, after)
		}
	})
}

// A producer too many is noticed when it is put, but a known one has room.
func TestPutOfOneProducerTooMany(t *testing.T) {
	for _, list := range [][]impl.Producer{crowd(0, 20), crowd(100, 20), crowd(234, 20)} {
		for _, id := range []int{0, 50, 200, 254} {
			b := numbered(id, 99, 0, 1)
			wantCheck(t, list, b, impl.CheckFine)
			if indexOf(list, id) >= 0 {
				continue
			}
			wantPut(t, list, b, nil, impl.CheckBad)
			wantPut(t, list, numbered(id, 99, 1, 1), list, impl.CheckGap)
			want, _ := putPlainly(list[:19], b)
			wantPut(t, list[:19], b, want, impl.CheckFine)
		}
		want := slices.Clone(list)
		want[3] = impl.Producer{Id: list[3].Id, Epoch: 50, Next: 6}
		wantPut(t, list, numbered(list[3].Id, 50, 0, 6), want, impl.CheckFine)
		wantPut(t, list, free(0, 1), list, impl.CheckFree)
	}
}

func TestNextNumbersAtTheEdges(t *testing.T) {
	wantPut(t, []impl.Producer{{Id: 4, Next: 9999}}, numbered(4, 0, 9999, 6), []impl.Producer{{Id: 4, Next: 10005}}, impl.CheckFine)
	wantPut(t, []impl.Producer{{Id: 4, Next: 9999}}, numbered(4, 0, 9999, 1), []impl.Producer{{Id: 4, Next: 10000}}, impl.CheckFine)
	wantPut(t, []impl.Producer{{Id: 4, Next: 99999}}, numbered(4, 0, 9999, 1), []impl.Producer{{Id: 4, Next: 99999}}, impl.CheckTwice)
	wantPut(t, []impl.Producer{{Id: 4, Next: 99999}}, numbered(4, 1, 0, 6), []impl.Producer{{Id: 4, Epoch: 1, Next: 6}}, impl.CheckFine)
	wantPut(t, nil, numbered(254, 99, 0, 6), []impl.Producer{{Id: 254, Epoch: 99, Next: 6}}, impl.CheckFine)
	wantPut(t, nil, numbered(0, 0, 0, 1), []impl.Producer{{Next: 1}}, impl.CheckFine)
	wantPut(t, nil, numbered(0, 0, 1, 1), nil, impl.CheckGap)
	wantPut(t, nil, free(0, 1), nil, impl.CheckFree)
}

// randomRun is so many batches of few producers in any order, and some invalid ones.
func randomRun(random *rand.Rand, many int) []impl.Batch {
	bad, result := invalidBatches(), []impl.Batch{}
	next := map[int]int{}
	for range many {
		b := numbered(random.IntN(4), 0, 0, 1+random.IntN(3))
		b.Epoch = random.IntN(8) / 7
		b.Seq = max(0, next[b.Producer]+random.IntN(8)/7-random.IntN(8)/7)*(1-b.Epoch) + random.IntN(4)*b.Epoch
		b.Mark = len(b.Records) == 1 && random.IntN(2) == 0
		switch random.IntN(12) {
		case 0:
			b = free(3, 2)
		case 1:
			b = bad[random.IntN(len(bad))]
		default:
			next[b.Producer] = b.Seq + len(b.Records)
		}
		result = append(result, b)
	}
	return result
}

// Promise 105.
func TestRunPutsBatchesInOrder(t *testing.T) {
	random := rand.New(rand.NewPCG(21, 105))
	codes := map[int]int{}
	for many := range 40 {
		for range 10 {
			list := randomRun(random, many)
			var want []impl.Producer
			all := []int{}
			for _, b := range list {
				after, code := impl.ProducersPut(want, b)
				if code != impl.CheckBad {
					want = after
				}
				all = append(all, code)
				codes[code]++
			}
			wantRun(t, list, want, all...)
			if !impl.ProducersValid(want) {
				t.Errorf("ProducersRun(%v) = %v, which is not valid", list, want)
			}
		}
	}
	if len(codes) != 6 {
		t.Errorf("the codes were %v", codes)
	}
}

func TestRunAtTheEdges(t *testing.T) {
	wantRun(t, nil, nil)
	wantRun(t, []impl.Batch{free(0, 1), free(0, 1)}, nil, impl.CheckFree, impl.CheckFree)
	wantRun(t, []impl.Batch{{}, numbered(1, 0, 0, 2), {}, numbered(1, 0, 2, 1), numbered(1, 100, 0, 1)}, []impl.Producer{{Id: 1, Next: 3}},
		impl.CheckBad, impl.CheckFine, impl.CheckBad, impl.CheckFine, impl.CheckBad)
	wantRun(t, []impl.Batch{numbered(5, 1, 0, 2), numbered(1, 0, 0, 3), numbered(5, 0, 2, 1), numbered(5, 2, 0, 1), numbered(5, 1, 2, 1), numbered(1, 0, 4, 1)},
		[]impl.Producer{{Id: 1, Next: 3}, {Id: 5, Epoch: 2, Next: 1}},
		impl.CheckFine, impl.CheckFine, impl.CheckOld, impl.CheckFine, impl.CheckOld, impl.CheckGap)
	mark := impl.Batch{Mark: true, Producer: 1, Seq: 2, Records: bareRecords(0, 1)}
	wantRun(t, []impl.Batch{numbered(1, 0, 0, 2), mark, mark, numbered(1, 0, 3, 1)}, []impl.Producer{{Id: 1, Next: 4}},
		impl.CheckFine, impl.CheckFine, impl.CheckTwice, impl.CheckFine)
}

// More batches than a segment has, and more producers than there may be.
func TestRunOfManyBatches(t *testing.T) {
	list, want, codes := []impl.Batch{}, []impl.Producer{}, []int{}
	for i := range 255 {
		list, codes = append(list, numbered(i, 0, 0, 1), numbered(i, 0, 1, 1)), append(codes, impl.CheckBad, impl.CheckGap)
		if i < 20 {
			want = append(want, impl.Producer{Id: i, Next: 2})
			codes[2*i], codes[2*i+1] = impl.CheckFine, impl.CheckFine
		}
	}
	wantRun(t, list, want, codes...)
	list, codes = append(list, numbered(19, 0, 2, 6)), append(codes, impl.CheckFine)
	want[19].Next = 8
	wantRun(t, list, want, codes...)
}

// Promise 106.
func TestRunTakesNothingAgain(t *testing.T) {
	random := rand.New(rand.NewPCG(21, 106))
	for many := 1; many <= 60; many++ {
		list, next, epoch := []impl.Batch{}, map[int]int{}, random.IntN(100)
		for range many {
			b := numbered(random.IntN(20), epoch, 0, 1+random.IntN(6))
			b.Seq = next[b.Producer]
			next[b.Producer] += len(b.Records)
			list = append(list, b)
		}
		got, codes := impl.ProducersRun(list)
		if !slices.Equal(codes, make([]int, many)) {
			t.Errorf("ProducersRun(%v) = %v, %v", list, got, codes)
		}
		wantRun(t, slices.Concat(list, list), got, append(codes, slices.Repeat([]int{impl.CheckTwice}, many)...)...)
	}
}

// Promise 107.
func TestProducersWithoutOneAndWithItTwice(t *testing.T) {
	for _, list := range someProducers() {
		if !impl.ProducersValid(list) {
			t.Errorf("%v is not valid", list)
		}
		for i, p := range list {
			if without := slices.Delete(slices.Clone(list), i, i+1); !impl.ProducersValid(without) {
				t.Errorf("%v is not valid", without)
			}
			wantInvalidProducers(t, slices.Insert(slices.Clone(list), i, p))
			wantInvalidProducers(t, append(slices.Clone(list), p))
		}
	}
}

// Promise 108.
func TestGapHasANumberAhead(t *testing.T) {
	gaps := 0
	for _, list := range someProducers() {
		for _, b := range batchesFor(list) {
			if b.Seq > 100 || impl.ProducersCheck(list, b) != impl.CheckGap {
				continue
			}
			gaps++
			seq := b.Seq - 1
			check := func() int { return impl.ProducersCheck(list, with(b, func(b *impl.Batch) { b.Seq = seq })) }
			for seq > 0 && check() == impl.CheckGap {
				seq--
			}
			if code := check(); code != impl.CheckFine {
				t.Errorf("ProducersCheck(%v, %v) is CheckGap, but %d for %d", list, b, code, seq)
			}
		}
	}
	if gaps < 100 {
		t.Errorf("only %d batches leave a gap", gaps)
	}
}

// wantInvalidProducers checks that producers are invalid, and that no batch is taken, also none without a producer.
func wantInvalidProducers(t *testing.T, list []impl.Producer) {
	t.Helper()
	if impl.ProducersValid(list) {
		t.Errorf("%v is valid", list)
	}
	for _, b := range []impl.Batch{free(0, 1), numbered(8, 0, 0, 1), numbered(254, 99, 9999, 6), {}} {
		wantCheck(t, list, b, impl.CheckBad)
		wantPut(t, list, b, nil, impl.CheckBad)
	}
}

func TestInvalidProducers(t *testing.T) {
	for _, list := range invalidProducers() {
		wantInvalidProducers(t, list)
	}
}

func TestInvalidBatchesAreNotTaken(t *testing.T) {
	for _, bad := range invalidBatches() {
		for _, list := range [][]impl.Producer{nil, {{Id: 8, Epoch: 1, Next: 2}}, {{Id: 8, Epoch: 99}}, crowd(0, 20)} {
			wantCheck(t, list, bad, impl.CheckBad)
			wantPut(t, list, bad, nil, impl.CheckBad)
		}
		wantRun(t, []impl.Batch{numbered(8, 0, 0, 3), bad, numbered(8, 0, 3, 1)}, []impl.Producer{{Id: 8, Next: 4}}, impl.CheckFine, impl.CheckBad, impl.CheckFine)
	}
}

func TestProducersShareNoMemory(t *testing.T) {
	for _, b := range []impl.Batch{numbered(2, 5, 0, 1), numbered(9, 0, 0, 1), free(0, 1), numbered(2, 0, 0, 1)} {
		backing := crowd(1, 9)
		list, before := backing[:4], slices.Clone(backing)
		first, _ := impl.ProducersPut(list, b)
		second, _ := impl.ProducersPut(list, b)
		want := slices.Clone(second)
		overwriteAll(first, impl.Producer{Id: 77})
		if !slices.Equal(backing, before) || len(want) < 4 {
			t.Errorf("ProducersPut: the argument was changed to %v", backing)
		}
		overwriteAll(backing, impl.Producer{Id: 78})
		if !slices.Equal(second, want) {
			t.Errorf("ProducersPut: the result was changed to %v", second)
		}
	}
	list := sharedLog()
	before := deepCopy(list[:cap(list)])
	first, codes := impl.ProducersRun(list)
	second, again := impl.ProducersRun(list)
	overwriteAll(first, impl.Producer{Id: 77})
	overwriteAll(codes, 77)
	impl.ProducersCheck(second, list[1])
	if !sameBatches(list[:cap(list)], before) || !slices.Equal(again, []int{impl.CheckFree, impl.CheckFine, impl.CheckTwice}) || !slices.Equal(second, []impl.Producer{{Id: 1, Next: 1}}) {
		t.Errorf("ProducersRun: the argument was changed to %v, or the result to %v, %v", list, second, again)
	}
}

// overwriteAll changes all that a slice holds, up to its capacity.
func overwriteAll[T any](list []T, value T) {
	for i := range list[:cap(list)] {
		list[:cap(list)][i] = value
	}
}
