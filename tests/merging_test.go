package tests

import (
	"math/rand/v2"
	"runtime"
	"slices"
	"sync"
	"testing"

	"loop.example/recordbatches/impl"
)

// timed are records with these times, from an offset on.
func timed(offset int, times ...int) []impl.Record {
	return at(offset, times...).Records
}

// randomRow is so many records with any offsets, times that are often equal, and few keys and values.
func randomRow(random *rand.Rand, many int) []impl.Record {
	parts := [][]int{missing, emptyPart, part1, {0}, {1, 2}, twelve}
	result := []impl.Record{}
	for range many {
		r := keyed(random.IntN(100000), parts[random.IntN(len(parts))], parts[random.IntN(len(parts))])
		r.Time = random.IntN([]int{3, 40, 100000}[random.IntN(3)])
		result = append(result, r)
	}
	return result
}

// inOrder are the same records in the order of time.
func inOrder(row []impl.Record) []impl.Record {
	result := slices.Clone(row)
	slices.SortStableFunc(result, func(a, b impl.Record) int { return a.Time - b.Time })
	return result
}

// changes change a record in one field only, so that it stays valid.
var changes = []struct {
	why    string
	change func(r *impl.Record)
}{
	{"the offset", func(r *impl.Record) { r.Offset = (r.Offset + 1) % 100000 }},
	{"the time", func(r *impl.Record) { r.Time = (r.Time + 1) % 100000 }},
	{"whether there is a key", func(r *impl.Record) { r.HasKey, r.Key = !r.HasKey, nil }},
	{"whether there is a value", func(r *impl.Record) { r.HasValue, r.Value = !r.HasValue, nil }},
	{"a byte of the key", func(r *impl.Record) { r.HasKey, r.Key = true, append([]int{9}, r.Key[min(1, len(r.Key)):]...) }},
	{"a byte of the value", func(r *impl.Record) { r.HasValue, r.Value = true, append([]int{9}, r.Value[min(1, len(r.Value)):]...) }},
	{"the length of the key", func(r *impl.Record) { r.HasKey, r.Key = true, append([]int{0}, r.Key[:min(11, len(r.Key))]...) }},
	{"the length of the value", func(r *impl.Record) {
		r.HasValue, r.Value = true, append(slices.Clone(r.Value[:min(11, len(r.Value))]), 8)
	}},
}

// pairsOfRows calls a function with many pairs of rows: any ones, and some that share their beginning.
func pairsOfRows(do func(a, b []impl.Record)) {
	random := rand.New(rand.NewPCG(42, 163))
	for i := range 3000 {
		a, b := randomRow(random, random.IntN(31)), randomRow(random, random.IntN(31))
		if i%3 == 0 {
			a, b = a[:len(a)/2], b[:len(b)/2]
		}
		if i%4 == 0 {
			a, b = inOrder(a), inOrder(b)
		}
		if i%5 == 0 {
			b = slices.Concat(a[:random.IntN(len(a)+1)], b)
			b = b[:min(len(b), 30)]
		}
		if i%7 == 0 && len(a) > 0 {
			b = slices.Clone(a)
			changes[random.IntN(len(changes))].change(&b[random.IntN(len(b))])
		}
		do(a, b)
	}
}

// mergePlainly returns the records of two rows as the document tells it.
func mergePlainly(a, b []impl.Record) []impl.Record {
	result := []impl.Record{}
	for len(a) > 0 || len(b) > 0 {
		if len(b) == 0 || len(a) > 0 && a[0].Time <= b[0].Time {
			result, a = append(result, a[0]), a[1:]
		} else {
			result, b = append(result, b[0]), b[1:]
		}
	}
	return result
}

// commonPlainly returns how many records are equal at the beginning.
func commonPlainly(a, b []impl.Record) int {
	many := 0
	for many < len(a) && many < len(b) && sameRecord(a[many], b[many]) {
		many++
	}
	return many
}

// apartPlainly returns the offset where two rows part, as the document tells it.
func apartPlainly(a, b []impl.Record) int {
	rest := []int{}
	for _, row := range [][]impl.Record{a, b} {
		if many := commonPlainly(a, b); many < len(row) {
			rest = append(rest, row[many].Offset)
		}
	}
	if len(rest) == 0 {
		return -1
	}
	return slices.Min(rest)
}

// wantMerge checks what RecordsMerge returns.
func wantMerge(t *testing.T, a, b, want []impl.Record) {
	t.Helper()
	if got, ok := impl.RecordsMerge(a, b); !ok || !sameRecords(got, want) {
		t.Errorf("RecordsMerge(%v, %v) = %v, %v, want %v, true", a, b, got, ok, want)
	}
}

// wantNotMerged checks that RecordsMerge fails with zero values.
func wantNotMerged(t *testing.T, a, b []impl.Record) {
	t.Helper()
	if got, ok := impl.RecordsMerge(a, b); ok || len(got) != 0 {
		t.Errorf("RecordsMerge(%v, %v) = %v, %v, want none, false", a, b, got, ok)
	}
}

// wantApart checks what RecordsCommon and RecordsApart return, for both exchanged, too.
func wantApart(t *testing.T, a, b []impl.Record, common, apart int) {
	t.Helper()
	for range 2 {
		if got := impl.RecordsCommon(a, b); got != common {
			t.Errorf("RecordsCommon(%v, %v) = %d, want %d", a, b, got, common)
		}
		if got := impl.RecordsApart(a, b); got != apart {
			t.Errorf("RecordsApart(%v, %v) = %d, want %d", a, b, got, apart)
		}
		a, b = b, a
	}
}

// wantInvalidRow checks what all functions tell of rows of which one is invalid.
func wantInvalidRow(t *testing.T, a, b []impl.Record) {
	t.Helper()
	wantNotMerged(t, a, b)
	wantNotMerged(t, b, a)
	wantApart(t, a, b, -1, -1)
}

// isWithin reports whether records are among others in their order.
func isWithin(some, all []impl.Record) bool {
	for _, r := range all {
		if len(some) > 0 && sameRecord(some[0], r) {
			some = some[1:]
		}
	}
	return len(some) == 0
}

func TestMergeMax(t *testing.T) {
	if impl.MergeMax != 30 {
		t.Errorf("MergeMax = %d, want 30", impl.MergeMax)
	}
}

func TestRowsAreMerged(t *testing.T) {
	for _, e := range []struct {
		why     string
		a, b    []impl.Record
		offsets []int
	}{
		{"no records", nil, nil, nil},
		{"no second row", timed(0, 5, 3, 4), nil, []int{0, 1, 2}},
		{"no first row", nil, timed(0, 5, 3, 4), []int{0, 1, 2}},
		{"in turns", timed(0, 1, 3, 5), timed(50, 2, 4, 6), []int{0, 50, 1, 51, 2, 52}},
		{"the second one first", timed(0, 2, 4), timed(50, 1, 3), []int{50, 0, 51, 1}},
		{"one behind the other", timed(0, 1, 2), timed(50, 3, 4), []int{0, 1, 50, 51}},
		{"one behind the other, exchanged", timed(50, 3, 4), timed(0, 1, 2), []int{0, 1, 50, 51}},
		{"equal times in both", timed(0, 7), timed(50, 7), []int{0, 50}},
		{"equal times in both, and within them", timed(0, 7, 7, 8), timed(50, 7, 7, 8), []int{0, 1, 50, 51, 2, 52}},
		{"a row that goes back", timed(0, 5, 1, 9), timed(50, 4, 6), []int{50, 0, 1, 51, 2}},
		{"both go back", timed(0, 5, 4, 3), timed(50, 5, 4, 3), []int{0, 1, 2, 50, 51, 52}},
		{"the second one goes back", timed(0, 5, 6), timed(50, 6, 1, 2), []int{0, 1, 50, 51, 52}},
		{"a late one holds up earlier ones", timed(0, 99999, 0), timed(50, 99998, 1), []int{50, 51, 0, 1}},
		{"the edges of times", timed(0, 0, 99999), timed(50, 0, 99999), []int{0, 50, 1, 51}},
		{"offsets do not count", timed(50, 1, 2), timed(0, 1, 2), []int{50, 0, 51, 1}},
	} {
		t.Run(e.why, func(t *testing.T) {
			got, ok := impl.RecordsMerge(e.a, e.b)
			if !ok || !slices.Equal(offsetsOf(got), e.offsets) {
				t.Errorf("RecordsMerge(%v, %v) = %v, %v, want the offsets %v", e.a, e.b, got, ok, e.offsets)
			}
		})
	}
}

// Promises 163 and 164.
func TestMergedRowsHaveAllRecords(t *testing.T) {
	merged, ordered, failed := 0, 0, 0
	pairsOfRows(func(a, b []impl.Record) {
		if len(a)+len(b) > 30 {
			failed++
			wantNotMerged(t, a, b)
			return
		}
		merged++
		wantMerge(t, a, b, mergePlainly(a, b))
		got, _ := impl.RecordsMerge(a, b)
		if len(got) != len(a)+len(b) || !isWithin(a, got) || !isWithin(b, got) {
			t.Errorf("RecordsMerge(%v, %v) = %v", a, b, got)
		}
		if sameRecords(a, inOrder(a)) && sameRecords(b, inOrder(b)) {
			ordered++
			if !sameRecords(got, inOrder(got)) {
				t.Errorf("RecordsMerge(%v, %v) = %v, which goes back", a, b, got)
			}
		}
	})
	if merged < 1000 || ordered < 300 || failed < 300 {
		t.Errorf("%d pairs were merged, %d of which in the order of time, and %d were not", merged, ordered, failed)
	}
}

// Promise 165.
func TestRowAndNoneIsThisRow(t *testing.T) {
	pairsOfRows(func(a, b []impl.Record) {
		wantMerge(t, a, nil, a)
		wantMerge(t, nil, a, a)
		wantMerge(t, b, []impl.Record{}, b)
	})
}

// Promises 166, 168 and 169.
func TestRowsPart(t *testing.T) {
	equal, parted := 0, 0
	pairsOfRows(func(a, b []impl.Record) {
		common, apart := commonPlainly(a, b), apartPlainly(a, b)
		wantApart(t, a, b, common, apart)
		if (apart < 0) != sameRecords(a, b) {
			t.Errorf("RecordsApart(%v, %v) = %d", a, b, apart)
		}
		if apart < 0 {
			equal++
		} else if common > 0 {
			parted++
		}
	})
	if equal < 5 || parted < 300 {
		t.Errorf("%d pairs were equal, and %d had records in common", equal, parted)
	}
}

// Promise 167.
func TestRowHasAllInCommonWithItself(t *testing.T) {
	pairsOfRows(func(a, b []impl.Record) {
		wantApart(t, a, slices.Clone(a), len(a), -1)
		wantApart(t, b, deepCopy([]impl.Batch{{Records: b}})[0].Records, len(b), -1)
	})
}

func TestRowsThatShareTheirBeginning(t *testing.T) {
	row := timed(5, 1, 2, 3, 4)
	for many := range len(row) {
		wantApart(t, row, row[:many], many, 5+many)
		wantApart(t, row, slices.Concat(row[:many], timed(99, 0)), many, 5+many)
		wantApart(t, row, slices.Concat(row[:many], timed(2, 0)), many, 2)
		wantApart(t, row, slices.Concat(row[:many], timed(0, 0), row[many:]), many, 0)
	}
	wantApart(t, row, slices.Clone(row), 4, -1)
	wantApart(t, row, slices.Concat(row, timed(0, 0)), 4, 0)
	wantApart(t, row, slices.Concat(row, timed(99999, 0)), 4, 99999)
	wantApart(t, nil, nil, 0, -1)
	wantApart(t, nil, []impl.Record{}, 0, -1)
	wantApart(t, nil, timed(0, 0), 0, 0)
	wantApart(t, nil, timed(99999, 0), 0, 99999)
	wantApart(t, timed(7, 1, 5), timed(7, 2, 5), 0, 7)
	wantApart(t, timed(7, 1), timed(8, 1), 0, 7)
	// Later offsets do not count, even if they are less.
	wantApart(t, []impl.Record{{Offset: 9}, {Offset: 1}}, []impl.Record{{Offset: 8}, {Offset: 0}}, 0, 8)
	wantApart(t, []impl.Record{{Offset: 9}, {Offset: 1}}, []impl.Record{{Offset: 9}, {Offset: 2}, {Offset: 0}}, 1, 1)
}

func TestRowsThatDifferInOneField(t *testing.T) {
	for _, r := range []impl.Record{keyed(5, nil, nil), keyed(5, emptyPart, emptyPart), keyed(5, part1, part2), keyed(5, []int{0}, []int{0, 0}), keyed(5, twelve, twelve), keyed(5, emptyPart, nil), keyed(5, nil, emptyPart)} {
		for _, e := range changes {
			other := r
			e.change(&other)
			t.Run(e.why, func(t *testing.T) {
				apart := min(other.Offset, 5)
				wantApart(t, []impl.Record{r}, []impl.Record{other}, 0, apart)
				wantApart(t, append(timed(1, 3, 2), r), append(timed(1, 3, 2), other), 2, apart)
				wantApart(t, append(timed(1, 3, 2), r, keyed(0, nil, nil)), append(timed(1, 3, 2), other, keyed(0, nil, nil)), 2, apart)
			})
		}
	}
	wantApart(t, []impl.Record{keyed(5, emptyPart, nil)}, []impl.Record{keyed(5, nil, emptyPart)}, 0, 5)
	wantApart(t, []impl.Record{keyed(5, part1, part2)}, []impl.Record{keyed(5, part2, part1)}, 0, 5)
	wantApart(t, []impl.Record{keyed(5, part1, []int{2, 3})}, []impl.Record{keyed(5, []int{1, 2}, []int{3})}, 0, 5)
	wantApart(t, []impl.Record{keyed(5, []int{1, 2}, nil)}, []impl.Record{keyed(5, []int{12}, nil)}, 0, 5)
	wantApart(t, []impl.Record{{Offset: 1, Time: 23}}, []impl.Record{{Offset: 12, Time: 3}}, 0, 1)
	// A missing part has no bytes, be they nil or not.
	wantApart(t, []impl.Record{{Offset: 5, Key: []int{}, HasValue: true}}, []impl.Record{{Offset: 5, HasValue: true, Value: []int{}}}, 1, -1)
}

func TestAsManyRecordsAsThereMayBe(t *testing.T) {
	random := rand.New(rand.NewPCG(42, 30))
	for range 20 {
		full, other := randomRow(random, 30), randomRow(random, 30)
		for many := range 31 {
			wantMerge(t, full[:many], other[:30-many], mergePlainly(full[:many], other[:30-many]))
			if many > 0 {
				wantNotMerged(t, full[:many], other[:31-many])
				wantNotMerged(t, full[:30], other[:many])
				wantNotMerged(t, full[:many], other[:30])
			}
		}
		wantApart(t, full, other, commonPlainly(full, other), apartPlainly(full, other))
		wantApart(t, full, full[:29], 29, full[29].Offset)
		for _, many := range []int{31, 32, 60, 300} {
			long := slices.Repeat(full, 10)[:many]
			for _, row := range [][]impl.Record{nil, full[:1], full, long} {
				wantInvalidRow(t, long, row)
			}
		}
	}
}

func TestRowsWithInvalidRecords(t *testing.T) {
	row := timed(1, 3, 2, 5)
	for _, bad := range invalidRecords() {
		for place := range len(row) + 1 {
			// Also behind the place where the rows part, and behind the end of the other one.
			invalid := slices.Insert(slices.Clone(row), place, bad)
			for _, other := range [][]impl.Record{nil, row[:1], row, timed(50, 1), invalid} {
				wantInvalidRow(t, invalid, other)
			}
		}
	}
}

// The same again and again, also from many goroutines that share the arguments; and none of the calls leaves one behind.
func TestMergingInAnyOrder(t *testing.T) {
	before := runtime.NumGoroutine()
	random := rand.New(rand.NewPCG(42, 42))
	a, b := randomRow(random, 15), randomRow(random, 15)
	want := mergePlainly(a, b)
	var all sync.WaitGroup
	for range 20 {
		all.Go(func() {
			for range 20 {
				wantMerge(t, a, b, want)
				wantApart(t, a, b, commonPlainly(a, b), apartPlainly(a, b))
				wantNotMerged(t, want, a)
			}
		})
	}
	all.Wait()
	for range 1000 {
		wantApart(t, a, b, commonPlainly(a, b), apartPlainly(a, b))
	}
	// The goroutines of this test may still be about to end.
	for tries := 0; runtime.NumGoroutine() > before && tries < 1000000; tries++ {
		runtime.Gosched()
	}
	if after := runtime.NumGoroutine(); after > before {
		t.Errorf("there are %d goroutines, and there were %d", after, before)
	}
}

func TestMergingSharesNoMemory(t *testing.T) {
	wantNoSharing(t, "RecordsMerge", func(list []impl.Batch) []impl.Batch {
		records, _ := impl.RecordsMerge(list[0].Records, list[1].Records)
		return []impl.Batch{{Records: records}}
	})
	wantNoSharing(t, "RecordsMerge of the same row", func(list []impl.Batch) []impl.Batch {
		records, _ := impl.RecordsMerge(list[0].Records, list[0].Records)
		return []impl.Batch{{Records: records}}
	})
	wantNoSharing(t, "RecordsMerge of a row and none", func(list []impl.Batch) []impl.Batch {
		impl.RecordsApart(list[0].Records, list[1].Records)
		impl.RecordsCommon(list[0].Records, list[0].Records)
		first, _ := impl.RecordsMerge(list[0].Records, nil)
		second, _ := impl.RecordsMerge(nil, list[0].Records)
		return []impl.Batch{{Records: first}, {Records: second}}
	})
}
