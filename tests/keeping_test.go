package tests

import (
	"math"
	"testing"

	"loop.example/recordbatches/impl"
)

// sizePlainly returns how many bytes batches have together.
func sizePlainly(t *testing.T, list []impl.Batch) int {
	t.Helper()
	size := 0
	for _, b := range list {
		size += len(mustBatchBytes(t, b))
	}
	return size
}

// keepSizePlainly returns the first batch that is kept, from the last one back, as the document tells it.
func keepSizePlainly(t *testing.T, list []impl.Batch, most int) int {
	t.Helper()
	kept := max(len(list)-1, 0)
	for kept > 0 && sizePlainly(t, list[kept-1:]) <= most {
		kept--
	}
	return kept
}

// keepTimePlainly returns the first batch that has a record that is not earlier, or the last one.
func keepTimePlainly(list []impl.Batch, time int) int {
	for i, b := range list {
		for _, r := range b.Records {
			if r.Time >= time {
				return i
			}
		}
	}
	return max(len(list)-1, 0)
}

// wantSize checks what LogSize returns.
func wantSize(t *testing.T, list []impl.Batch, want int) {
	t.Helper()
	if got := impl.LogSize(list); got != want {
		t.Errorf("LogSize(%v) = %d, want %d", list, got, want)
	}
}

// wantKeepSize checks what KeepSize returns.
func wantKeepSize(t *testing.T, list []impl.Batch, most, want int) {
	t.Helper()
	if got := impl.KeepSize(list, most); got != want {
		t.Errorf("KeepSize(%v, %d) = %d, want %d", list, most, got, want)
	}
}

// wantKeepTime checks what KeepTime returns.
func wantKeepTime(t *testing.T, list []impl.Batch, time, want int) {
	t.Helper()
	if got := impl.KeepTime(list, time); got != want {
		t.Errorf("KeepTime(%v, %d) = %d, want %d", list, time, got, want)
	}
}

// Promise 150.
func TestSizeIsThatOfTheBytes(t *testing.T) {
	for _, list := range timesLogs() {
		want := len(mustLogBytes(t, list))
		wantSize(t, list, want)
		for many := range len(list) + 1 {
			if first, others := impl.LogSize(list[:many]), impl.LogSize(list[many:]); first+others != want {
				t.Errorf("LogSize of %d batches is %d, and that of the others %d, but that of %v %d", many, first, others, list, want)
			}
		}
	}
}

// The four batches have 33, 28, 24 and 29 bytes.
func TestSizesAtTheEdges(t *testing.T) {
	wantSize(t, nil, 0)
	wantSize(t, []impl.Batch{}, 0)
	wantSize(t, gaps(), 114)
	for i, size := range []int{33, 28, 24, 29} {
		wantSize(t, gaps()[i:i+1], size)
	}
	for _, e := range batches {
		wantSize(t, []impl.Batch{e.batch}, len(e.bytes))
	}
	wantSize(t, []impl.Batch{free(0, 1), free(1, 6)}, 71)
	wantSize(t, edgeLogs()[0], len(mustLogBytes(t, edgeLogs()[0])))
}

func TestKeptBatchesHaveRoom(t *testing.T) {
	list := gaps()
	for _, e := range [][2]int{
		{0, 3}, {1, 3}, {28, 3}, {29, 3}, {30, 3}, {52, 3}, {53, 2}, {54, 2}, {80, 2}, {81, 1}, {82, 1}, {113, 1}, {114, 0}, {115, 0}, {99998, 0}, {99999, 0},
	} {
		wantKeepSize(t, list, e[0], e[1])
	}
	for _, most := range []int{0, 1, 32, 33, 34, 99999} {
		wantKeepSize(t, list[:1], most, 0)
		wantKeepSize(t, nil, most, 0)
		wantKeepSize(t, []impl.Batch{}, most, 0)
	}
	// The smaller ones ahead of one that is too large go, too.
	large := []impl.Batch{free(0, 1), free(1, 6), free(7, 1)}
	wantKeepSize(t, large, 22, 2)
	wantKeepSize(t, large, 23, 2)
	wantKeepSize(t, large, 46, 2)
	wantKeepSize(t, large, 70, 2)
	wantKeepSize(t, large, 71, 1)
	wantKeepSize(t, large, 93, 1)
	wantKeepSize(t, large, 94, 0)
	wantKeepSize(t, large[:2], 47, 1)
}

// Promise 151.
func TestKeptBatchesAreAsManyAsHaveRoom(t *testing.T) {
	for _, list := range timesLogs() {
		for _, most := range someMosts(t, list) {
			want := keepSizePlainly(t, list, most)
			wantKeepSize(t, list, most, want)
			if len(list) == 0 {
				continue
			}
			if size := sizePlainly(t, list[want:]); size > most && want != len(list)-1 {
				t.Errorf("KeepSize(%v, %d) = %d, from where on there are %d bytes", list, most, want, size)
			}
			if want > 0 && sizePlainly(t, list[want-1:]) <= most {
				t.Errorf("KeepSize(%v, %d) = %d, but one more has room", list, most, want)
			}
		}
	}
}

// Promise 152.
func TestMoreRoomKeepsMore(t *testing.T) {
	small := [][]impl.Batch{nil, gaps(), edgeLogs()[2], timedLogs[6].list}
	for _, list := range small {
		for most := range sizePlainly(t, list) + 3 {
			wantNoGreater(t, list, most)
		}
	}
	for _, list := range timesLogs() {
		for _, most := range someMosts(t, list) {
			if most < 99999 {
				wantNoGreater(t, list, most)
			}
		}
	}
}

// wantNoGreater checks that KeepSize is not greater for one more byte.
func wantNoGreater(t *testing.T, list []impl.Batch, most int) {
	t.Helper()
	less, more := impl.KeepSize(list, most), impl.KeepSize(list, most+1)
	if less < 0 || more < 0 || more > less {
		t.Errorf("KeepSize(%v, %d) = %d, but %d for one more byte", list, most, less, more)
	}
}

func TestKeptBatchesAreNotEarlier(t *testing.T) {
	for _, e := range []struct {
		why    string
		list   []impl.Batch
		wanted [][2]int
	}{
		{"no batches", nil, [][2]int{{math.MinInt, 0}, {-1, 0}, {0, 0}, {99999, 0}, {100000, 0}}},
		{"a batch", []impl.Batch{at(4, 7)}, [][2]int{{0, 0}, {7, 0}, {8, 0}, {99999, 0}}},
		{"ascending", []impl.Batch{at(0, 1, 2), at(2, 3, 4), at(9, 5)}, [][2]int{{0, 0}, {1, 0}, {2, 0}, {3, 1}, {4, 1}, {5, 2}, {6, 2}, {100000, 2}}},
		{"equal", []impl.Batch{at(0, 7, 7), at(2, 7), at(3, 7)}, [][2]int{{6, 0}, {7, 0}, {8, 2}}},
		{"back within a batch", []impl.Batch{at(0, 5, 9, 2), at(3, 8, 6, 10, 1)}, [][2]int{{2, 0}, {9, 0}, {10, 1}, {11, 1}}},
		{"back between batches", []impl.Batch{at(0, 5, 9), at(2, 3, 8), at(4, 9), at(5, 10), at(6, 0)}, [][2]int{{9, 0}, {10, 3}, {11, 4}, {0, 0}}},
		{"the first record of a batch", []impl.Batch{at(0, 1), at(1, 9, 2, 3), at(4, 1)}, [][2]int{{1, 0}, {2, 1}, {9, 1}, {10, 2}}},
		{"the last record of a batch", []impl.Batch{at(0, 1), at(1, 2, 3, 9), at(4, 1)}, [][2]int{{9, 1}, {10, 2}}},
		{"the latest ones go as no later one is behind", []impl.Batch{at(0, 80), at(1, 70), at(2, 60)}, [][2]int{{80, 0}, {81, 2}, {60, 0}}},
		{"a time that only a mark has", []impl.Batch{at(0, 5), markAt(1, 8), at(2, 7), markAt(3, 0)}, [][2]int{{5, 0}, {6, 1}, {8, 1}, {9, 3}}},
		{"a mark as the last one", []impl.Batch{at(0, 5), at(1, 4), markAt(2, 8)}, [][2]int{{5, 0}, {6, 2}, {9, 2}}},
		{"the edges of times", []impl.Batch{at(0, 0), at(1, 99999), at(2, 0)}, [][2]int{{math.MinInt, 0}, {-1, 0}, {0, 0}, {1, 1}, {99999, 1}, {100000, 2}, {math.MaxInt, 2}}},
		{"as many as there may be", []impl.Batch{at(0, 0), at(1, 1), at(2, 2), at(3, 3), at(4, 4), at(5, 5), at(6, 6), at(7, 7)}, [][2]int{{0, 0}, {3, 3}, {7, 7}, {8, 7}}},
	} {
		t.Run(e.why, func(t *testing.T) {
			for _, w := range e.wanted {
				wantKeepTime(t, e.list, w[0], w[1])
			}
		})
	}
}

// Promises 153, 154 and 155.
func TestBatchesThatGoAreEarlier(t *testing.T) {
	for _, list := range timesLogs() {
		for _, time := range someTimes(list) {
			want := keepTimePlainly(list, time)
			wantKeepTime(t, list, time, want)
			if len(list) == 0 {
				continue
			}
			if found := findTimePlainly(list[:want], time); found >= 0 {
				t.Errorf("KeepTime(%v, %d) = %d, but the record of %d is not earlier", list, time, want, found)
			}
			if want < len(list)-1 && findTimePlainly(list[want:want+1], time) < 0 {
				t.Errorf("KeepTime(%v, %d) = %d, but this batch is earlier", list, time, want)
			}
			if found := impl.TimesFind(list, time); found >= 0 && found < list[want].Records[0].Offset {
				t.Errorf("KeepTime(%v, %d) = %d, but TimesFind is %d", list, time, want, found)
			}
		}
	}
}

// Promise 156.
func TestAllBatchesAreKeptOrTheLastOne(t *testing.T) {
	for _, list := range timesLogs() {
		if len(list) > 0 {
			wantKeepSize(t, list, impl.LogSize(list), 0)
			wantKeepSize(t, list, 0, len(list)-1)
		}
	}
}

func TestKeepingOutOfRange(t *testing.T) {
	for _, list := range append(timesLogs(), gaps(), nil) {
		for _, most := range badMosts {
			wantKeepSize(t, list, most, -1)
		}
	}
}

func TestKeepingOfInvalidBatches(t *testing.T) {
	for _, list := range invalidLogs() {
		wantSize(t, list, -1)
		for _, n := range []int{-1, 0, 23, 99999, 100000} {
			wantKeepSize(t, list, n, -1)
			wantKeepTime(t, list, n, -1)
		}
	}
}

func TestKeepingChangesNothing(t *testing.T) {
	for _, list := range [][]impl.Batch{sharedLog(), gaps(), edgeLogs()[1]} {
		before := deepCopy(list[:cap(list)])
		impl.LogSize(list)
		for _, n := range []int{0, 50, 100, 99999} {
			impl.KeepSize(list, n)
			impl.KeepTime(list, n)
		}
		if !sameBatches(list[:cap(list)], before) {
			t.Errorf("%v was changed to %v", before, list)
		}
	}
}
