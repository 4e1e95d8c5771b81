package tests

import (
	"math"
	"slices"
	"testing"

	"loop.example/recordbatches/impl"
)

// at is a batch without a producer, with a record for each time, from an offset on.
func at(offset int, times ...int) impl.Batch {
	b := free(offset, len(times))
	for i, time := range times {
		b.Records[i].Time = time
	}
	return b
}

// timedLogs are segments, and the greatest times up to each batch, worked out by hand from the document.
var timedLogs = []struct {
	why   string
	list  []impl.Batch
	times []int
}{
	{"no batches", nil, nil},
	{"the time 0", []impl.Batch{at(5, 0)}, []int{0}},
	{"the greatest time", []impl.Batch{at(5, 99999), at(6, 0)}, []int{99999, 99999}},
	{"ascending", []impl.Batch{at(0, 1, 2), at(2, 3, 4), at(9, 5)}, []int{2, 4, 5}},
	{"equal", []impl.Batch{at(0, 7, 7), at(2, 7), at(3, 7, 7, 7)}, []int{7, 7, 7}},
	{"back within a batch", []impl.Batch{at(0, 5, 9, 2), at(3, 8, 6, 10, 1)}, []int{9, 10}},
	{"back between batches", []impl.Batch{at(0, 5, 9), at(2, 3, 8), at(4, 9), at(5, 10), at(6, 0)}, []int{9, 9, 9, 10, 10}},
	{"marks", []impl.Batch{at(0, 5), markAt(1, 8), at(2, 7), markAt(3, 0)}, []int{5, 8, 8, 8}},
	{"eight batches that go back", []impl.Batch{at(0, 80), at(1, 70), at(2, 60), at(3, 50), at(4, 40), at(5, 30), at(6, 20), at(7, 10)}, slices.Repeat([]int{80}, 8)},
	{"eight batches", []impl.Batch{at(0, 0), at(1, 1), at(2, 2), at(3, 3), at(4, 4), at(5, 5), at(6, 6), at(7, 7)}, upTo(0, 8)},
}

// timesLogs are the segments above, and many others.
func timesLogs() [][]impl.Batch {
	result := someLogs()
	for _, e := range timedLogs {
		result = append(result, e.list)
	}
	return result
}

// allRecords are the records of batches, in order; marks' records, too, if they are wanted.
func allRecords(list []impl.Batch, marks bool) []impl.Record {
	result := []impl.Record{}
	for _, b := range list {
		if marks || !b.Mark {
			result = append(result, b.Records...)
		}
	}
	return result
}

// someTimes are times of records, one less and one more, the edges, and times that are out of range.
func someTimes(list []impl.Batch) []int {
	result := []int{math.MinInt, -1, 0, 1, 50000, 99998, 99999, 100000, math.MaxInt}
	for _, r := range allRecords(list, true) {
		result = append(result, r.Time-1, r.Time, r.Time+1)
	}
	return result
}

// findTimePlainly returns the offset of the first record that is not earlier than a time, or -1.
func findTimePlainly(list []impl.Batch, time int) int {
	for _, r := range allRecords(list, true) {
		if r.Time >= time {
			return r.Offset
		}
	}
	return -1
}

// countPlainly returns how many records are from a time on and ahead of another one.
func countPlainly(list []impl.Batch, from, to int) int {
	count := 0
	for _, r := range allRecords(list, true) {
		if from <= r.Time && r.Time < to {
			count++
		}
	}
	return count
}

// wantCount checks what TimesCount returns.
func wantCount(t *testing.T, list []impl.Batch, from, to, count int) {
	t.Helper()
	if got := impl.TimesCount(list, from, to); got != count {
		t.Errorf("TimesCount(%v, %d, %d) = %d, want %d", list, from, to, got, count)
	}
}

func TestTimesAtTheEdges(t *testing.T) {
	for _, e := range timedLogs {
		if got := impl.TimesOf(e.list); !slices.Equal(got, e.times) {
			t.Errorf("%s: TimesOf(%v) = %v, want %v", e.why, e.list, got, e.times)
		}
	}
}

// Promise 72.
func TestTimesAreTheGreatestOnes(t *testing.T) {
	for _, list := range timesLogs() {
		got := impl.TimesOf(list)
		if len(got) != len(list) {
			t.Fatalf("TimesOf(%v) = %v", list, got)
		}
		for i, time := range got {
			greatest := 0
			for _, r := range allRecords(list[:i+1], true) {
				greatest = max(greatest, r.Time)
			}
			if time != greatest || i > 0 && time < got[i-1] {
				t.Errorf("TimesOf(%v) = %v, want %d at %d", list, got, greatest, i)
			}
		}
	}
}

// Promise 73.
func TestFoundRecordIsTheFirstOneOfATime(t *testing.T) {
	for _, list := range timesLogs() {
		for _, time := range someTimes(list) {
			if got, want := impl.TimesFind(list, time), findTimePlainly(list, time); got != want {
				t.Errorf("TimesFind(%v, %d) = %d, want %d", list, time, got, want)
			}
		}
	}
}

// Promise 74.
func TestNoRecordIsFoundBehindTheGreatestTime(t *testing.T) {
	for _, list := range timesLogs() {
		times := impl.TimesOf(list)
		for _, time := range someTimes(list) {
			none := len(list) == 0 || time > times[len(times)-1]
			if got := impl.TimesFind(list, time); (got == -1) != none || got < -1 {
				t.Errorf("TimesFind(%v, %d) = %d, but the times are %v", list, time, got, times)
			}
		}
	}
}

// Promise 75.
func TestLaterTimeIsNotFoundEarlier(t *testing.T) {
	for _, list := range timesLogs() {
		for _, time := range someTimes(list) {
			if time == math.MaxInt {
				continue
			}
			if got, next := impl.TimesFind(list, time), impl.TimesFind(list, time+1); next != -1 && (got == -1 || next < got) {
				t.Errorf("TimesFind(%v, %d) = %d, but %d for the next time", list, time, got, next)
			}
		}
	}
}

// Promise 76, and times the other way round.
func TestCountIsThatOfItsParts(t *testing.T) {
	for i, list := range timesLogs() {
		times := someTimes(list)
		for k, from := range times {
			to := times[(k*7+i)%len(times)]
			wantCount(t, list, from, to, countPlainly(list, from, to))
			wantCount(t, list, from, from, 0)
			between := times[(k*3+i)%len(times)]
			if from <= between && between <= to {
				if a, b, all := impl.TimesCount(list, from, between), impl.TimesCount(list, between, to), impl.TimesCount(list, from, to); a+b != all {
					t.Errorf("TimesCount(%v) = %d from %d to %d, but %d and %d of the parts at %d", list, all, from, to, a, b, between)
				}
			}
			if to < from {
				wantCount(t, list, from, to, 0)
			}
		}
	}
}

// Promise 77.
func TestCountOfAllTimes(t *testing.T) {
	for _, list := range timesLogs() {
		all := len(allRecords(list, true))
		wantCount(t, list, 0, 100000, all)
		wantCount(t, list, math.MinInt, math.MaxInt, all)
		wantCount(t, list, math.MaxInt, math.MinInt, 0)
		wantCount(t, list, 100000, math.MaxInt, 0)
		wantCount(t, list, math.MinInt, 0, 0)
	}
}

// Promise 78.
func TestTimesOfTheFirstBatches(t *testing.T) {
	for _, list := range timesLogs() {
		all := impl.TimesOf(list)
		for i := range list {
			if got := impl.TimesOf(list[:i]); !slices.Equal(got, all[:i]) {
				t.Errorf("TimesOf(%v) = %v, but %v with the others", list[:i], got, all)
			}
		}
	}
}

func TestTimesOfInvalidBatches(t *testing.T) {
	for _, list := range invalidLogs() {
		if got := impl.TimesOf(list); len(got) != 0 {
			t.Errorf("TimesOf(%v) = %v, want none", list, got)
		}
		for _, time := range []int{math.MinInt, -1, 0, 99999, math.MaxInt} {
			if got := impl.TimesFind(list, time); got != -1 {
				t.Errorf("TimesFind(%v, %d) = %d, want -1", list, time, got)
			}
			wantCount(t, list, 0, time, -1)
			wantCount(t, list, time, 0, -1)
		}
	}
}

func TestTimesShareNoMemory(t *testing.T) {
	list := sharedLog()
	before := deepCopy(list[:cap(list)])
	first, second := impl.TimesOf(list), impl.TimesOf(list)
	want := slices.Clone(second)
	for i := range first[:cap(first)] {
		first[:cap(first)][i] = 77
	}
	impl.TimesFind(list, 2)
	impl.TimesCount(list, 1, 3)
	if !sameBatches(list[:cap(list)], before) || !slices.Equal(second, want) {
		t.Errorf("the batches became %v, and the times %v", list, second)
	}
}
