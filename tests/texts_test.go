package tests

import (
	"fmt"
	"math/rand/v2"
	"regexp"
	"slices"
	"strconv"
	"strings"
	"testing"

	"loop.example/recordbatches/impl"
)

// linesOfRecords are records and their lines, worked out by hand from the document.
var linesOfRecords = []struct {
	record impl.Record
	line   string
}{
	{impl.Record{}, "0 0 - -"},
	{impl.Record{HasKey: true}, "0 0 x -"},
	{impl.Record{HasValue: true}, "0 0 - x"},
	{impl.Record{HasKey: true, HasValue: true}, "0 0 x x"},
	{impl.Record{HasKey: true, Key: []int{}, HasValue: true, Value: []int{}}, "0 0 x x"},
	{impl.Record{Key: []int{}, Value: []int{}}, "0 0 - -"},
	{impl.Record{Offset: 0, Time: 10, HasValue: true, Value: []int{7}}, "0 10 - x07"},
	{impl.Record{Offset: 9, Time: 1, HasKey: true, Key: []int{0}}, "9 1 x00 -"},
	{impl.Record{Offset: 10, Time: 99, HasKey: true, Key: []int{10}, HasValue: true, Value: []int{160}}, "10 99 x0a xa0"},
	{impl.Record{Offset: 123, Time: 999, HasKey: true, Key: []int{255, 0}}, "123 999 xff00 -"},
	{impl.Record{Offset: 1000, Time: 9999, HasValue: true, Value: []int{1, 35, 69, 103, 137, 171, 205, 239}}, "1000 9999 - x0123456789abcdef"},
	{impl.Record{Offset: 10000, Time: 10001}, "10000 10001 - -"},
	{impl.Record{Offset: 99999, Time: 99999, HasKey: true}, "99999 99999 x -"},
	{impl.Record{Offset: 0, Time: 99999, HasKey: true, Key: twelve}, "0 99999 x0102030405060708090a0b0c -"},
	{impl.Record{Offset: 99999, Time: 0, HasValue: true, Value: twelve}, "99999 0 - x0102030405060708090a0b0c"},
	{impl.Record{Offset: 99999, Time: 99999, HasKey: true, Key: slices.Repeat([]int{255}, 12), HasValue: true, Value: slices.Repeat([]int{0}, 12)},
		"99999 99999 xffffffffffffffffffffffff x000000000000000000000000"},
}

// noLines are lines of no record, each for one reason.
var noLines = []struct{ why, line string }{
	{"nothing", ""},
	{"a blank", " "},
	{"three blanks", "   "},
	{"one word", "0"},
	{"two words", "0 0"},
	{"three words", "0 0 -"},
	{"five words", "0 0 - - -"},
	{"no blank", "00--"},
	{"a blank at the beginning", " 0 0 - -"},
	{"a blank at the end", "0 0 - - "},
	{"two blanks behind the offset", "0  0 - -"},
	{"two blanks behind the time", "0 0  - -"},
	{"two blanks behind the key", "0 0 -  -"},
	{"no blank between the numbers", "00 - -"},
	{"no blank behind the time", "0 0- -"},
	{"no blank behind the key", "0 0 --"},
	{"an empty offset", " 0 - -"},
	{"an empty time", "0  - -"},
	{"an empty key", "0 0  -"},
	{"an empty value", "0 0 - "},
	{"a newline at the end", "0 0 - -\n"},
	{"a newline at the beginning", "\n0 0 - -"},
	{"a newline instead of a blank", "0\n0 - -"},
	{"a newline in a word", "0 0 x\n -"},
	{"a tab instead of a blank", "0 0\t- -"},
	{"a return at the end", "0 0 - -\r"},
	{"a zero ahead of the offset", "00 0 - -"},
	{"a zero ahead of an offset", "01 0 - -"},
	{"a zero ahead of the time", "0 00 - -"},
	{"a zero ahead of a time", "0 05 - -"},
	{"zeros ahead, with five digits", "00001 0 - -"},
	{"a plus", "+1 0 - -"},
	{"a plus ahead of the time", "1 +0 - -"},
	{"a minus", "-1 0 - -"},
	{"a minus ahead of zero", "-0 0 - -"},
	{"a minus ahead of the time", "0 -1 - -"},
	{"a hyphen as the offset", "- 0 - -"},
	{"a hyphen as the time", "0 - - -"},
	{"an offset out of range", "100000 0 - -"},
	{"a time out of range", "0 100000 - -"},
	{"six digits", "123456 0 - -"},
	{"six digits with a zero ahead", "012345 0 - -"},
	{"an offset that is too great for an int", "99999999999999999999999 0 - -"},
	{"a time that would be 0 if it wrapped", "0 18446744073709551616 - -"},
	{"a fraction", "1.0 0 - -"},
	{"a power", "1e3 0 - -"},
	{"a number of base 16", "0x1 0 - -"},
	{"a digit of base 16", "a 0 - -"},
	{"an underscore", "1_0 0 - -"},
	{"an x alone instead of a number", "x 0 - -"},
	{"one digit of a key", "0 0 x0 -"},
	{"one digit of a value", "0 0 - x7"},
	{"three digits", "0 0 x070 -"},
	{"23 digits", "0 0 - x" + strings.Repeat("0", 23)},
	{"25 digits", "0 0 - x" + strings.Repeat("0", 25)},
	{"a key of 13 bytes", "0 0 x" + strings.Repeat("01", 13) + " -"},
	{"a value of 13 bytes", "0 0 - x" + strings.Repeat("01", 13)},
	{"a key of 300 bytes", "0 0 x" + strings.Repeat("01", 300) + " -"},
	{"a great letter", "0 0 xA0 -"},
	{"a great letter behind", "0 0 - x0F"},
	{"a letter behind f", "0 0 xg0 -"},
	{"a letter behind f in a value", "0 0 - x0g"},
	{"a byte between digits and letters", "0 0 x:0 -"},
	{"a byte ahead of letters", "0 0 x0` -"},
	{"a byte ahead of digits", "0 0 x0/ -"},
	{"a sign among the digits", "0 0 x+1 -"},
	{"no x", "0 0 07 -"},
	{"no x, of a value", "0 0 - 07"},
	{"a great X", "0 0 X07 -"},
	{"an X alone", "0 0 - X"},
	{"two xs", "0 0 xx -"},
	{"an x ahead of two digits and an x", "0 0 xx07 -"},
	{"two hyphens", "0 0 -- -"},
	{"a hyphen behind an x", "0 0 x- -"},
	{"a hyphen ahead of an x", "0 0 -x -"},
	{"a hyphen and digits", "0 0 - -07"},
	{"bytes that are no letters", "0 0 x\xff\xfe -"},
	{"a byte 0", "0 0 - -\x00"},
	{"a dash that is no hyphen", "0 0 – -"},
	{"digits that are none of ASCII", "٠ 0 - -"},
	{"a blank that is none of ASCII", "0 0 -\u00a0-"},
	{"two lines", "0 0 - -\n1 0 - -"},
	{"a long text", strings.Repeat("0 ", 5000)},
}

// aLine is the form of all lines of records.
var aLine = regexp.MustCompile(`\A(0|[1-9][0-9]{0,4}) (0|[1-9][0-9]{0,4}) (-|x([0-9a-f][0-9a-f]){0,12}) (-|x([0-9a-f][0-9a-f]){0,12})\z`)

// partPlainly is a key or a value as the document tells it.
func partPlainly(has bool, part []int) string {
	if !has {
		return "-"
	}
	text := "x"
	for _, b := range part {
		text += fmt.Sprintf("%02x", b)
	}
	return text
}

// linePlainly is the line of a record as the document tells it.
func linePlainly(r impl.Record) string {
	return fmt.Sprintf("%d %d %s %s", r.Offset, r.Time, partPlainly(r.HasKey, r.Key), partPlainly(r.HasValue, r.Value))
}

// textPlainly are the lines of batches as the document tells it.
func textPlainly(list []impl.Batch) string {
	text := ""
	for _, r := range allRecords(list, true) {
		text += linePlainly(r) + "\n"
	}
	return text
}

// linedRecords are the records worked out by hand, with numbers of each number of digits, with each byte, and many others.
func linedRecords() []impl.Record {
	result := []impl.Record{}
	for _, e := range linesOfRecords {
		result = append(result, e.record)
	}
	for _, n := range []int{0, 1, 9, 10, 11, 99, 100, 101, 999, 1000, 1001, 9999, 10000, 10001, 99998, 99999} {
		result = append(result, impl.Record{Offset: n}, impl.Record{Time: n}, impl.Record{Offset: n, Time: 99999 - n, HasValue: true})
	}
	for b := range 256 {
		result = append(result, keyed(b, []int{b}, nil), keyed(b, nil, []int{b}), keyed(b, []int{0, b}, []int{b, 255}))
	}
	random := rand.New(rand.NewPCG(41, 157))
	for range 1000 {
		r := randomRecord(random)
		r.Offset /= []int{1, 10, 100, 1000, 10000}[random.IntN(5)]
		r.Time /= []int{1, 10, 100, 1000, 10000}[random.IntN(5)]
		result = append(result, r)
	}
	return result
}

// wantLine checks the line of a record, and that it is read again.
func wantLine(t *testing.T, r impl.Record, line string) {
	t.Helper()
	if got := impl.RecordText(r); got != line {
		t.Errorf("RecordText(%v) = %q, want %q", r, got, line)
	}
	if got, ok := impl.RecordOf(line); !ok || !sameRecord(got, r) {
		t.Errorf("RecordOf(%q) = %v, %v, want %v, true", line, got, ok, r)
	}
}

// wantNoLine checks that RecordOf fails with zero values.
func wantNoLine(t *testing.T, line string) {
	t.Helper()
	if got, ok := impl.RecordOf(line); ok || !sameRecord(got, impl.Record{}) {
		t.Errorf("RecordOf(%q) = %v, %v, want none, false", line, got, ok)
	}
}

// wantText checks what LogText returns.
func wantText(t *testing.T, list []impl.Batch, want string) {
	t.Helper()
	if got := impl.LogText(list); got != want {
		t.Errorf("LogText(%v) = %q, want %q", list, got, want)
	}
}

func TestLinesOfRecords(t *testing.T) {
	for _, e := range linesOfRecords {
		wantLine(t, e.record, e.line)
	}
}

func TestLinesOfNoRecords(t *testing.T) {
	for _, e := range noLines {
		t.Run(e.why, func(t *testing.T) { wantNoLine(t, e.line) })
	}
}

// Promise 157.
func TestLineIsReadAgain(t *testing.T) {
	for _, r := range linedRecords() {
		wantLine(t, r, linePlainly(r))
	}
}

// Promise 158.
func TestRecordOfALineHasThisLine(t *testing.T) {
	read, failed := 0, 0
	changedLines(func(line string) {
		if !aLine.MatchString(line) {
			failed++
			wantNoLine(t, line)
			return
		}
		read++
		r, ok := impl.RecordOf(line)
		if !ok || !impl.RecordValid(r) || linePlainly(r) != line || impl.RecordText(r) != line {
			t.Errorf("RecordOf(%q) = %v, %v, with the line %q", line, r, ok, impl.RecordText(r))
		}
	})
	if read < 1000 || failed < 10000 {
		t.Errorf("%d lines were read, and %d were not", read, failed)
	}
}

// changedLines calls a function with lines of which a byte is another one, missing or further, and with such ones of two changes.
func changedLines(do func(line string)) {
	letters := " 019afgAx-+\n\xff"
	random := rand.New(rand.NewPCG(41, 158))
	for _, e := range linesOfRecords {
		for i := range len(e.line) + 1 {
			for k := range len(letters) {
				do(e.line[:i] + letters[k:k+1] + e.line[i:])
				if i < len(e.line) {
					do(e.line[:i] + letters[k:k+1] + e.line[i+1:])
				}
			}
			do(e.line[:i])
			do(e.line[i:])
			do(e.line[:i] + e.line[min(i+1, len(e.line)):])
		}
		for range 1000 {
			line := e.line
			for range 2 {
				i, k := random.IntN(len(line)), random.IntN(len(letters))
				line = line[:i] + letters[k:k+1] + line[i+random.IntN(2):]
			}
			do(line)
		}
	}
}

// Promise 159.
func TestFurtherBlanksAndZeros(t *testing.T) {
	for _, r := range linedRecords() {
		line := impl.RecordText(r)
		for _, other := range []string{line + " ", " " + line, "0" + line, "  " + line, "00" + line, line + "  ", " 0" + line, line + "\n", line + line, line + "\n" + line} {
			wantNoLine(t, other)
		}
	}
}

// Promise 160.
func TestLineEndsWithAHyphenWithoutAValue(t *testing.T) {
	for _, r := range linedRecords() {
		if line := impl.RecordText(r); strings.HasSuffix(line, "-") == r.HasValue {
			t.Errorf("RecordText(%v) = %q", r, line)
		}
	}
}

// Promise 161.
func TestTextOfBatchesHasALineForEachRecord(t *testing.T) {
	for _, list := range append(keyLogs(), gaps()) {
		text := impl.LogText(list)
		if lines := strings.Count(text, "\n"); lines != len(allRecords(list, true)) {
			t.Errorf("LogText(%v) = %q, with %d lines", list, text, lines)
		}
		for many := range len(list) + 1 {
			if first, others := impl.LogText(list[:many]), impl.LogText(list[many:]); first+others != text {
				t.Errorf("LogText of %d batches is %q, and that of the others %q, but that of %v %q", many, first, others, list, text)
			}
		}
	}
}

// Promise 162.
func TestTextOfBatchesIsThatOfTheRecords(t *testing.T) {
	for _, list := range append(keyLogs(), gaps()) {
		text := ""
		for _, r := range allRecords(list, true) {
			text += impl.RecordText(r) + "\n"
		}
		wantText(t, list, text)
		wantText(t, list, textPlainly(list))
	}
}

func TestTextsOfBatchesAtTheEdges(t *testing.T) {
	wantText(t, nil, "")
	wantText(t, []impl.Batch{}, "")
	wantText(t, []impl.Batch{markAt(3, 7)}, "3 7 - x01\n")
	wantText(t, []impl.Batch{freeOf(keyed(0, emptyPart, nil), keyed(99999, nil, emptyPart))}, "0 0 x -\n99999 0 - x\n")
	wantText(t, gaps(), "5 0 - -\n8 0 - -\n9 0 - -\n10 0 - -\n14 0 - -\n20 7 - x01\n21 0 - -\n30 0 - -\n")
	lines := ""
	for i := range 8 {
		lines += strconv.Itoa(i) + " 0 - -\n"
	}
	wantText(t, edgeLogs()[2], lines)
}

func TestInvalidRecordsHaveNoLines(t *testing.T) {
	for _, r := range invalidRecords() {
		if got := impl.RecordText(r); got != "" {
			t.Errorf("RecordText(%v) = %q, want none", r, got)
		}
	}
}

func TestInvalidBatchesHaveNoText(t *testing.T) {
	for _, list := range invalidLogs() {
		wantText(t, list, "")
	}
}

func TestTextsShareNoMemory(t *testing.T) {
	line := "5 6 x0102 x030405"
	first, _ := impl.RecordOf(line)
	second, _ := impl.RecordOf(line)
	overwriteAll(first.Key, 77)
	if !slices.Equal(first.Value, []int{3, 4, 5}) {
		t.Errorf("the value was changed to %v by the key", first.Value)
	}
	overwriteAll(first.Value, 77)
	wantLine(t, second, line)
	list := sharedLog()
	before := deepCopy(list[:cap(list)])
	impl.LogText(list)
	impl.RecordText(list[0].Records[0])
	if !sameBatches(list[:cap(list)], before) {
		t.Errorf("%v was changed to %v", before, list)
	}
}
