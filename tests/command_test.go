package tests

import (
	"fmt"
	"math/rand/v2"
	"regexp"
	"strconv"
	"strings"
	"sync"
	"testing"

	"loop.example/recordbatches/impl"
)

// script is a script of complete lines.
func script(lines ...string) string {
	return strings.Join(lines, "\n") + "\n"
}

// puts are so many lines that put a record each, at the times from 0 on.
func puts(many int) []string {
	result := []string{}
	for i := range many {
		result = append(result, fmt.Sprintf("put %c v %d", 'a'+i, i))
	}
	return result
}

// wantOutput checks what Execute returns: lines, each of which ends with a newline.
func wantOutput(t *testing.T, text string, lines ...string) {
	t.Helper()
	if got := impl.Execute(text); got != script(lines...) {
		t.Errorf("Execute(%q) = %q, want %q", text, got, script(lines...))
	}
}

// wantOnly checks that a script of one line prints a line for it, and that it has made no record; and the same behind another one.
func wantOnly(t *testing.T, line, want string) {
	t.Helper()
	wantOutput(t, line+"\n", want, "records 0")
	wantOutput(t, script("put k v 7", line, "show", "size"), "at 0", want, "0 7 x6b x76", "end", "size 26 in 1", "records 1")
}

// aWord and aNumber are the forms of keys and values, and of numbers.
var (
	aWord   = regexp.MustCompile(`\A[a-z]{1,8}\z`)
	aNumber = regexp.MustCompile(`\A(0|[1-9][0-9]{0,4})\z`)
)

// bytesOf are the bytes of a text.
func bytesOf(text string) []int {
	result := []int{}
	for _, b := range []byte(text) {
		result = append(result, int(b))
	}
	return result
}

// putLinePlainly returns batches with the record of a line, what is printed, and whether it is one of these commands.
func putLinePlainly(list []impl.Batch, words []string) ([]impl.Batch, string, bool) {
	isPut, isDel := words[0] == "put" && len(words) == 4, words[0] == "del" && len(words) == 3
	if !isPut && !isDel {
		return list, "", false
	}
	for _, word := range words[1 : len(words)-1] {
		if !aWord.MatchString(word) {
			return list, "no", true
		}
	}
	if !aNumber.MatchString(words[len(words)-1]) || len(list) == 8 {
		return list, "no", true
	}
	r := keyed(impl.ReadEnd(list), bytesOf(words[1]), nil)
	r.Time, _ = strconv.Atoi(words[len(words)-1])
	if isPut {
		r.HasValue, r.Value = true, bytesOf(words[2])
	}
	return append(list[:len(list):len(list)], impl.Batch{Packed: true, Producer: impl.NoProducer, Records: []impl.Record{r}}), "at " + strconv.Itoa(r.Offset), true
}

// commandPlainly runs a line as the document tells it, by the plain functions of the other chapters' tests.
func commandPlainly(t *testing.T, list []impl.Batch, line string) ([]impl.Batch, string) {
	t.Helper()
	words := strings.Split(line, " ")
	if after, answer, ok := putLinePlainly(list, words); ok {
		return after, answer
	}
	switch {
	case line == "compact":
		list = compactPlainly(list, false)
	case line == "even":
		list = evenPlainly(list)
	case words[0] == "cut" && len(words) == 2:
		if !aNumber.MatchString(words[1]) {
			return list, "no"
		}
		offset, _ := strconv.Atoi(words[1])
		list, _ = cutPlainly(list, offset)
	case line == "size":
		return list, fmt.Sprintf("size %d in %d", sizePlainly(t, list), len(list))
	case line == "show":
		return list, textPlainly(list) + "end"
	default:
		return list, "what"
	}
	return list, fmt.Sprintf("left %d", len(allRecords(list, true)))
}

// outputPlainly is the output of a script as the document tells it.
func outputPlainly(t *testing.T, text string) string {
	t.Helper()
	if len(text) > 500 {
		return "too long\n"
	}
	list, output := []impl.Batch{}, ""
	for {
		line, rest, found := strings.Cut(text, "\n")
		if !found {
			return output + fmt.Sprintf("records %d\n", len(allRecords(list, true)))
		}
		var answer string
		list, answer = commandPlainly(t, list, line)
		output, text = output+answer+"\n", rest
	}
}

// randomLine is a line, most of them with a command, and some of these malformed.
func randomLine(random *rand.Rand) string {
	pick := func(words ...string) string { return words[random.IntN(len(words))] }
	key := func() string { return pick("a", "b", "c", "a", "b", "abcdefgh", "abcdefghi", "A", "", "a1") }
	number := func() string { return pick("0", "1", "2", "3", "4", "7", "99999", "100000", "05", "-1", "") }
	switch random.IntN(12) {
	case 0, 1, 2, 3, 4:
		return "put " + key() + " " + pick("v", "w", "vw", key()) + " " + number()
	case 5:
		return "del " + key() + " " + number()
	case 6:
		return "cut " + number()
	case 7:
		return "compact"
	case 8, 9:
		return "even"
	case 10:
		return pick("show", "size", "size")
	}
	return pick("", " ", "put", "put a b", "put a b 1 2", "del a", "del a 1 2", "compact ", "even x", " show", "size 1", "cut", "cut 1 2", "PUT a b 1", "zzz", "\xff", "show\r")
}

// randomScript is a script with lines until there is no room for a further one, or fewer; some have something behind the last newline.
func randomScript(random *rand.Rand) string {
	text := ""
	for range random.IntN(40) {
		line := randomLine(random) + "\n"
		if len(text)+len(line) > 500 {
			break
		}
		text += line
	}
	if random.IntN(4) == 0 && len(text) < 490 {
		text += "put a b 1"
	}
	return text
}

// someScripts are many scripts that are not too long.
func someScripts() []string {
	result := []string{"", "\n", "x", "show", "show\n", "\n\n\n", strings.Repeat("zzz\n", 125), strings.Repeat("\n", 500), strings.Repeat("x", 500), strings.Repeat(" ", 500), strings.Repeat("put a b 1\n", 50)}
	random := rand.New(rand.NewPCG(51, 170))
	for range 2000 {
		result = append(result, randomScript(random))
	}
	return result
}

func TestMaxScript(t *testing.T) {
	if impl.MaxScript != 500 {
		t.Errorf("MaxScript = %d, want 500", impl.MaxScript)
	}
}

// Promise 170.
func TestNoScriptHasNoOutput(t *testing.T) {
	wantOutput(t, "", "records 0")
	for _, text := range someScripts() {
		for _, other := range []string{text, text + "\n", text + text, text + strings.Repeat("\xff\x00", 300)} {
			if impl.Execute(other) == "" {
				t.Errorf("Execute(%q) is empty", other)
			}
		}
	}
}

func TestScripts(t *testing.T) {
	for _, text := range someScripts() {
		if got, want := impl.Execute(text), outputPlainly(t, text); got != want {
			t.Errorf("Execute(%q) = %q, want %q", text, got, want)
		}
	}
}

// Promise 171.
func TestWhatFollowsTheLastNewlineIsIgnored(t *testing.T) {
	for _, text := range someScripts() {
		complete := text[:strings.LastIndex(text, "\n")+1]
		want := impl.Execute(complete)
		for _, rest := range []string{text[len(complete):], "x", "show", "put a b 1", "zzz", " ", "\r", "\x00"} {
			if len(complete)+len(rest) > 500 {
				continue
			}
			if got := impl.Execute(complete + rest); got != want {
				t.Errorf("Execute(%q) = %q, but %q without %q", complete+rest, got, want, rest)
			}
		}
	}
	wantOutput(t, "put a b 5", "records 0")
	wantOutput(t, "put a b 5\nput c d 6", "at 0", "records 1")
	wantOutput(t, "put a b 5\n\nshow", "at 0", "what", "records 1")
}

// Promise 172.
func TestUnknownWordPrintsWhat(t *testing.T) {
	checked := 0
	for _, text := range someScripts() {
		complete := text[:strings.LastIndex(text, "\n")+1]
		if len(complete) > 496 {
			continue
		}
		checked++
		output := impl.Execute(complete)
		last := strings.LastIndex(output[:len(output)-1], "\n") + 1
		if got, want := impl.Execute(complete+"zzz\n"), output[:last]+"what\n"+output[last:]; got != want {
			t.Errorf("Execute(%q) = %q, want %q", complete+"zzz\n", got, want)
		}
	}
	if checked < 1000 {
		t.Errorf("only %d scripts had room", checked)
	}
}

// Promise 173.
func TestTwoRecordsAreShown(t *testing.T) {
	wantOutput(t, script("put a b 5", "del a 7", "show"), "at 0", "at 1", "0 5 x61 x62", "1 7 x61 -", "end", "records 2")
	wantOutput(t, script("del key 7", "put abcdefgh z 0", "show"), "at 0", "at 1", "0 7 x6b6579 -", "1 0 x6162636465666768 x7a", "end", "records 2")
}

// Promise 174.
func TestCompactShowsTheLastValues(t *testing.T) {
	wantOutput(t, script("put a b 1", "put c d 2", "put a e 3", "compact", "show"),
		"at 0", "at 1", "at 2", "left 2", "1 2 x63 x64", "2 3 x61 x65", "end", "records 2")
	wantOutput(t, script("put a b 3", "put a c 2", "put d e 1", "compact", "show", "put a z 9", "compact", "show"),
		"at 0", "at 1", "at 2", "left 2", "1 2 x61 x63", "2 1 x64 x65", "end", "at 3", "left 2", "2 1 x64 x65", "3 9 x61 x7a", "end", "records 2")
}

func TestCompactLeavesOutWhatTellsThatKeysAreGone(t *testing.T) {
	wantOutput(t, script("put a b 1", "put c d 2", "del a 3", "compact", "show", "put e f 4", "show"),
		"at 0", "at 1", "at 2", "left 1", "1 2 x63 x64", "end", "at 2", "1 2 x63 x64", "2 4 x65 x66", "end", "records 2")
	wantOutput(t, script("put a b 1", "del a 3", "compact", "size", "put e f 4"), "at 0", "at 1", "left 0", "size 0 in 0", "at 0", "records 1")
	wantOutput(t, script("del a 1", "compact", "compact", "show"), "at 0", "left 0", "left 0", "end", "records 0")
	wantOutput(t, script("compact", "even", "cut 0", "show", "size"), "left 0", "left 0", "left 0", "end", "size 0 in 0", "records 0")
	// In a batch that has been joined, too.
	wantOutput(t, script("put a b 1", "put a c 2", "put d e 3", "even", "compact", "size", "show"),
		"at 0", "at 1", "at 2", "left 3", "left 2", "size 33 in 1", "1 2 x61 x63", "2 3 x64 x65", "end", "records 2")
}

// Promise 175.
func TestEvenJoinsTwoBatches(t *testing.T) {
	// Behind the 18 bytes of the head are the 7 bytes of a record, packed into 8, and the 14 bytes of both, packed into 15.
	wantOutput(t, script("put a b 5", "size", "put c d 6", "size", "even", "size", "show"),
		"at 0", "size 26 in 1", "at 1", "size 52 in 2", "left 2", "size 33 in 1", "0 5 x61 x62", "1 6 x63 x64", "end", "records 2")
	wantOutput(t, script("put a b 5", "even", "even", "put c d 6", "even", "even", "size"), "at 0", "left 1", "left 1", "at 1", "left 2", "left 2", "size 33 in 1", "records 2")
}

// Promise 176.
func TestCutLeavesTheFirstRecord(t *testing.T) {
	wantOutput(t, script("put a b 5", "put c d 6", "cut 1", "show", "put e f 7", "show"),
		"at 0", "at 1", "left 1", "0 5 x61 x62", "end", "at 1", "0 5 x61 x62", "1 7 x65 x66", "end", "records 2")
	for _, e := range [][2]int{{0, 0}, {1, 1}, {2, 2}, {3, 3}, {4, 3}, {99999, 3}} {
		left := strconv.Itoa(e[1])
		for _, even := range []string{"size", "even"} {
			output := strings.Split(impl.Execute(script("put a b 5", "put c d 6", "put e f 7", even, "cut "+strconv.Itoa(e[0]), "put g h 8")), "\n")
			if output[4] != "left "+left || output[5] != "at "+left {
				t.Errorf("cut %d behind %s printed %q", e[0], even, output)
			}
		}
	}
}

// The document lets a batch without a producer be cut, packed or not.
func TestCutWithinABatch(t *testing.T) {
	wantOutput(t, script("put a b 5", "put c d 6", "put e f 7", "even", "size", "cut 2", "size", "show", "cut 1", "show", "cut 0", "show"),
		"at 0", "at 1", "at 2", "left 3", "size 40 in 1", "left 2", "size 33 in 1", "0 5 x61 x62", "1 6 x63 x64", "end", "left 1", "0 5 x61 x62", "end", "left 0", "end", "records 0")
}

// Promise 177.
func TestMalformedLinesPrintWhy(t *testing.T) {
	wantOutput(t, script("put a b", "put A b 5", "put a b 100000", "put a b 05"), "what", "no", "no", "no", "records 0")
}

func TestLinesThatAreNoCommand(t *testing.T) {
	for _, line := range []string{
		"", " ", "  ", "\t", "\r", "\x00", "\xff", "é", "zzz", "x", "end", "at 0", "left", "what", "no", "records", "put5",
		"PUT a b 5", "Put a b 5", "pu a b 5", "putt a b 5", "SHOW", "Show", "sHow", "sizes", "siz", "evened", "compac", "delete a 5",
		"put", "put a", "put a b", "put a b 5 6", "put a b 5 ", "put a  b 5", "put  a b 5", " put a b 5", "put a b  5", "put\ta b 5", "put a b c d", "put ", "put  ",
		"del", "del a", "del a b 5", "del a 5 ", " del a 5", "del  a 5", "del a  5", "del a 5 6", "del ",
		"cut", "cut 1 2", "cut 1 ", " cut 1", "cut  1", "cut  ",
		"compact ", " compact", "compact 1", "compact true", "even ", " even", "even 1", "size ", " size", "size 1", "show ", " show", "show 1", "show\r", "show\x00", "show\xff",
	} {
		wantOnly(t, line, "what")
	}
}

func TestCommandsThatFail(t *testing.T) {
	badKeys := []string{"", "A", "aB", "Za", "abcdefghi", strings.Repeat("a", 100), "a1", "1", "0", "a-", "-", "x-y", "a`", "{", "@", "[", "é", "aé", "\xff", "a\x00", "\x00", "a\r", "a\tb", "a.", "*"}
	badNumbers := []string{"", "00", "01", "05", "007", "00000", "+1", "-1", "-0", "100000", "123456", "1000000", "99999999999999999999", "18446744073709551616", "a", "1a", "a1", "0x1", "1.0", "1e3", "1_0", "٣", "5\r", "\xff", "5\x00", "x"}
	for _, bad := range badKeys {
		wantOnly(t, "put "+bad+" b 5", "no")
		wantOnly(t, "put a "+bad+" 5", "no")
		wantOnly(t, "del "+bad+" 5", "no")
	}
	for _, bad := range badNumbers {
		wantOnly(t, "put a b "+bad, "no")
		wantOnly(t, "del a "+bad, "no")
		wantOnly(t, "cut "+bad, "no")
	}
	for _, line := range []string{"put   ", "put  b 5", "put a  5", "put a b ", "del  ", "del  5", "del a ", "cut ", "put A B 05", "del 5 a"} {
		wantOnly(t, line, "no")
	}
}

func TestNumbersAndWordsAtTheEdges(t *testing.T) {
	wantOutput(t, script("put a b 0", "put z z 99999", "put abcdefgh zyxwvuts 10000", "del a 0", "del zzzzzzzz 99999", "show"),
		"at 0", "at 1", "at 2", "at 3", "at 4",
		"0 0 x61 x62", "1 99999 x7a x7a", "2 10000 x6162636465666768 x7a79787776757473", "3 0 x61 -", "4 99999 x7a7a7a7a7a7a7a7a -", "end", "records 5")
	for _, number := range []string{"0", "1", "9", "10", "99", "100", "999", "1000", "9999", "10000", "99999"} {
		wantOutput(t, script("del a "+number, "show"), "at 0", "0 "+number+" x61 -", "end", "records 1")
		wantOutput(t, script("cut "+number), "left 0", "records 0")
	}
}

func TestNinthBatch(t *testing.T) {
	eight := []string{"at 0", "at 1", "at 2", "at 3", "at 4", "at 5", "at 6", "at 7"}
	wantOutput(t, script(puts(8)...), append(eight, "records 8")...)
	wantOutput(t, script(append(puts(9), "del a 1", "size")...), append(eight, "no", "no", "size 208 in 8", "records 8")...)
	// There is room again once they are joined, or fewer.
	wantOutput(t, script(append(puts(9), "even", "put z z 1", "show")...), append(eight, "no", "left 8", "at 8",
		"0 0 x61 x76", "1 1 x62 x76", "2 2 x63 x76", "3 3 x64 x76", "4 4 x65 x76", "5 5 x66 x76", "6 6 x67 x76", "7 7 x68 x76", "8 1 x7a x7a", "end", "records 9")...)
	wantOutput(t, script(append(puts(9), "cut 7", "put z z 1", "put z z 1")...), append(eight, "no", "left 7", "at 7", "no", "records 8")...)
	wantOutput(t, script(append(puts(8), "put a w 8", "even", "put a w 8", "compact")...), append(eight, "no", "left 8", "at 8", "left 8", "records 8")...)
}

func TestScriptsThatAreTooLong(t *testing.T) {
	what := strings.Split(strings.Repeat("what ", 125), " ")
	wantOutput(t, strings.Repeat("zzz\n", 125), append(what[:125], "records 0")...)
	for _, text := range []string{
		strings.Repeat("zzz\n", 125) + "z", strings.Repeat("zzz\n", 125) + "\n", strings.Repeat("\n", 501), strings.Repeat("x", 501), strings.Repeat("é", 251),
		strings.Repeat("put a b 1\n", 51), strings.Repeat("put a b 1\n", 5000), strings.Repeat("\xff", 501),
	} {
		wantOutput(t, text, "too long")
	}
	for _, text := range []string{strings.Repeat("x", 500), strings.Repeat("é", 250), strings.Repeat("\xff", 500), strings.Repeat(" ", 500)} {
		wantOutput(t, text, "records 0")
	}
	wantOutput(t, strings.Repeat("x", 499)+"\n", "what", "records 0")
	wantOutput(t, strings.Repeat(" ", 499)+"\n", "what", "records 0")
	wantOutput(t, "put a "+strings.Repeat("b", 491)+" 5\n", "no", "records 0")
	wantOutput(t, "cut "+strings.Repeat("9", 495)+"\n", "no", "records 0")
}

// Calls know nothing of each other, also when they run at once.
func TestScriptsBeginWithoutBatches(t *testing.T) {
	text := script(append(puts(6), "even", "cut 3", "compact", "put a b 1", "zzz", "put A b 1", "size")...)
	want := outputPlainly(t, text)
	var all sync.WaitGroup
	for range 10 {
		all.Go(func() {
			for range 20 {
				if got := impl.Execute(text); got != want {
					t.Errorf("Execute(%q) = %q, want %q", text, got, want)
				}
			}
		})
	}
	all.Wait()
}
