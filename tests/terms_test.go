package tests

import (
	"math"
	"math/rand/v2"
	"slices"
	"testing"

	"loop.example/recordbatches/impl"
)

// terms are terms with numbers and first offsets that take turns.
func terms(numbers ...int) []impl.Term {
	result := []impl.Term{}
	for i := 0; i < len(numbers); i += 2 {
		result = append(result, impl.Term{Number: numbers[i], First: numbers[i+1]})
	}
	return result
}

// ladder is so many terms from a number and an offset on, a step apart.
func ladder(many, number, offset, step int) []impl.Term {
	result := []impl.Term{}
	for i := range many {
		result = append(result, impl.Term{Number: number + i*step, First: offset + i*step})
	}
	return result
}

// randomTerms are so many valid terms; small ones are often those of others, too.
func randomTerms(random *rand.Rand, many int) []impl.Term {
	result, number, offset := []impl.Term{}, random.IntN(2), random.IntN(2)
	for range many {
		result = append(result, impl.Term{Number: number, First: offset})
		number += 1 + random.IntN(2)
		offset += 1 + random.IntN(2)*random.IntN(4)
	}
	return result
}

// someTerms are valid terms, none up to as many as there may be.
func someTerms() [][]impl.Term {
	result := [][]impl.Term{
		nil, terms(0, 0), terms(999, 99999), terms(0, 99999), terms(999, 0), terms(0, 0, 999, 99999), terms(5, 3, 6, 4),
		ladder(8, 0, 0, 1), ladder(8, 992, 99992, 1), ladder(8, 0, 5, 100), ladder(7, 992, 99992, 1), ladder(7, 993, 99993, 1),
	}
	random := rand.New(rand.NewPCG(23, 120))
	for many := range 9 {
		for range 20 {
			result = append(result, randomTerms(random, many))
		}
	}
	return result
}

// invalidTerms are terms that are not valid, each for one reason.
func invalidTerms() [][]impl.Term {
	result := [][]impl.Term{
		ladder(9, 0, 0, 1), ladder(9, 991, 99991, 1), ladder(300, 0, 0, 3),
		terms(1, 1, 1, 1), terms(1, 1, 1, 2), terms(1, 1, 2, 1), terms(1, 1, 0, 2), terms(1, 1, 2, 0), terms(2, 2, 1, 1),
		terms(1, 1, 3, 3, 3, 4), terms(1, 1, 3, 3, 4, 3), terms(1, 1, 3, 3, 2, 4), terms(1, 1, 3, 3, 4, 2), terms(1, 1, 3, 3, 1, 4), terms(1, 1, 3, 3, 4, 1),
		terms(1, 1, 4, 4, 2, 5, 6, 6),
	}
	for _, bad := range []int{-1, -2, 1000, 1001, math.MaxInt, math.MinInt} {
		result = append(result, terms(bad, 0), terms(1, 1, bad, 5), terms(bad, 1, 4, 5), terms(1, 1, bad, 5, 9, 9))
	}
	for _, bad := range []int{-1, -2, 100000, 100001, math.MaxInt, math.MinInt} {
		result = append(result, terms(0, bad), terms(1, 1, 5, bad), terms(1, bad, 4, 5), terms(1, 1, 5, bad, 9, 9))
	}
	return result
}

// endsOf are valid ends of terms.
func endsOf(list []impl.Term) []int {
	least := 0
	if len(list) > 0 {
		least = list[len(list)-1].First + 1
	}
	ends := []int{least}
	for _, end := range []int{least + 1, least + 7, 99999, 100000} {
		if end > ends[len(ends)-1] && end <= 100000 {
			ends = append(ends, end)
		}
	}
	return ends
}

// badEnds are ends that terms don't have.
func badEnds(list []impl.Term) []int {
	result := []int{-1, -2, -100000, 100001, 100002, math.MaxInt, math.MinInt}
	for _, t := range list {
		result = append(result, t.First-1, t.First)
	}
	return result
}

// endPlainly returns where the term at a place ends as the document tells it.
func endPlainly(list []impl.Term, i, end int) int {
	if i == len(list)-1 {
		return end
	}
	return list[i+1].First
}

// meetPlainly returns where terms meet as the document tells it.
func meetPlainly(a []impl.Term, endA int, b []impl.Term, endB int) int {
	result := 0
	for i, t := range a {
		for k, other := range b {
			if t.Number == other.Number && t.First == other.First {
				result = min(endPlainly(a, i, endA), endPlainly(b, k, endB))
			}
		}
	}
	return result
}

// wantTermEnd checks what TermsEnd returns.
func wantTermEnd(t *testing.T, list []impl.Term, number, end, want int) {
	t.Helper()
	if got := impl.TermsEnd(list, number, end); got != want {
		t.Errorf("TermsEnd(%v, %d, %d) = %d, want %d", list, number, end, got, want)
	}
}

// wantTermPut checks what TermsPut returns: terms, or none if it fails.
func wantTermPut(t *testing.T, list []impl.Term, term impl.Term, want []impl.Term) {
	t.Helper()
	if got, ok := impl.TermsPut(list, term); ok != (len(want) > 0) || !slices.Equal(got, want) {
		t.Errorf("TermsPut(%v, %v) = %v, %v, want %v", list, term, got, ok, want)
	}
}

// wantTermCut checks what TermsCut returns.
func wantTermCut(t *testing.T, list []impl.Term, offset int, want []impl.Term) {
	t.Helper()
	if got, ok := impl.TermsCut(list, offset); !ok || !slices.Equal(got, want) {
		t.Errorf("TermsCut(%v, %d) = %v, %v, want %v, true", list, offset, got, ok, want)
	}
}

// wantMeet checks what TermsMeet returns, and promise 126.
func wantMeet(t *testing.T, a []impl.Term, endA int, b []impl.Term, endB int, want int) {
	t.Helper()
	if got := impl.TermsMeet(a, endA, b, endB); got != want {
		t.Errorf("TermsMeet(%v, %d, %v, %d) = %d, want %d", a, endA, b, endB, got, want)
	}
	if got := impl.TermsMeet(b, endB, a, endA); got != want {
		t.Errorf("TermsMeet(%v, %d, %v, %d) = %d, want %d", b, endB, a, endA, got, want)
	}
}

// wantInvalidTerms checks that terms are invalid, and what all functions tell of them.
func wantInvalidTerms(t *testing.T, list []impl.Term) {
	t.Helper()
	if impl.TermsValid(list) {
		t.Errorf("%v is valid", list)
	}
	wantTermPut(t, list, impl.Term{Number: 999, First: 99999}, nil)
	for _, end := range []int{0, 7, 1000, 100000} {
		wantTermEnd(t, list, 1, end, -1)
		wantMeet(t, list, end, terms(1, 1), 100000, -1)
		wantMeet(t, list, end, nil, 0, -1)
		if got, ok := impl.TermsCut(list, end); ok || len(got) != 0 {
			t.Errorf("TermsCut(%v, %d) = %v, %v, want none, false", list, end, got, ok)
		}
	}
}

func TestTermsMax(t *testing.T) {
	if impl.TermsMax != 8 {
		t.Errorf("TermsMax = %d, want 8", impl.TermsMax)
	}
}

// Promises 120 and 121.
func TestPutTermIsBehindAllOthers(t *testing.T) {
	taken := 0
	for _, list := range someTerms() {
		last := impl.Term{Number: -1, First: -1}
		if len(list) > 0 {
			last = list[len(list)-1]
		}
		for _, number := range []int{-1, 0, last.Number - 1, last.Number, last.Number + 1, last.Number + 9, 999, 1000} {
			for _, first := range []int{-1, 0, last.First - 1, last.First, last.First + 1, last.First + 9, 99999, 100000} {
				term := impl.Term{Number: number, First: first}
				if len(list) == 8 || number <= last.Number || number > 999 || first <= last.First || first > 99999 {
					wantTermPut(t, list, term, nil)
					continue
				}
				taken++
				want := append(slices.Clone(list), term)
				wantTermPut(t, list, term, want)
				if !impl.TermsValid(want) {
					t.Errorf("%v is not valid", want)
				}
				wantTermPut(t, want, term, nil)
				wantTermPut(t, want, impl.Term{Number: number + 1, First: first}, nil)
			}
		}
	}
	if taken < 500 {
		t.Errorf("only %d terms were put", taken)
	}
}

// Promise 122.
func TestTermEndsWhereTheNextOneBegins(t *testing.T) {
	for _, list := range someTerms() {
		for _, end := range endsOf(list) {
			for number := -2; number < 30; number++ {
				want := -1
				if i := slices.IndexFunc(list, func(t impl.Term) bool { return t.Number == number }); i >= 0 {
					want = endPlainly(list, i, end)
				}
				wantTermEnd(t, list, number, end, want)
			}
			for i, term := range list {
				want := endPlainly(list, i, end)
				wantTermEnd(t, list, term.Number, end, want)
				if want <= term.First {
					t.Errorf("TermsEnd(%v, %d, %d) = %d", list, term.Number, end, want)
				}
			}
		}
	}
}

// Promise 123.
func TestFurtherTermEndsTheLastOne(t *testing.T) {
	for _, list := range someTerms() {
		for _, end := range endsOf(list) {
			if len(list) == 0 {
				continue
			}
			last := list[len(list)-1]
			longer, ok := impl.TermsPut(list, impl.Term{Number: last.Number + 1, First: end})
			if !ok {
				continue
			}
			wantTermEnd(t, list, last.Number, end, end)
			wantTermEnd(t, longer, last.Number, end+1, end)
			wantTermEnd(t, longer, last.Number, 100000, end)
		}
	}
}

func TestEndsAtTheEdges(t *testing.T) {
	wantTermEnd(t, terms(0, 0), 0, 1, 1)
	wantTermEnd(t, terms(0, 0), 0, 100000, 100000)
	wantTermEnd(t, terms(0, 0), 0, 0, -1)
	wantTermEnd(t, terms(0, 0), 0, 100001, -1)
	wantTermEnd(t, terms(999, 99999), 999, 100000, 100000)
	wantTermEnd(t, terms(999, 99999), 999, 99999, -1)
	wantTermEnd(t, terms(3, 5, 999, 99999), 3, 100000, 99999)
	wantTermEnd(t, terms(3, 5, 999, 99999), 3, 99999, -1)
	wantTermEnd(t, terms(3, 5, 7, 6), 3, 7, 6)
	wantTermEnd(t, terms(3, 5, 7, 6), 7, 7, 7)
	wantTermEnd(t, nil, 0, 0, -1)
	wantTermEnd(t, nil, 0, 100000, -1)
	for _, number := range []int{-1, 0, 2, 4, 6, 8, 999, 1000, math.MaxInt, math.MinInt} {
		wantTermEnd(t, terms(3, 5, 7, 6), number, 9, -1)
	}
}

// Promises 124 and 125.
func TestCutTermsBeginAheadOfAnOffset(t *testing.T) {
	for _, list := range someTerms() {
		offsets := []int{math.MinInt, -1, 0, 1, 50000, 99999, 100000, 100001, math.MaxInt}
		for _, term := range list {
			offsets = append(offsets, term.First-1, term.First, term.First+1)
		}
		slices.Sort(offsets)
		many := 0
		for _, offset := range offsets {
			for many < len(list) && list[many].First < offset {
				many++
			}
			wantTermCut(t, list, offset, list[:many])
			wantTermCut(t, list[:many], offset, list[:many])
			if !impl.TermsValid(list[:many]) {
				t.Errorf("%v is not valid", list[:many])
			}
		}
		if many != len(list) {
			t.Errorf("only %d of %v begin ahead of all offsets", many, list)
		}
	}
}

func TestTermsThatMeet(t *testing.T) {
	list := terms(1, 0, 3, 5, 4, 9)
	for _, e := range []struct {
		why        string
		a          []impl.Term
		endA       int
		b          []impl.Term
		endB, want int
	}{
		{"no terms", nil, 0, nil, 0, 0},
		{"no terms, but ends", nil, 7, nil, 100000, 0},
		{"no terms on one side", list, 12, nil, 12, 0},
		{"equal", list, 12, list, 12, 12},
		{"equal, with another end", list, 12, list, 10, 10},
		{"equal, with the greatest ends", list, 100000, list, 100000, 100000},
		{"one is longer", list, 12, list[:2], 7, 7},
		{"one is longer, and the other one ends behind it", list, 12, list[:2], 20, 9},
		{"one is longer, and the other one ends with it", list, 12, list[:2], 9, 9},
		{"the last ones differ by the number", list, 12, terms(1, 0, 3, 5, 5, 9), 12, 9},
		{"the last ones differ by the offset", list, 12, terms(1, 0, 3, 5, 4, 8), 12, 8},
		{"the same number with another offset ahead", list, 12, terms(1, 0, 3, 4, 5, 6), 12, 4},
		{"none is the same", list, 12, terms(0, 0, 2, 5, 5, 9), 12, 0},
		{"all have the same numbers, but other offsets", list, 12, terms(1, 1, 3, 6, 4, 10), 12, 0},
		{"only the last ones are the same", list, 12, terms(0, 0, 4, 9), 11, 11},
		{"only the middle one is the same", list, 12, terms(2, 1, 3, 5, 6, 6), 12, 6},
		{"the same one is the last one of one", list, 12, terms(0, 3, 3, 5), 6, 6},
		{"the first one of both, up to the last one of another number", list, 12, terms(1, 0, 999, 99999), 100000, 5},
		{"the numbers 0 and 999", terms(0, 0, 999, 99999), 100000, terms(0, 0, 999, 99999), 100000, 100000},
		{"as many as there may be", ladder(8, 0, 0, 1), 8, ladder(8, 0, 0, 1), 9, 8},
		{"an end one behind", ladder(8, 0, 0, 1), 8, ladder(4, 0, 0, 1), 4, 4},
	} {
		t.Run(e.why, func(t *testing.T) { wantMeet(t, e.a, e.endA, e.b, e.endB, e.want) })
	}
}

// manyPairs calls a function with many pairs of terms and ends: any ones, and some that share their first terms.
func manyPairs(do func(a []impl.Term, endA int, b []impl.Term, endB int)) {
	random := rand.New(rand.NewPCG(23, 126))
	for range 6000 {
		a, b := randomTerms(random, random.IntN(9)), randomTerms(random, random.IntN(9))
		if random.IntN(2) == 0 {
			shared := a[:random.IntN(len(a)+1)]
			rest := slices.DeleteFunc(b, func(t impl.Term) bool {
				return len(shared) > 0 && (t.Number <= shared[len(shared)-1].Number || t.First <= shared[len(shared)-1].First)
			})
			b = slices.Concat(shared, rest)
			b = b[:min(len(b), 8)]
		}
		endsA, endsB := endsOf(a), endsOf(b)
		do(a, endsA[random.IntN(len(endsA))], b, endsB[random.IntN(len(endsB))])
	}
}

// Promises 126, 128 and 129.
func TestTermsMeetWhereBothHaveTheSame(t *testing.T) {
	nowhere, agreed := 0, 0
	manyPairs(func(a []impl.Term, endA int, b []impl.Term, endB int) {
		want := meetPlainly(a, endA, b, endB)
		wantMeet(t, a, endA, b, endB, want)
		if want > endA || want > endB {
			t.Errorf("TermsMeet(%v, %d, %v, %d) = %d", a, endA, b, endB, want)
		}
		if want == 0 {
			nowhere++
			for _, term := range a {
				if slices.Contains(b, term) {
					t.Errorf("TermsMeet(%v, %d, %v, %d) = 0, but both have %v", a, endA, b, endB, term)
				}
			}
			return
		}
		cutA, okA := impl.TermsCut(a, want)
		cutB, okB := impl.TermsCut(b, want)
		many := min(len(cutA), len(cutB))
		if !slices.Equal(cutA[:many], cutB[:many]) {
			return
		}
		agreed++
		if !okA || !okB || len(cutA) != len(cutB) {
			t.Errorf("TermsMeet(%v, %d, %v, %d) = %d, where TermsCut leaves %v and %v", a, endA, b, endB, want, cutA, cutB)
		}
	})
	if nowhere < 100 || agreed < 1000 {
		t.Errorf("%d pairs meet nowhere, and %d where both agree", nowhere, agreed)
	}
}

// Promise 127.
func TestTermsMeetThemselves(t *testing.T) {
	for _, list := range someTerms() {
		for _, end := range endsOf(list) {
			want := end
			if len(list) == 0 {
				want = 0
			}
			wantMeet(t, list, end, slices.Clone(list), end, want)
			for many := 1; many < len(list); many++ {
				wantMeet(t, list, end, list[:many], list[many].First, list[many].First)
			}
		}
	}
}

// Promise 130.
func TestTermsWithoutOneAndWithItTwice(t *testing.T) {
	for _, list := range someTerms() {
		if !impl.TermsValid(list) {
			t.Errorf("%v is not valid", list)
		}
		for i, term := range list {
			if without := slices.Delete(slices.Clone(list), i, i+1); !impl.TermsValid(without) {
				t.Errorf("%v is not valid", without)
			}
			wantInvalidTerms(t, slices.Insert(slices.Clone(list), i, term))
		}
	}
}

func TestInvalidTerms(t *testing.T) {
	for _, list := range invalidTerms() {
		wantInvalidTerms(t, list)
	}
}

func TestEndsOutOfRange(t *testing.T) {
	for _, list := range someTerms() {
		for _, end := range badEnds(list) {
			wantTermEnd(t, list, 0, end, -1)
			for _, term := range list {
				wantTermEnd(t, list, term.Number, end, -1)
			}
			wantMeet(t, list, end, list, 100000, -1)
			wantMeet(t, list, end, nil, 0, -1)
			wantMeet(t, nil, 0, list, end, -1)
			wantMeet(t, list, end, list, end, -1)
		}
	}
}

func TestPutOfInvalidTerms(t *testing.T) {
	for _, list := range [][]impl.Term{nil, terms(0, 0), ladder(7, 0, 0, 1)} {
		for _, bad := range []int{-1, -2, math.MinInt, 100000, 100001, math.MaxInt} {
			wantTermPut(t, list, impl.Term{Number: 50, First: bad}, nil)
			wantTermPut(t, list, impl.Term{Number: bad, First: 50}, nil)
		}
		wantTermPut(t, list, impl.Term{Number: 1000, First: 50}, nil)
		wantTermPut(t, list, impl.Term{Number: 999, First: 99999}, append(slices.Clone(list), impl.Term{Number: 999, First: 99999}))
	}
	wantTermPut(t, ladder(8, 0, 0, 1), impl.Term{Number: 999, First: 99999}, nil)
}

func TestTermsShareNoMemory(t *testing.T) {
	backing := ladder(8, 1, 1, 3)
	list, before := backing[:3], slices.Clone(backing)
	for name, do := range map[string]func() []impl.Term{
		"TermsPut": func() []impl.Term {
			got, _ := impl.TermsPut(list, impl.Term{Number: 50, First: 50})
			return got
		},
		"TermsCut": func() []impl.Term {
			got, _ := impl.TermsCut(list, 6)
			return got
		},
		"TermsCut of all": func() []impl.Term {
			got, _ := impl.TermsCut(list, 50)
			return got
		},
	} {
		copy(backing, before)
		first, second := do(), do()
		want := slices.Clone(second)
		overwriteAll(first, impl.Term{Number: 77})
		impl.TermsEnd(list, 1, 90)
		impl.TermsMeet(list, 90, list[:2], 90)
		if !slices.Equal(backing, before) || len(want) < 2 {
			t.Errorf("%s: the argument was changed to %v", name, backing)
		}
		overwriteAll(backing, impl.Term{Number: 78})
		if !slices.Equal(second, want) {
			t.Errorf("%s: the result was changed to %v", name, second)
		}
	}
}
