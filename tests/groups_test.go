package tests

import (
	"maps"
	"math"
	"math/rand/v2"
	"slices"
	"strings"
	"sync"
	"testing"

	"loop.example/recordbatches/impl"
)

// groups are groups with these names, a blank between each two, and the offsets that they read next.
func groups(names string, nexts ...int) []impl.Group {
	result := []impl.Group{}
	for i, next := range nexts {
		result = append(result, impl.Group{Name: strings.Split(names, " ")[i], Next: next})
	}
	return result
}

// names are all that groups of the tests are put with: those that begin others, of one and of 6 letters, with the first and the last letter.
var names = strings.Split("a aa aaaaaa ab abc abcdef b ba m zy zyxwvu z zzzzzz", " ")

// badNames are names that no group has.
var badNames = []string{"", "abcdefg", "zzzzzzzzzzzz", strings.Repeat("a", 300), "A", "aB", "Z", "a ", " a", "a b", "1", "a1", "`", "{", "a`", "{a", "@", "[", "-", "\x00", "a\x00", "\n", "é", "aé", "\xff", "a\xffb", "ａ"}

// badNexts are offsets that no group reads next.
var badNexts = []int{-1, -2, -100000, 100001, 100002, math.MaxInt, math.MinInt}

// randomGroups are so many valid groups, of which several may read the same offset next.
func randomGroups(random *rand.Rand, many int) []impl.Group {
	some, result := slices.Clone(names), []impl.Group{}
	random.Shuffle(len(some), func(i, k int) { some[i], some[k] = some[k], some[i] })
	slices.Sort(some[:many])
	for _, name := range some[:many] {
		result = append(result, impl.Group{Name: name, Next: random.IntN([]int{3, 60, 100001}[random.IntN(3)])})
	}
	return result
}

// someGroups are valid groups, none up to as many as there may be.
func someGroups() [][]impl.Group {
	result := [][]impl.Group{
		nil, groups("a", 0), groups("z", 100000), groups("abcdef", 5), groups("a b", 100000, 0), groups("a b", 0, 100000),
		groups("a aa aaa aaaa aaaaa aaaaaa b ba", 7, 7, 7, 7, 7, 7, 7, 7), groups("a b c d e f g h", 8, 7, 6, 5, 4, 3, 2, 1),
		groups("ab b", 1, 1), groups("az b", 3, 2), groups("az ba", 2, 3), groups("abcdef abcdeg", 1, 2),
	}
	random := rand.New(rand.NewPCG(32, 142))
	for many := range 9 {
		for range 12 {
			result = append(result, randomGroups(random, many))
		}
	}
	return result
}

// invalidGroups are groups that are not valid, each for one reason.
func invalidGroups() [][]impl.Group {
	result := [][]impl.Group{
		groups("a b c d e f g h i", 1, 2, 3, 4, 5, 6, 7, 8, 9),
		groups("a a", 1, 1), groups("a a", 1, 2), groups("b a", 1, 2), groups("b a", 2, 1), groups("aa a", 1, 2), groups("b ab", 1, 2), groups("b az", 1, 2),
		groups("a c b", 1, 2, 3), groups("a b a", 1, 2, 3), groups("b c a", 1, 2, 3), groups("a b b", 1, 2, 3), groups("a b b c", 1, 2, 2, 3),
	}
	many := []impl.Group{}
	for i := range 300 {
		many = append(many, impl.Group{Name: string([]byte{byte('a' + i/26), byte('a' + i%26)}), Next: 1})
	}
	result = append(result, many, many[:9])
	for _, bad := range badNames {
		result = append(result, []impl.Group{{Name: bad, Next: 1}}, []impl.Group{{Name: bad, Next: 1}, {Name: "zzzzzz", Next: 1}}, []impl.Group{{Name: "a", Next: 1}, {Name: bad, Next: 1}})
	}
	for _, bad := range badNexts {
		result = append(result, groups("a", bad), groups("a b", bad, 1), groups("a b c", 1, bad, 2), groups("a b c", 1, 2, bad))
	}
	return result
}

// groupPutPlainly returns groups with one put, as the document tells it.
func groupPutPlainly(list []impl.Group, g impl.Group) []impl.Group {
	all := map[string]impl.Group{}
	for _, other := range append(slices.Clone(list), g) {
		all[other.Name] = other
	}
	result := []impl.Group{}
	for _, name := range slices.Sorted(maps.Keys(all)) {
		result = append(result, all[name])
	}
	return result
}

// leftPlainly returns how many records are not ahead of an offset.
func leftPlainly(log []impl.Batch, next int) int {
	count := 0
	for _, r := range allRecords(log, true) {
		if r.Offset >= next {
			count++
		}
	}
	return count
}

// wantGroupPut checks what GroupsPut returns.
func wantGroupPut(t *testing.T, list []impl.Group, g impl.Group, want []impl.Group) {
	t.Helper()
	before := slices.Clone(list)
	if got, ok := impl.GroupsPut(list, g); !ok || !slices.Equal(got, want) {
		t.Errorf("GroupsPut(%v, %v) = %v, %v, want %v, true", list, g, got, ok, want)
	}
	if !slices.Equal(list, before) {
		t.Errorf("GroupsPut changed %v to %v", before, list)
	}
}

// wantNoGroupPut checks that GroupsPut fails with zero values.
func wantNoGroupPut(t *testing.T, list []impl.Group, g impl.Group) {
	t.Helper()
	if got, ok := impl.GroupsPut(list, g); ok || len(got) != 0 {
		t.Errorf("GroupsPut(%v, %v) = %v, %v, want none, false", list, g, got, ok)
	}
}

// wantLeft checks what GroupsLeft returns.
func wantLeft(t *testing.T, list []impl.Group, name string, log []impl.Batch, want int) {
	t.Helper()
	if got := impl.GroupsLeft(list, name, log); got != want {
		t.Errorf("GroupsLeft(%v, %q, %v) = %d, want %d", list, name, log, got, want)
	}
}

// wantLeast checks what GroupsLeast returns.
func wantLeast(t *testing.T, list []impl.Group, want int) {
	t.Helper()
	if got := impl.GroupsLeast(list); got != want {
		t.Errorf("GroupsLeast(%v) = %d, want %d", list, got, want)
	}
}

// wantInvalidGroups checks that groups are invalid, and what all functions tell of them.
func wantInvalidGroups(t *testing.T, list []impl.Group) {
	t.Helper()
	if impl.GroupsValid(list) {
		t.Errorf("%v is valid", list)
	}
	wantNoGroupPut(t, list, impl.Group{Name: "m", Next: 1})
	wantLeast(t, list, -1)
	for _, g := range list[:min(len(list), 9)] {
		wantNoGroupPut(t, list, g)
		// Also if the groups would be valid with this one instead.
		wantNoGroupPut(t, list, impl.Group{Name: g.Name, Next: 1})
		wantLeft(t, list, g.Name, gaps(), -1)
		wantLeft(t, list, g.Name, nil, -1)
	}
	wantLeft(t, list, "a", gaps(), -1)
}

func TestGroupsMax(t *testing.T) {
	if impl.GroupsMax != 8 {
		t.Errorf("GroupsMax = %d, want 8", impl.GroupsMax)
	}
}

func TestGroupsArePutAtTheirPlaces(t *testing.T) {
	list := groups("b d f", 5, 100000, 5)
	for _, e := range []struct {
		why  string
		name string
		next int
		want []impl.Group
	}{
		{"at the front", "a", 7, groups("a b d f", 7, 5, 100000, 5)},
		{"in the middle", "c", 5, groups("b c d f", 5, 5, 100000, 5)},
		{"behind the middle", "e", 0, groups("b d e f", 5, 100000, 0, 5)},
		{"at the back", "g", 100000, groups("b d f g", 5, 100000, 5, 100000)},
		{"instead of the first one", "b", 6, groups("b d f", 6, 100000, 5)},
		{"instead of the middle one", "d", 0, groups("b d f", 5, 0, 5)},
		{"instead of the last one", "f", 4, groups("b d f", 5, 100000, 4)},
		{"behind one that it begins with", "ba", 1, groups("b ba d f", 5, 1, 100000, 5)},
		{"ahead of one that ends with it", "abcdef", 1, groups("abcdef b d f", 1, 5, 100000, 5)},
		{"with the same offset", "f", 5, list},
	} {
		t.Run(e.why, func(t *testing.T) { wantGroupPut(t, list, impl.Group{Name: e.name, Next: e.next}, e.want) })
	}
	wantGroupPut(t, nil, impl.Group{Name: "zzzzzz", Next: 100000}, groups("zzzzzz", 100000))
	wantGroupPut(t, groups("ab", 3), impl.Group{Name: "a", Next: 4}, groups("a ab", 4, 3))
	wantGroupPut(t, groups("a", 3), impl.Group{Name: "ab", Next: 3}, groups("a ab", 3, 3))
}

// Promises 142 and 143.
func TestPutGroupHasTheOffset(t *testing.T) {
	puts, full := 0, 0
	for _, list := range someGroups() {
		for _, name := range names {
			for _, next := range []int{0, 1, 7, 99999, 100000} {
				g := impl.Group{Name: name, Next: next}
				want := groupPutPlainly(list, g)
				if len(want) > 8 {
					full++
					wantNoGroupPut(t, list, g)
					continue
				}
				puts++
				wantGroupPut(t, list, g, want)
				wantGroupPut(t, want, g, want)
				if !impl.GroupsValid(want) {
					t.Errorf("%v is not valid", want)
				}
			}
		}
	}
	if puts < 1000 || full < 300 {
		t.Errorf("%d groups were put, and for %d there was no room", puts, full)
	}
}

// Promises 144, 145 and 148.
func TestGroupHasRecordsLeft(t *testing.T) {
	for _, log := range append(someLogs(), gaps()) {
		all := len(allRecords(log, true))
		for _, next := range someOffsets(log) {
			if next < 0 || next > 100000 {
				continue
			}
			list := groups("ab abc b", 100000, next, 0)
			want := leftPlainly(log, next)
			wantLeft(t, list, "abc", log, want)
			wantLeft(t, list, "b", log, all)
			wantLeft(t, list[:2], "ab", log, 0)
			wantLeft(t, groups("m", next), "m", log, want)
			for _, name := range []string{"a", "bc", "abcd", "aa", "z"} {
				wantLeft(t, list, name, log, -1)
			}
		}
		end := impl.ReadEnd(log)
		wantLeft(t, groups("a b", 0, end), "a", log, all)
		wantLeft(t, groups("a b", 0, end), "b", log, 0)
		for _, list := range someGroups() {
			least := groups("least", impl.GroupsLeast(list))
			for _, g := range list {
				want := leftPlainly(log, g.Next)
				wantLeft(t, list, g.Name, log, want)
				if at := impl.GroupsLeft(least, "least", log); want > at {
					t.Errorf("GroupsLeft(%v, %q, %v) = %d, but it is %d at the least offset", list, g.Name, log, want, at)
				}
			}
		}
	}
}

// The batches have the offsets 5, 8 and 9; 10 and 14; 20, a mark; 21 and 30.
func TestRecordsLeftAtTheEdges(t *testing.T) {
	for _, e := range [][2]int{
		{0, 8}, {5, 8}, {6, 7}, {8, 7}, {9, 6}, {10, 5}, {11, 4}, {14, 4}, {15, 3}, {20, 3}, {21, 2}, {22, 1}, {30, 1}, {31, 0}, {99999, 0}, {100000, 0},
	} {
		wantLeft(t, groups("a b", 3, e[0]), "b", gaps(), e[1])
		wantLeft(t, groups("b", e[0]), "b", nil, 0)
	}
	great := []impl.Batch{free(0, 6), free(99999, 1)}
	wantLeft(t, groups("a", 99999), "a", great, 1)
	wantLeft(t, groups("a", 100000), "a", great, 0)
	wantLeft(t, groups("a", 0), "a", []impl.Batch{markAt(3, 3), markAt(4, 4)}, 2)
	wantLeft(t, groups("a", 4), "a", []impl.Batch{markAt(3, 3), markAt(4, 4)}, 1)
}

// Promises 146 and 147.
func TestLeastOffsetIsThatOfAGroup(t *testing.T) {
	for _, list := range someGroups() {
		want := -1
		for _, g := range list {
			if want < 0 || g.Next < want {
				want = g.Next
			}
		}
		wantLeast(t, list, want)
	}
	wantLeast(t, nil, -1)
	wantLeast(t, []impl.Group{}, -1)
	wantLeast(t, groups("a", 0), 0)
	wantLeast(t, groups("a", 100000), 100000)
	wantLeast(t, groups("a b c", 3, 2, 4), 2)
	wantLeast(t, groups("a b c", 2, 3, 2), 2)
	wantLeast(t, groups("a b c", 4, 3, 2), 2)
}

// Promise 149.
func TestGroupsWithoutOneAndWithItTwice(t *testing.T) {
	for _, list := range someGroups() {
		if !impl.GroupsValid(list) {
			t.Errorf("%v is not valid", list)
		}
		for i, g := range list {
			if without := slices.Delete(slices.Clone(list), i, i+1); !impl.GroupsValid(without) {
				t.Errorf("%v is not valid", without)
			}
			wantInvalidGroups(t, slices.Insert(slices.Clone(list), i, g))
			wantInvalidGroups(t, slices.Insert(slices.Clone(list), i, impl.Group{Name: g.Name, Next: 3}))
		}
	}
}

func TestAsManyGroupsAsThereMayBe(t *testing.T) {
	list := groups("b c d e f g h i", 1, 2, 3, 4, 5, 6, 7, 8)
	for i, g := range list {
		want := slices.Clone(list)
		want[i].Next = 100000
		wantGroupPut(t, list, impl.Group{Name: g.Name, Next: 100000}, want)
		wantLeft(t, list, g.Name, gaps(), leftPlainly(gaps(), g.Next))
	}
	for _, name := range []string{"a", "bb", "ee", "j", "zzzzzz"} {
		wantNoGroupPut(t, list, impl.Group{Name: name, Next: 1})
		wantGroupPut(t, list[:7], impl.Group{Name: name, Next: 1}, groupPutPlainly(list[:7], impl.Group{Name: name, Next: 1}))
	}
}

func TestInvalidGroups(t *testing.T) {
	for _, list := range invalidGroups() {
		wantInvalidGroups(t, list)
	}
}

func TestPutOfInvalidGroups(t *testing.T) {
	for _, list := range [][]impl.Group{nil, groups("a", 1), groups("a b c d e f g h", 1, 2, 3, 4, 5, 6, 7, 8)} {
		for _, bad := range badNames {
			wantNoGroupPut(t, list, impl.Group{Name: bad, Next: 1})
			wantLeft(t, list, bad, gaps(), -1)
			wantLeft(t, list, bad, nil, -1)
		}
		for _, bad := range badNexts {
			wantNoGroupPut(t, list, impl.Group{Name: "a", Next: bad})
			wantNoGroupPut(t, list, impl.Group{Name: "m", Next: bad})
		}
	}
}

func TestNothingIsLeftOfInvalidBatches(t *testing.T) {
	for _, log := range invalidLogs() {
		wantLeft(t, groups("a b", 0, 100000), "a", log, -1)
		wantLeft(t, groups("a b", 0, 100000), "b", log, -1)
		wantLeft(t, groups("a b", 0, 100000), "c", log, -1)
		wantLeft(t, nil, "a", log, -1)
	}
	wantLeft(t, nil, "a", gaps(), -1)
}

// The same again and again, also from many goroutines that share the arguments.
func TestRecordsLeftInAnyOrder(t *testing.T) {
	log, list := edgeLogs()[0], groups("a b c", 0, 12000*3+2000*2, 99999)
	var all sync.WaitGroup
	for range 20 {
		all.Go(func() {
			for range 20 {
				wantLeft(t, list, "a", log, 48)
				wantLeft(t, list, "b", log, 28)
				wantLeft(t, list, "c", log, 0)
				wantGroupPut(t, list, impl.Group{Name: "b", Next: 1}, groups("a b c", 0, 1, 99999))
			}
		})
	}
	all.Wait()
}

func TestGroupsShareNoMemory(t *testing.T) {
	backing := groups("a b c d e f g h", 1, 2, 3, 4, 5, 6, 7, 8)
	list, before := backing[:3], slices.Clone(backing)
	for _, g := range []impl.Group{{Name: "a", Next: 50}, {Name: "c", Next: 50}, {Name: "bb", Next: 50}, {Name: "z", Next: 50}} {
		copy(backing, before)
		first, _ := impl.GroupsPut(list, g)
		second, _ := impl.GroupsPut(list, g)
		want := slices.Clone(second)
		overwriteAll(first, impl.Group{Name: "first"})
		log := sharedLog()
		logBefore := deepCopy(log[:cap(log)])
		impl.GroupsLeft(list, "b", log)
		impl.GroupsLeast(list)
		if !slices.Equal(backing, before) || !sameBatches(log[:cap(log)], logBefore) {
			t.Errorf("the arguments were changed to %v and %v", backing, log)
		}
		overwriteAll(backing, impl.Group{Name: "second"})
		if !slices.Equal(second, want) || len(want) < 3 {
			t.Errorf("the result was changed to %v", second)
		}
	}
}
