package tests

import (
	"math/rand"
	"slices"
	"testing"

	"loop.example/g00057/impl"
)

// mergedTo is the answer in which the lot at one place has these wafers and times, and that at the other has none any more.
func mergedTo(b impl.LotBook, place int, from int, wafers []int64, times ...int64) impl.BookResult {
	return bookWith(b, func(b *impl.LotBook) {
		b.Lots[place].Wafers, b.Lots[from].Wafers, b.Lots[place].Done = wafers, nil, times
	})
}

func TestMergeLotsByHand(t *testing.T) {
	b := plainBook()
	checkMerged(t, "what was split", b, 7, 9, mergedTo(b, 0, 1, numbers(11, 12, 13, 15, 14), 100, 104))
	checkMerged(t, "the other way round", b, 9, 7, mergedTo(b, 1, 0, numbers(15, 14, 11, 12, 13), 100, 104))
	checkMerged(t, "with one without wafers", b, 5, 3, mergedTo(b, 3, 2, numbers(16)))
	checkMerged(t, "one without wafers gets some", b, 3, 5, mergedTo(b, 2, 3, numbers(16)))
	none := lotBook(2, doneAt(lot(1), 5), doneAt(lot(2), 3))
	checkMerged(t, "both without wafers", none, 1, 2, mergedTo(none, 0, 1, nil, 3))
	cross := lotBook(5, doneAt(lot(1, 10), 2, 6, 7, 20), doneAt(lot(2, 11), 4, 5, 9, 10))
	checkMerged(t, "times that cross", cross, 1, 2, mergedTo(cross, 0, 1, numbers(10, 11), 2, 5, 7, 10))
	checkMerged(t, "times that cross, the other way round", cross, 2, 1, mergedTo(cross, 1, 0, numbers(11, 10), 2, 5, 7, 10))
	ends := lotBook(2, doneAt(lot(1, 10), 0, latest), doneAt(lot(2, 11), latest, latest))
	checkMerged(t, "the first and the last times", ends, 2, 1, mergedTo(ends, 1, 0, numbers(11, 10), 0, latest))
	related := lotBook(2, lot(1, 10), childOf(1, lot(2, 11)), childOf(2, lot(3, 12)))
	checkMerged(t, "a lot into what was split from it", related, 3, 1, mergedTo(related, 2, 0, numbers(12, 10)))
	checkMerged(t, "with itself", b, 7, 7, bookCode(impl.ErrForm))
	checkMerged(t, "one that is Held with itself", b, 4, 4, bookCode(impl.ErrForm))
	checkMerged(t, "one is Held", b, 4, 5, bookCode(impl.ErrTaken))
	checkMerged(t, "the other is Held", b, 5, 4, bookCode(impl.ErrTaken))
	checkMerged(t, "one has done more steps", b, 7, 5, bookCode(impl.ErrRange))
	checkMerged(t, "the other has done more steps", b, 5, 7, bookCode(impl.ErrRange))
	checkMerged(t, "one without wafers that has not done as many", b, 7, 3, bookCode(impl.ErrRange))
	near := lotBook(3, doneAt(lot(1, 10), 5, 5), doneAt(lot(2, 11), 5, 5, 5))
	checkMerged(t, "one step more", near, 1, 2, bookCode(impl.ErrRange))
	checkMerged(t, "one step fewer", near, 2, 1, bookCode(impl.ErrRange))
}

func TestMergeLotsAtEachBound(t *testing.T) {
	for many := range 26 {
		for _, other := range numbersOf(24-many, 25-many, 26-many) {
			if other < 0 || other > 25 {
				continue
			}
			b := lotBook(2, lot(1, runOf(1, many)...), lot(2, runOf(int64(1+many), other)...))
			want := bookCode(impl.ErrMany)
			if many+other <= 25 {
				want = mergedTo(b, 0, 1, runOf(1, many+other))
			}
			checkMerged(t, "so many wafers", b, 1, 2, want)
		}
	}
	full := lotBook(2, lot(1, runOf(1, 25)...), lot(2, runOf(26, 25)...))
	checkMerged(t, "twice as many as may be", full, 2, 1, bookCode(impl.ErrMany))
	b := plainBook()
	for _, n := range lotEnds() {
		if lotAtWant(b.Lots, n) < 0 {
			checkMerged(t, "no lot of that id", b, n, 7, bookCode(impl.ErrNone))
			checkMerged(t, "no other of that id", b, 7, n, bookCode(impl.ErrNone))
			checkMerged(t, "neither", b, n, 77, bookCode(impl.ErrNone))
			checkMerged(t, "the same, and no lot has it", b, n, n, bookCode(impl.ErrNone))
		}
	}
}

// turnedPair has two lots of which any of four things may be wrong.
func turnedPair(held int, steps bool, many bool) impl.LotBook {
	b := lotBook(3, doneAt(lot(1, 10), 4), doneAt(lot(2, 11), 4))
	if held > 0 {
		b.Lots[held-1].Held = true
	}
	if steps {
		b.Lots[1].Done = nil
	}
	if many {
		b.Lots[0].Wafers = runOf(100, 25)
	}
	return b
}

// All that may be wrong, together: it is told in the order of the document.
func TestOrderOfMergeLots(t *testing.T) {
	for number := range 3 * 2 * 2 * 2 {
		held, steps, many, wrong := number%3, number/3%2 == 1, number/6%2 == 1, number/12 == 1
		b, code := turnedPair(held, steps, many), int64(impl.OK)
		if wrong {
			b.Scrap, code = runOf(900, 201), impl.ErrMany
		}
		for _, pair := range [][2]int64{{1, 2}, {2, 1}} {
			first := firstCode(code, impl.ErrTaken*bit(held > 0), impl.ErrRange*bit(steps), impl.ErrMany*bit(many))
			want := bookCode(first)
			if first == impl.OK {
				want = mergeLotsWant(b, pair[0], pair[1])
			}
			checkMerged(t, "several", b, pair[0], pair[1], want)
			checkMerged(t, "several, no lot", b, 77, pair[1], bookCode(firstCode(code, impl.ErrNone)))
			checkMerged(t, "several, no other", b, pair[0], 77, bookCode(firstCode(code, impl.ErrNone)))
			checkMerged(t, "several, the same", b, pair[0], pair[0], bookCode(firstCode(code, impl.ErrForm)))
		}
	}
}

// A lot that was merged is there still: it may be merged once more, either way, and gets wafers again.
func TestMergedOnceMore(t *testing.T) {
	b := plainBook()
	once := impl.MergeLots(b, 7, 9).Book
	checkMerged(t, "once more", once, 7, 9, impl.BookResult{Book: once})
	checkMerged(t, "back", once, 9, 7, mergedTo(once, 1, 0, numbers(11, 12, 13, 15, 14), 100, 104))
	checkHeld(t, "the merged lot is Held", once, 9, true, bookWith(once, func(b *impl.LotBook) { b.Lots[1].Held = true }))
	checkMerged(t, "with the merged one Held", impl.HoldLot(once, 9, true).Book, 7, 9, bookCode(impl.ErrTaken))
	checkStepped(t, "the merged lot goes no step on", once, 9, 107, bookCode(impl.ErrTaken))
	checkLeft(t, "its windows are told", once, 9, 107, value(3))
	checkSplit(t, "it has nothing to split", once, 9, 8, numbers(15), bookCode(impl.ErrNone))
	checkFound(t, "its wafers are the other's", once, 15, value(7))
	further := impl.StepLot(once, 7, 110).Book
	checkMerged(t, "it has done fewer steps by now", further, 7, 9, bookCode(impl.ErrRange))
	checkMerged(t, "and the other way round", further, 9, 7, bookCode(impl.ErrRange))
}

// timesUpTo are all lists of so many times that do not fall, of 0 to most.
func timesUpTo(n int, most int64) [][]int64 {
	var lists [][]int64
	for _, word := range wordsOver(runOf(0, int(most)+1), n) {
		if len(word) == n && slices.IsSorted(word) {
			lists = append(lists, word)
		}
	}
	return lists
}

// Whatever two lots have done: what one has then does not fall, and has the earlier time of each step.
func TestMergeLotsOfAllSmallTimes(t *testing.T) {
	for _, one := range timesUpTo(3, 3) {
		for _, other := range timesUpTo(3, 3) {
			b := lotBook(3, doneAt(lot(1, 10), one...), doneAt(lot(2, 11), other...))
			var times []int64
			for i := range one {
				times = append(times, slices.Min(numbers(one[i], other[i])))
			}
			checkMerged(t, "small times", b, 1, 2, mergedTo(b, 0, 1, numbers(10, 11), times...))
			checkBookFault(t, "small times", impl.MergeLots(b, 1, 2).Book, impl.OK)
		}
	}
}

// What is merged has no more time left than either had: no window is forgotten.
func TestMergedLotsKeepTheirWindows(t *testing.T) {
	chance, merged := rand.New(rand.NewSource(245)), 0
	for merged < 1500 {
		b := someBook(chance)
		id, other, now := idIn(chance, b), idIn(chance, b), chance.Int63n(2000)
		made := impl.MergeLots(b, id, other)
		checkMadeBook(t, "some", made, mergeLotsWant(b, id, other))
		if made.Code != impl.OK {
			continue
		}
		merged++
		checkBookFault(t, "merged", made.Book, impl.OK)
		one, two, both := impl.WindowLeft(b, id, now), impl.WindowLeft(b, other, now), impl.WindowLeft(made.Book, id, now)
		if both.Code != one.Code || both.Value != min(one.Value, two.Value) {
			t.Fatalf("%s: %v and %v are left, merged %v", brief(b), one, two, both)
		}
		if left := impl.WindowLeft(made.Book, other, now); left != two {
			t.Fatalf("%s: what the other has left was %v, is %v", brief(b), two, left)
		}
	}
}
