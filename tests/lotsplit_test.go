package tests

import (
	"math/rand"
	"slices"
	"testing"

	"loop.example/g00057/impl"
)

// splitTo is the answer in which the lot at a place has what is left, and a new one stands behind the others.
func splitTo(b impl.LotBook, place int, left []int64, l impl.Lot) impl.BookResult {
	return bookWith(b, func(b *impl.LotBook) {
		b.Lots[place].Wafers = left
		b.Lots = append(b.Lots, l)
	})
}

func TestSplitLotByHand(t *testing.T) {
	b := plainBook()
	of7 := func(wafers ...int64) impl.Lot { return childOf(7, doneAt(lot(8, wafers...), 100, 104)) }
	checkSplit(t, "the first wafer", b, 7, 8, numbers(11), splitTo(b, 0, numbers(12, 13), of7(11)))
	checkSplit(t, "the wafer between", b, 7, 8, numbers(12), splitTo(b, 0, numbers(11, 13), of7(12)))
	checkSplit(t, "the last wafer", b, 7, 8, numbers(13), splitTo(b, 0, numbers(11, 12), of7(13)))
	checkSplit(t, "all but one", b, 7, 8, numbers(11, 13), splitTo(b, 0, numbers(12), of7(11, 13)))
	checkSplit(t, "all but one, in another order", b, 7, 8, numbers(13, 11), splitTo(b, 0, numbers(12), of7(13, 11)))
	checkSplit(t, "all", b, 7, 8, numbers(11, 12, 13), bookCode(impl.ErrZero))
	checkSplit(t, "all, in another order", b, 7, 8, numbers(12, 13, 11), bookCode(impl.ErrZero))
	checkSplit(t, "the one wafer of a lot", b, 5, 8, numbers(16), bookCode(impl.ErrZero))
	checkSplit(t, "a lot that was split itself", b, 9, 8, numbers(14), splitTo(b, 1, numbers(15), childOf(9, doneAt(lot(8, 14), 100, 106))))
	checkSplit(t, "no wafers", b, 7, 8, nil, bookCode(impl.ErrNone))
	checkSplit(t, "of a lot without wafers, none", b, 3, 8, []int64{}, bookCode(impl.ErrNone))
	checkSplit(t, "of a lot without wafers, one", b, 3, 8, numbers(11), bookCode(impl.ErrNone))
	for _, l := range b.Lots {
		checkSplit(t, "to an id that a lot has", b, 7, l.Id, numbers(11), bookCode(impl.ErrForm))
	}
	held := lotBook(4, lot(1, 2), heldLot(doneAt(lot(5, 6, 7), 8, 8, 9)))
	checkSplit(t, "a lot that is Held", held, 5, 3, numbers(7), splitTo(held, 1, numbers(6), childOf(5, heldLot(doneAt(lot(3, 7), 8, 8, 9)))))
	done := lotBook(2, doneAt(lot(5, 6, 7), 0, latest))
	checkSplit(t, "a lot that is done", done, 5, 3, numbers(6), splitTo(done, 0, numbers(7), childOf(5, doneAt(lot(3, 6), 0, latest))))
	full := lotBook(2, lot(5, runOf(1, 25)...))
	checkSplit(t, "24 of 25", full, 5, 3, runOf(2, 24), splitTo(full, 0, numbers(1), childOf(5, lot(3, runOf(2, 24)...))))
	checkSplit(t, "25 of 25", full, 5, 3, runOf(1, 25), bookCode(impl.ErrZero))
	checkSplit(t, "26, the first of them again", full, 5, 3, append(runOf(1, 25), 1), bookCodeAt(impl.ErrTaken, 25))
	checkSplit(t, "26, one of another lot", full, 5, 3, append(runOf(1, 25), 77), bookCodeAt(impl.ErrNone, 25))
	checkSplit(t, "far too many", full, 5, 3, longer(runOf(1, 25), 100000), bookCodeAt(impl.ErrTaken, 25))
}

func TestSplitLotTellsThePlace(t *testing.T) {
	b := plainBook()
	for _, other := range numbers(14, 19, 17, 18, 0, -1, 7, 8, 99, 1000001, leastInt, greatestInt) {
		checkSplit(t, "not in the lot", b, 7, 8, numbers(other), bookCodeAt(impl.ErrNone, 0))
		checkSplit(t, "the second is not", b, 7, 8, numbers(11, other, 12), bookCodeAt(impl.ErrNone, 1))
		checkSplit(t, "the third is not, beside all", b, 7, 8, numbers(11, 12, other, 13), bookCodeAt(impl.ErrNone, 2))
		checkSplit(t, "the last is not, behind all", b, 7, 8, numbers(11, 12, 13, other), bookCodeAt(impl.ErrNone, 3))
		checkSplit(t, "two are not", b, 7, 8, numbers(11, other, other), bookCodeAt(impl.ErrNone, 1))
		checkSplit(t, "one is not, then one twice", b, 7, 8, numbers(11, other, 11), bookCodeAt(impl.ErrNone, 1))
		checkSplit(t, "one twice, then one is not", b, 7, 8, numbers(11, 11, other), bookCodeAt(impl.ErrTaken, 1))
	}
	checkSplit(t, "twice", b, 7, 8, numbers(12, 12), bookCodeAt(impl.ErrTaken, 1))
	checkSplit(t, "twice, with another between", b, 7, 8, numbers(12, 11, 12), bookCodeAt(impl.ErrTaken, 2))
	checkSplit(t, "three times", b, 7, 8, numbers(12, 12, 12), bookCodeAt(impl.ErrTaken, 1))
	checkSplit(t, "twice, as many as the lot has", b, 7, 8, numbers(11, 12, 11), bookCodeAt(impl.ErrTaken, 2))
	checkSplit(t, "all, and one again", b, 7, 8, numbers(11, 12, 13, 12), bookCodeAt(impl.ErrTaken, 3))
}

func TestSplitLotAtEachBound(t *testing.T) {
	for _, n := range numbersOf(28, 29, 30) {
		lots := manyLots(n)
		lots[3].Wafers = numbers(1, 2)
		b := lotBook(2, lots...)
		want := bookCode(impl.ErrMany)
		if n < 30 {
			want = splitTo(b, 3, numbers(2), childOf(4, lot(77, 1)))
		}
		checkSplit(t, "so many lots", b, 4, 77, numbers(1), want)
	}
	b := plainBook()
	for _, n := range lotEnds() {
		want := splitTo(b, 0, numbers(11, 13), childOf(7, doneAt(lot(n, 12), 100, 104)))
		if n < 1 || n > 1000000 || lotAtWant(b.Lots, n) >= 0 {
			want = bookCode(impl.ErrForm)
		}
		checkSplit(t, "to an id", b, 7, n, numbers(12), want)
		if lotAtWant(b.Lots, n) < 0 {
			checkSplit(t, "of an id that no lot has", b, n, 8, numbers(12), bookCode(impl.ErrNone))
			checkSplit(t, "of an id that no lot has, to itself", b, n, n, numbers(12), bookCode(impl.ErrNone))
		}
	}
}

// All that may be wrong, together: it is told in the order of the document, and the place only with the code that has one.
func TestOrderOfSplitLot(t *testing.T) {
	full, wrong := plainBook(), plainBook()
	full.Lots = append(full.Lots, manyLots(62)[37:]...)
	wrong.Scrap = append(wrong.Scrap, 11)
	met := map[int64]int{}
	for _, fault := range []codedBook{{impl.OK, plainBook()}, {impl.OK, full}, {impl.ErrRange, lotBook(41)}, {impl.ErrTaken, wrong}} {
		many := impl.ErrMany * bit(len(fault.book.Lots) == 30)
		for _, id := range []codedId{{impl.OK, 7}, {impl.ErrNone, 0}, {impl.ErrNone, 77}, {impl.ErrNone, 1000001}} {
			for _, to := range []codedId{{impl.OK, 8}, {impl.ErrForm, 0}, {impl.ErrForm, 7}, {impl.ErrForm, 5}, {impl.ErrForm, 1000001}} {
				for _, list := range []codedWafers{
					{impl.OK, 0, numbers(13, 12)}, {impl.ErrNone, 0, nil}, {impl.ErrNone, 2, numbers(11, 12, 14)},
					{impl.ErrTaken, 1, numbers(11, 11, 14)}, {impl.ErrTaken, 3, numbers(11, 12, 13, 11)}, {impl.ErrZero, 0, numbers(13, 12, 11)},
				} {
					ahead := firstCode(fault.code, id.code, many, to.code)
					want := bookCodeAt(list.code, list.at)
					if ahead != impl.OK {
						want = bookCode(ahead)
					} else if list.code == impl.OK {
						want = splitTo(fault.book, 0, numbers(11), childOf(7, doneAt(lot(8, 13, 12), 100, 104)))
					}
					checkSplit(t, "several", fault.book, id.id, to.id, list.wafers, want)
					met[want.Code]++
				}
			}
		}
	}
	if met[impl.OK] != 1 || met[impl.ErrMany] != 30 || met[impl.ErrZero] != 1 {
		t.Errorf("the codes are %v", met)
	}
}

// wordsOver are all lists of at most so many of these numbers.
func wordsOver(list []int64, most int) [][]int64 {
	words := [][]int64{nil}
	for i := 0; i < len(words); i++ {
		for _, n := range list {
			if len(words[i]) < most {
				words = append(words, append(slices.Clone(words[i]), n))
			}
		}
	}
	return words
}

// Whatever wafers are asked for: together, both lots have just what the one had.
func TestSplitLotOfAllSmallLists(t *testing.T) {
	b := lotBook(3, lot(9, 5), doneAt(lot(7, 1, 2, 3), 4), lot(6))
	made := 0
	for _, wafers := range wordsOver(numbers(1, 2, 3, 5), 5) {
		want := splitLotWant(b, 7, 8, wafers)
		checkSplit(t, brief(wafers), b, 7, 8, wafers, want)
		if want.Code != impl.OK {
			continue
		}
		made++
		both := slices.Concat(want.Book.Lots[1].Wafers, want.Book.Lots[3].Wafers)
		slices.Sort(both)
		if !slices.Equal(both, numbers(1, 2, 3)) || !slices.Equal(want.Book.Lots[3].Wafers, wafers) || !slices.IsSorted(want.Book.Lots[1].Wafers) {
			t.Errorf("%v is split into %v", wafers, want)
		}
	}
	// One of three, or two of three in either order.
	if made != 9 {
		t.Errorf("%d lists split the lot", made)
	}
}

// What was split is the same lot's again, wherever it stands; what the two have done is not asked by it.
func TestSplitAndMergedIsWhole(t *testing.T) {
	chance, split := rand.New(rand.NewSource(244)), 0
	for range 2000 {
		b := someBook(chance)
		id := idIn(chance, b)
		wafers := wafersIn(chance, b, id)
		made := impl.SplitLot(b, id, 99, wafers)
		checkMadeBook(t, "some", made, splitLotWant(b, id, 99, wafers))
		if made.Code != impl.OK {
			continue
		}
		split++
		checkBookFault(t, "split", made.Book, impl.OK)
		line := impl.LineageOf(b, id)
		checkLineage(t, "split", made.Book, 99, ints(append(numbers(99), line.List...)...))
		checkLineage(t, "what it was split from", made.Book, id, line)
		at := lotAtWant(b.Lots, id)
		if b.Lots[at].Held {
			continue
		}
		whole := impl.MergeLots(made.Book, id, 99)
		was, is := slices.Sorted(slices.Values(b.Lots[at].Wafers)), slices.Sorted(slices.Values(whole.Book.Lots[at].Wafers))
		if !slices.Equal(was, is) || !slices.Equal(whole.Book.Lots[at].Done, b.Lots[at].Done) || len(whole.Book.Lots[len(b.Lots)].Wafers) != 0 {
			t.Fatalf("%s, split and merged: %s", brief(b), brief(whole))
		}
	}
	if split < 300 {
		t.Errorf("%d lots were split", split)
	}
}

func TestLineageOfByHand(t *testing.T) {
	b := plainBook()
	checkLineage(t, "without Parent", b, 7, ints(7))
	checkLineage(t, "split", b, 9, ints(9, 7))
	checkLineage(t, "split from one that was split", b, 5, ints(5, 9, 7))
	checkLineage(t, "without wafers", b, 3, ints(3))
	checkLineage(t, "Held", b, 4, ints(4))
	checkLineage(t, "without lots", lotBook(1), 1, intsCode(impl.ErrNone))
	long := lotBook(2, lot(30))
	var line []int64
	for id := int64(30); id >= 1; id-- {
		if id < 30 {
			long.Lots = append(long.Lots, childOf(id+1, lot(id)))
		}
		line = append(numbers(id), line...)
		checkLineage(t, "one by one", long, id, ints(line...))
	}
	far := lotBook(2, lot(1000000), childOf(1000000, lot(1)), childOf(1, lot(999999)))
	checkLineage(t, "ids at both ends", far, 999999, ints(999999, 1, 1000000))
	for _, n := range lotEnds() {
		if lotAtWant(b.Lots, n) < 0 {
			checkLineage(t, "an id that no lot has", b, n, intsCode(impl.ErrNone))
			checkLineage(t, "an id that no lot has, and a fault", withScrap(b, 0), n, intsCode(impl.ErrRange))
		}
	}
}

// A lot that is merged keeps its id and its Parent: those that were split from it still tell it.
func TestLineageBehindAMerge(t *testing.T) {
	b := plainBook()
	merged := impl.MergeLots(b, 7, 9)
	checkLineage(t, "the merged lot", merged.Book, 9, ints(9, 7))
	checkLineage(t, "split from the merged lot", merged.Book, 5, ints(5, 9, 7))
	checkStarted(t, "its id is taken still", merged.Book, 9, numbers(99), bookCode(impl.ErrForm))
	checkSplit(t, "its id is taken still", merged.Book, 7, 9, numbers(11), bookCode(impl.ErrForm))
}

// Split again and again, each from the last: the lineage has them all, backward.
func TestLineageOfALongLine(t *testing.T) {
	b, line := impl.StartLot(lotBook(3), 500, runOf(1, 25)).Book, numbers(500)
	for i := range int64(24) {
		made := impl.SplitLot(b, line[0], 400-i, runOf(2+i, 24-int(i)))
		if made.Code != impl.OK {
			t.Fatalf("the code is %d", made.Code)
		}
		b, line = made.Book, append(numbers(400-i), line...)
		checkLineage(t, "one further", b, line[0], ints(line...))
		checkFound(t, "left behind", b, 1+i, value(line[1]))
	}
	checkSplit(t, "one wafer", b, line[0], 1, numbers(25), bookCode(impl.ErrZero))
}
