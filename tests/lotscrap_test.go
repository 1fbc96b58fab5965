package tests

import (
	"math/rand"
	"slices"
	"testing"

	"loop.example/g00057/impl"
)

func TestHoldLotByHand(t *testing.T) {
	b := plainBook()
	for i, l := range b.Lots {
		for _, held := range []bool{false, true} {
			want := bookWith(b, func(b *impl.LotBook) { b.Lots[i].Held = held })
			checkHeld(t, "a lot", b, l.Id, held, want)
			checkHeld(t, "a lot, once more", want.Book, l.Id, held, want)
		}
	}
	for _, n := range lotEnds() {
		if lotAtWant(b.Lots, n) < 0 {
			for _, held := range []bool{false, true} {
				checkHeld(t, "an id that no lot has", b, n, held, bookCode(impl.ErrNone))
				checkHeld(t, "an id that no lot has, and a fault", withScrap(b, 11), n, held, bookCode(impl.ErrTaken))
				checkHeld(t, "no lots", lotBook(1), n, held, bookCode(impl.ErrNone))
			}
		}
	}
	full := fullLotAsk().b
	checkHeld(t, "the last of many", full, 1000000, true, bookWith(full, func(b *impl.LotBook) { b.Lots[29].Held = true }))
}

// A lot that is Held does not go on, whatever is asked; freed, it does.
func TestHeldLotsWait(t *testing.T) {
	b := plainBook()
	held := impl.HoldLot(b, 7, true).Book
	for _, now := range numbers(-1, 0, 103, 104, 110, 111, latest, latest+1) {
		checkStepped(t, "Held", held, 7, now, bookCode(impl.ErrTaken))
		checkStepped(t, "freed", impl.HoldLot(held, 7, false).Book, 7, now, stepLotWant(b, 7, now))
	}
	checkMerged(t, "Held", held, 7, 9, bookCode(impl.ErrTaken))
	checkMerged(t, "freed", impl.HoldLot(held, 7, false).Book, 7, 9, mergeLotsWant(b, 7, 9))
}

// scrappedTo is the answer in which the lot at a place has what is left, and the wafer is behind the others in Scrap.
func scrappedTo(b impl.LotBook, place int, left []int64, wafer int64) impl.BookResult {
	return bookWith(b, func(b *impl.LotBook) { b.Lots[place].Wafers, b.Scrap = left, append(b.Scrap, wafer) })
}

func TestScrapWaferByHand(t *testing.T) {
	b := plainBook()
	checkScrapped(t, "the first wafer", b, 11, scrappedTo(b, 0, numbers(12, 13), 11))
	checkScrapped(t, "the wafer between", b, 12, scrappedTo(b, 0, numbers(11, 13), 12))
	checkScrapped(t, "the last wafer", b, 13, scrappedTo(b, 0, numbers(11, 12), 13))
	checkScrapped(t, "of another lot", b, 15, scrappedTo(b, 1, numbers(14), 15))
	checkScrapped(t, "the one wafer of a lot", b, 16, scrappedTo(b, 3, nil, 16))
	checkScrapped(t, "of a lot that is Held", b, 19, scrappedTo(b, 4, nil, 19))
	bare := lotBook(1, lot(1, 1000000, 1))
	checkScrapped(t, "the least wafer", bare, 1, scrappedTo(bare, 0, numbers(1000000), 1))
	checkScrapped(t, "the greatest wafer", bare, 1000000, scrappedTo(bare, 0, numbers(1), 1000000))
	for _, wafer := range append(lotEnds(), 17, 18, 7, 9, 99) {
		if !slices.Contains(numbers(11, 12, 13, 14, 15, 16, 19), wafer) {
			checkScrapped(t, "no lot has it", b, wafer, bookCode(impl.ErrNone))
			checkScrapped(t, "no lot has it, and a fault", withScrap(b, 17, 17), wafer, bookCode(impl.ErrTaken))
			checkScrapped(t, "no lots", lotBook(1), wafer, bookCode(impl.ErrNone))
		}
	}
	done := lotBook(3, doneAt(lot(4, 5, 6), 7, 8))
	checkScrapped(t, "behind steps", done, 5, scrappedTo(done, 0, numbers(6), 5))
}

func TestScrapWaferAtEachBound(t *testing.T) {
	b := plainBook()
	for _, n := range numbersOf(198, 199, 200) {
		full := withScrap(b, runOf(1000, n)...)
		want := bookCode(impl.ErrMany)
		if n < 200 {
			want = scrappedTo(full, 0, numbers(11, 13), 12)
		}
		checkScrapped(t, "so many in Scrap", full, 12, want)
		checkScrapped(t, "so many in Scrap, of which it is one", full, 1000, bookCode(impl.ErrNone))
		checkScrapped(t, "so many in Scrap, and it is nowhere", full, 77, bookCode(impl.ErrNone))
	}
	checkScrapped(t, "one too many in Scrap", withScrap(b, runOf(1000, 201)...), 12, bookCode(impl.ErrMany))
	checkScrapped(t, "one too many in Scrap, and it is nowhere", withScrap(b, runOf(1000, 201)...), 77, bookCode(impl.ErrMany))
}

// All wafers of a lot go, one by one, until it has none: the lot stays, and does nothing any more.
func TestScrapWaferUntilNoneIsLeft(t *testing.T) {
	b := lotBook(2, doneAt(lot(3, runOf(1, 25)...), 9))
	order := rand.New(rand.NewSource(246)).Perm(25)
	var gone []int64
	for _, i := range order {
		wafer := int64(i) + 1
		made := impl.ScrapWafer(b, wafer)
		checkMadeBook(t, "one more", made, scrapWaferWant(b, wafer))
		b, gone = made.Book, append(gone, wafer)
		checkFound(t, "it is in Scrap", b, wafer, value(0))
		checkScrapped(t, "it is in Scrap already", b, wafer, bookCode(impl.ErrNone))
	}
	if want := withScrap(lotBook(2, doneAt(lot(3), 9)), gone...); !sameLotBook(b, want) {
		t.Errorf("%v is left, want %v", b, want)
	}
	checkStepped(t, "without wafers", b, 3, 10, bookCode(impl.ErrTaken))
	checkStarted(t, "a wafer in Scrap", b, 5, numbers(7), bookCode(impl.ErrTaken))
	checkLineage(t, "without wafers", b, 3, ints(3))
}

func TestFindWaferByHand(t *testing.T) {
	b := plainBook()
	where := map[int64]int64{11: 7, 12: 7, 13: 7, 15: 9, 14: 9, 16: 5, 19: 4, 18: 0, 17: 0}
	for _, wafer := range append(lotEnds(), runOf(8, 100)...) {
		want := valueCode(impl.ErrNone)
		if id, ok := where[wafer]; ok {
			want = value(id)
		}
		checkFound(t, brief(wafer), b, wafer, want)
		checkFound(t, "no lots, no Scrap", lotBook(1), wafer, valueCode(impl.ErrNone))
		checkFound(t, "a fault", withScrap(b, 0), wafer, valueCode(impl.ErrRange))
	}
	checkFound(t, "the least wafer of the greatest lot", lotBook(1, lot(1000000, 1)), 1, value(1000000))
	checkFound(t, "the greatest wafer", withScrap(lotBook(1), 1000000), 1000000, value(0))
	full := fullLotAsk().b
	for _, wafer := range []int64{1, 25, 26, 750, 751, 999800, 999801, 1000000} {
		checkFound(t, "of as much as there may be", full, wafer, findWaferWant(full, wafer))
	}
}

// Every wafer that stands in a book is found where it stands, and no other one.
func TestFindWaferOfSomeBooks(t *testing.T) {
	chance := rand.New(rand.NewSource(247))
	for range 100 {
		b := someBook(chance)
		standing := standingWant(b)
		for range 60 {
			wafer := append(slices.Clone(standing), 1+chance.Int63n(1600))[chance.Intn(len(standing)+1)]
			got, stands := impl.FindWafer(b, wafer), slices.Contains(standing, wafer)
			checkFound(t, "some", b, wafer, got)
			at := lotAtWant(b.Lots, got.Value)
			inLot, inScrap := at >= 0 && slices.Contains(b.Lots[max(at, 0)].Wafers, wafer), got.Value == 0 && slices.Contains(b.Scrap, wafer)
			if stands != (got.Code == impl.OK) || stands != (inLot || inScrap) {
				t.Fatalf("%d of %s is found as %v", wafer, brief(b), got)
			}
		}
	}
}
