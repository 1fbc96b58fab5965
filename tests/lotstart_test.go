package tests

import (
	"math/rand"
	"slices"
	"testing"

	"loop.example/g00057/impl"
)

// withLot is the answer with one lot more.
func withLot(b impl.LotBook, l impl.Lot) impl.BookResult {
	return bookWith(b, func(b *impl.LotBook) { b.Lots = append(b.Lots, l) })
}

func TestStartLotByHand(t *testing.T) {
	plain := plainBook()
	checkStarted(t, "the first lot", lotBook(3), 7, numbers(1, 2, 3), impl.BookResult{Book: lotBook(3, lot(7, 1, 2, 3))})
	checkStarted(t, "behind the others", plain, 8, numbers(30, 20), withLot(plain, lot(8, 30, 20)))
	checkStarted(t, "an id below the others", plain, 1, numbers(30), withLot(plain, lot(1, 30)))
	checkStarted(t, "an id that is a wafer's", plain, 11, numbers(30), withLot(plain, lot(11, 30)))
	checkStarted(t, "a wafer that is a lot's id", plain, 8, numbers(7, 9, 8), withLot(plain, lot(8, 7, 9, 8)))
	checkStarted(t, "in a falling order", plain, 8, numbers(30, 29, 28), withLot(plain, lot(8, 30, 29, 28)))
	windows := withWindows(lotBook(2), timeWindow(0, 1, 0))
	checkStarted(t, "with a window", windows, 5, numbers(1), withLot(windows, lot(5, 1)))
}

func TestStartLotAtEachBound(t *testing.T) {
	plain := plainBook()
	for _, n := range numbersOf(24, 25, 26) {
		want := bookCode(impl.ErrMany)
		if n <= 25 {
			want = withLot(plain, lot(8, runOf(30, n)...))
		}
		checkStarted(t, "so many wafers", plain, 8, runOf(30, n), want)
	}
	checkStarted(t, "far too many wafers", plain, 8, make([]int64, 100000), bookCode(impl.ErrMany))
	for _, n := range numbersOf(28, 29, 30) {
		b := lotBook(3, manyLots(n)...)
		want := bookCode(impl.ErrMany)
		if n < 30 {
			want = withLot(b, lot(77, 1))
		}
		checkStarted(t, "so many lots", b, 77, numbers(1), want)
	}
	empty := lotBook(3)
	for _, id := range runOf(1, 30) {
		empty.Lots = append(empty.Lots, lot(id))
	}
	checkStarted(t, "as many lots as may be, without wafers", empty, 77, numbers(1), bookCode(impl.ErrMany))
	for _, l := range plain.Lots {
		checkStarted(t, "a lot has the id", plain, l.Id, numbers(30), bookCode(impl.ErrForm))
	}
	for _, none := range [][]int64{nil, {}} {
		checkStarted(t, "no wafers", plain, 8, none, bookCode(impl.ErrNone))
	}
	for _, wafer := range standingWant(plain) {
		checkStarted(t, "it stands in the book", plain, 8, numbers(wafer), bookCode(impl.ErrTaken))
		checkStarted(t, "the last stands in the book", plain, 8, numbers(30, 31, wafer), bookCode(impl.ErrTaken))
		checkStarted(t, "the first stands in the book, the second is beyond", plain, 8, numbers(wafer, 0), bookCode(impl.ErrTaken))
		checkStarted(t, "the first is beyond, the second stands in the book", plain, 8, numbers(0, wafer), bookCode(impl.ErrRange))
	}
	checkStarted(t, "twice", plain, 8, numbers(30, 30), bookCode(impl.ErrTaken))
	checkStarted(t, "first and last are one", plain, 8, append(runOf(30, 24), 30), bookCode(impl.ErrTaken))
	checkStarted(t, "twice, then beyond", plain, 8, numbers(30, 30, 0), bookCode(impl.ErrTaken))
	checkStarted(t, "beyond, then twice", plain, 8, numbers(30, 0, 30), bookCode(impl.ErrRange))
	checkStarted(t, "beyond twice", plain, 8, numbers(0, 0), bookCode(impl.ErrRange))
}

func TestStartLotAtEveryEnd(t *testing.T) {
	b := lotBook(3, lot(7, 25))
	for _, n := range lotEnds() {
		want := withLot(b, lot(n, 8))
		if n < 1 || n > 1000000 || n == 7 {
			want = bookCode(impl.ErrForm)
		}
		checkStarted(t, "an id", b, n, numbers(8), want)
		want = withLot(b, lot(8, 77, n))
		if n < 1 || n > 1000000 {
			want = bookCode(impl.ErrRange)
		} else if n == 25 {
			want = bookCode(impl.ErrTaken)
		}
		checkStarted(t, "a wafer", b, 8, numbers(77, n), want)
	}
}

// codedBook, codedId and codedWafers go with the code that they have where all else is right.
type codedBook struct {
	code int64
	book impl.LotBook
}
type codedId struct {
	code int64
	id   int64
}
type codedWafers struct {
	code   int64
	at     int64
	wafers []int64
}

func firstCode(codes ...int64) int64 {
	var found faults
	for _, code := range codes {
		found.found(code)
	}
	return found.first()
}

// All that may be wrong, together: it is told in the order of the document.
func TestOrderOfStartLot(t *testing.T) {
	full, wrong := plainBook(), plainBook()
	full.Lots = append(full.Lots, manyLots(62)[37:]...)
	wrong.Lots = append(wrong.Lots, lot(3))
	met := map[int64]int{}
	for _, fault := range []codedBook{{impl.OK, plainBook()}, {impl.OK, full}, {impl.ErrRange, lotBook(0)}, {impl.ErrForm, wrong}} {
		many := impl.ErrMany * bit(len(fault.book.Lots) == 30)
		for _, id := range []codedId{{impl.OK, 8}, {impl.ErrForm, 0}, {impl.ErrForm, 1000001}, {impl.ErrForm, 7}} {
			for _, list := range []codedWafers{
				{impl.OK, 0, numbers(30, 31)}, {impl.ErrNone, 0, nil}, {impl.ErrMany, 0, runOf(30, 26)}, {impl.ErrMany, 0, make([]int64, 26)},
				{impl.ErrRange, 0, numbers(30, 0, 30)}, {impl.ErrTaken, 0, numbers(30, 17, 0)}, {impl.ErrTaken, 0, numbers(30, 30)},
			} {
				code := firstCode(fault.code, many, impl.ErrMany*bit(list.code == impl.ErrMany), id.code, list.code)
				want := bookCode(code)
				if code == impl.OK {
					want = withLot(fault.book, lot(id.id, list.wafers...))
				}
				checkStarted(t, "several", fault.book, id.id, list.wafers, want)
				met[code]++
			}
		}
	}
	if met[impl.OK] != 1 || met[impl.ErrMany] < 20 || met[impl.ErrNone] != 1 {
		t.Errorf("the codes are %v", met)
	}
}

// Lots are started until nothing more may be: each has what was asked, and those ahead stay.
func TestStartLotUntilTheBookIsFull(t *testing.T) {
	b, want := lotBook(1), lotBook(1)
	for i := range int64(30) {
		wafers := runOf(1+25*i, 25)
		want.Lots = append(want.Lots, lot(1000000-i, wafers...))
		made := impl.StartLot(b, 1000000-i, wafers)
		checkMadeBook(t, "one more", made, impl.BookResult{Book: want})
		checkBookFault(t, "one more", made.Book, impl.OK)
		b = made.Book
	}
	checkStarted(t, "the 31st", b, 5, numbers(999), bookCode(impl.ErrMany))
}

func TestStartLotInSomeBooks(t *testing.T) {
	chance, met := rand.New(rand.NewSource(243)), map[int64]int{}
	for range 3000 {
		b := someBook(chance)
		wafers := runOf(1495+chance.Int63n(5), chance.Intn(numbersOf(4, 27)[chance.Intn(2)]))
		if chance.Intn(4) == 0 {
			wafers = append(wafers, numbers(0, 1000001, 1+chance.Int63n(1500))[chance.Intn(3)])
		}
		id := chance.Int63n(72)
		want := startLotWant(b, id, wafers)
		checkStarted(t, "some", b, id, wafers, want)
		met[want.Code]++
		if want.Code == impl.OK && impl.FindWafer(want.Book, slices.Max(wafers)) != value(id) {
			t.Errorf("the wafers of the new lot %d are elsewhere", id)
		}
	}
	for _, code := range numbers(impl.OK, impl.ErrForm, impl.ErrMany, impl.ErrRange, impl.ErrNone, impl.ErrTaken) {
		if met[code] < 50 {
			t.Errorf("the codes are %v", met)
		}
	}
}
