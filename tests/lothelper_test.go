package tests

import (
	"math/rand"
	"slices"
	"testing"

	"loop.example/g00057/impl"
)

func lot(id int64, wafers ...int64) impl.Lot {
	return impl.Lot{Id: id, Wafers: wafers}
}

func childOf(parent int64, l impl.Lot) impl.Lot {
	l.Parent = parent
	return l
}

func heldLot(l impl.Lot) impl.Lot {
	l.Held = true
	return l
}

func doneAt(l impl.Lot, times ...int64) impl.Lot {
	l.Done = times
	return l
}

func timeWindow(from int64, to int64, most int64) impl.Window {
	return impl.Window{From: from, To: to, Most: most}
}

// lotBook has so many steps, and no windows and nothing in Scrap.
func lotBook(steps int64, lots ...impl.Lot) impl.LotBook {
	return impl.LotBook{Steps: steps, Lots: lots}
}

func withWindows(b impl.LotBook, windows ...impl.Window) impl.LotBook {
	b.Windows = windows
	return b
}

func withScrap(b impl.LotBook, wafers ...int64) impl.LotBook {
	b.Scrap = wafers
	return b
}

// plainBook has no fault: 9 is split from 7, and 5 from 9; 3 has no wafers, 4 is Held.
func plainBook() impl.LotBook {
	b := lotBook(5, doneAt(lot(7, 11, 12, 13), 100, 104), childOf(7, doneAt(lot(9, 15, 14), 100, 106)), lot(3), childOf(9, lot(5, 16)), heldLot(lot(4, 19)))
	return withScrap(withWindows(b, timeWindow(0, 2, 10), timeWindow(1, 3, 20), timeWindow(0, 4, 30)), 18, 17)
}

// runOf are so many numbers, one behind the other.
func runOf(from int64, n int) []int64 {
	list := make([]int64, n)
	for i := range list {
		list[i] = from + int64(i)
	}
	return list
}

// manyLots have the ids 1, 2, .., and one wafer each: 5001, 5002, ..
func manyLots(n int) []impl.Lot {
	var list []impl.Lot
	for _, id := range runOf(1, n) {
		list = append(list, lot(id, 5000+id))
	}
	return list
}

func copyLots(list []impl.Lot) []impl.Lot {
	list = slices.Clone(list)
	for i, l := range list {
		list[i].Wafers, list[i].Done = slices.Clone(l.Wafers), slices.Clone(l.Done)
	}
	return list
}

func copyBook(b impl.LotBook) impl.LotBook {
	return impl.LotBook{Steps: b.Steps, Windows: slices.Clone(b.Windows), Lots: copyLots(b.Lots), Scrap: slices.Clone(b.Scrap)}
}

// bookWith is the answer of a call that turns one thing of a book; the book that is handed in stays.
func bookWith(b impl.LotBook, turn func(b *impl.LotBook)) impl.BookResult {
	b = copyBook(b)
	turn(&b)
	return impl.BookResult{Book: b}
}

func bookCode(code int64) impl.BookResult {
	return impl.BookResult{Code: code}
}

func bookCodeAt(code int64, at int64) impl.BookResult {
	return impl.BookResult{Code: code, At: at}
}

func sameLot(a impl.Lot, b impl.Lot) bool {
	return a.Id == b.Id && a.Parent == b.Parent && a.Held == b.Held && slices.Equal(a.Wafers, b.Wafers) && slices.Equal(a.Done, b.Done)
}

func sameLotBook(a impl.LotBook, b impl.LotBook) bool {
	return a.Steps == b.Steps && slices.Equal(a.Windows, b.Windows) && slices.EqualFunc(a.Lots, b.Lots, sameLot) && slices.Equal(a.Scrap, b.Scrap)
}

func sameMadeBook(a impl.BookResult, b impl.BookResult) bool {
	return a.Code == b.Code && a.At == b.At && sameLotBook(a.Book, b.Book)
}

func checkMadeBook(t *testing.T, what string, got impl.BookResult, want impl.BookResult) {
	t.Helper()
	if !sameMadeBook(got, want) {
		t.Errorf("%s: %s, want %s", what, brief(got), brief(want))
	}
}

// The following hold a call against the plain reckoning, too.
func checkStarted(t *testing.T, what string, b impl.LotBook, id int64, wafers []int64, want impl.BookResult) {
	t.Helper()
	checkMadeBook(t, what, impl.StartLot(b, id, wafers), want)
	checkMadeBook(t, what+", by the plain reckoning", startLotWant(b, id, wafers), want)
}

func checkSplit(t *testing.T, what string, b impl.LotBook, id int64, to int64, wafers []int64, want impl.BookResult) {
	t.Helper()
	checkMadeBook(t, what, impl.SplitLot(b, id, to, wafers), want)
	checkMadeBook(t, what+", by the plain reckoning", splitLotWant(b, id, to, wafers), want)
}

func checkMerged(t *testing.T, what string, b impl.LotBook, id int64, other int64, want impl.BookResult) {
	t.Helper()
	checkMadeBook(t, what, impl.MergeLots(b, id, other), want)
	checkMadeBook(t, what+", by the plain reckoning", mergeLotsWant(b, id, other), want)
}

func checkHeld(t *testing.T, what string, b impl.LotBook, id int64, held bool, want impl.BookResult) {
	t.Helper()
	checkMadeBook(t, what, impl.HoldLot(b, id, held), want)
	checkMadeBook(t, what+", by the plain reckoning", holdLotWant(b, id, held), want)
}

func checkScrapped(t *testing.T, what string, b impl.LotBook, wafer int64, want impl.BookResult) {
	t.Helper()
	checkMadeBook(t, what, impl.ScrapWafer(b, wafer), want)
	checkMadeBook(t, what+", by the plain reckoning", scrapWaferWant(b, wafer), want)
}

func checkStepped(t *testing.T, what string, b impl.LotBook, id int64, now int64, want impl.BookResult) {
	t.Helper()
	checkMadeBook(t, what, impl.StepLot(b, id, now), want)
	checkMadeBook(t, what+", by the plain reckoning", stepLotWant(b, id, now), want)
}

func checkLeft(t *testing.T, what string, b impl.LotBook, id int64, now int64, want impl.ShapeInt) {
	t.Helper()
	checkValue(t, what, impl.WindowLeft(b, id, now), want)
	checkValue(t, what+", by the plain reckoning", windowLeftWant(b, id, now), want)
}

func checkFound(t *testing.T, what string, b impl.LotBook, wafer int64, want impl.ShapeInt) {
	t.Helper()
	checkValue(t, what, impl.FindWafer(b, wafer), want)
	checkValue(t, what+", by the plain reckoning", findWaferWant(b, wafer), want)
}

func checkLineage(t *testing.T, what string, b impl.LotBook, id int64, want impl.IntsResult) {
	t.Helper()
	checkInts(t, what, impl.LineageOf(b, id), want)
	checkInts(t, what+", by the plain reckoning", lineageWant(b, id), want)
}

// checkBookFault asks every call, too: whatever else is wrong beside it, the fault of the book is told, and nothing more.
func checkBookFault(t *testing.T, what string, b impl.LotBook, code int64) {
	t.Helper()
	if got, want := impl.BookFault(b), bookFaultWant(b); got != code || want != code {
		t.Errorf("%s, %s: the fault is %d, want %d (by the plain reckoning %d)", what, brief(b), got, code, want)
	}
	if code == impl.OK {
		checkFound(t, what, b, 0, valueCode(impl.ErrNone))
		checkStarted(t, what, b, 0, nil, startLotWant(b, 0, nil))
		return
	}
	asks := []lotAsk{
		{},
		{id: 7, other: 9, wafers: numbers(12), wafer: 12, now: 110},
		{id: 9, other: 77, wafers: numbers(14, 99, 15), wafer: 17, now: latest},
		{id: 77, other: 7, wafers: longer(numbers(0), 26), wafer: 77, now: latest + 1},
		{id: leastInt, other: leastInt, wafers: numbers(77), wafer: greatestInt, now: leastInt},
	}
	for _, q := range asks {
		q.b = b
		for _, c := range lotCalls() {
			got := c.call(q)
			if got.code() != code || got.made.At != 0 || !got.zeroed() {
				t.Errorf("%s: %s answers %s, want the code %d", what, c.name, brief(got), code)
			}
		}
	}
}

func lotAtWant(lots []impl.Lot, id int64) int {
	return slices.IndexFunc(lots, func(l impl.Lot) bool { return l.Id == id })
}

func lotFaultWant(lots []impl.Lot, place int, steps int64) int64 {
	l, ahead := lots[place], lots[:place]
	var codes faults
	codes.wrong(impl.ErrForm, l.Id < 1, l.Id >= 1000001, lotAtWant(ahead, l.Id) >= 0)
	codes.wrong(impl.ErrNone, l.Parent != 0 && lotAtWant(ahead, l.Parent) < 0)
	codes.wrong(impl.ErrMany, len(l.Wafers) >= 26, int64(len(l.Done)) > steps)
	least := int64(leastInt)
	for _, time := range l.Done {
		codes.wrong(impl.ErrRange, time < 0, time >= 1000000001)
		codes.wrong(impl.ErrForm, time < least)
		least = time
	}
	return codes.first()
}

// standingWant are all wafers, in the order in which they stand in the book.
func standingWant(b impl.LotBook) []int64 {
	var list []int64
	for _, l := range b.Lots {
		list = append(list, l.Wafers...)
	}
	return append(list, b.Scrap...)
}

func bookFaultWant(b impl.LotBook) int64 {
	var codes faults
	codes.wrong(impl.ErrRange, b.Steps <= 0, b.Steps >= 41)
	codes.wrong(impl.ErrMany, len(b.Windows) >= 11, len(b.Lots) >= 31)
	if len(codes) > 0 {
		return codes.first()
	}
	for _, w := range b.Windows {
		codes.wrong(impl.ErrForm, w.From <= -1, w.From >= w.To, w.To >= b.Steps)
		codes.wrong(impl.ErrRange, w.Most <= -1, w.Most >= 1000000001)
	}
	for place := range b.Lots {
		codes.found(lotFaultWant(b.Lots, place, b.Steps))
	}
	codes.wrong(impl.ErrMany, len(b.Scrap) >= 201)
	if len(codes) > 0 {
		return codes.first()
	}
	list := standingWant(b)
	for i, wafer := range list {
		codes.wrong(impl.ErrRange, wafer <= 0, wafer >= 1000001)
		codes.wrong(impl.ErrTaken, slices.Contains(list[:i], wafer))
	}
	return codes.first()
}

// lotAskFaultWant asks the book, and whether lots have these ids.
func lotAskFaultWant(b impl.LotBook, ids ...int64) int64 {
	var codes faults
	codes.found(bookFaultWant(b))
	for _, id := range ids {
		codes.wrong(impl.ErrNone, lotAtWant(b.Lots, id) < 0)
	}
	return codes.first()
}

func startLotWant(b impl.LotBook, id int64, wafers []int64) impl.BookResult {
	if code := bookFaultWant(b); code != impl.OK {
		return bookCode(code)
	}
	var codes faults
	codes.wrong(impl.ErrMany, len(b.Lots) == 30, len(wafers) >= 26)
	codes.wrong(impl.ErrForm, id < 1, id > 1000000, lotAtWant(b.Lots, id) >= 0)
	codes.wrong(impl.ErrNone, len(wafers) == 0)
	if len(codes) > 0 {
		return bookCode(codes.first())
	}
	list := append(standingWant(b), wafers...)
	for i, wafer := range list {
		codes.wrong(impl.ErrRange, wafer < 1, wafer > 1000000)
		codes.wrong(impl.ErrTaken, slices.Contains(list[:i], wafer))
	}
	if len(codes) > 0 {
		return bookCode(codes.first())
	}
	return bookWith(b, func(b *impl.LotBook) { b.Lots = append(b.Lots, lot(id, slices.Clone(wafers)...)) })
}

func splitLotWant(b impl.LotBook, id int64, to int64, wafers []int64) impl.BookResult {
	if code := lotAskFaultWant(b, id); code != impl.OK {
		return bookCode(code)
	}
	var codes faults
	codes.wrong(impl.ErrMany, len(b.Lots) == 30)
	codes.wrong(impl.ErrForm, to < 1, to > 1000000, lotAtWant(b.Lots, to) >= 0)
	codes.wrong(impl.ErrNone, len(wafers) == 0)
	if len(codes) > 0 {
		return bookCode(codes.first())
	}
	// Whatever is asked for goes out, one by one: what is not there any more was, or was not.
	from := lotAtWant(b.Lots, id)
	left := slices.Clone(b.Lots[from].Wafers)
	for i, wafer := range wafers {
		at := slices.Index(left, wafer)
		if at < 0 && !slices.Contains(b.Lots[from].Wafers, wafer) {
			return bookCodeAt(impl.ErrNone, int64(i))
		}
		if at < 0 {
			return bookCodeAt(impl.ErrTaken, int64(i))
		}
		left = slices.Delete(left, at, at+1)
	}
	if len(left) == 0 {
		return bookCode(impl.ErrZero)
	}
	return bookWith(b, func(b *impl.LotBook) {
		b.Lots[from].Wafers = left
		l := b.Lots[from]
		b.Lots = append(b.Lots, impl.Lot{Id: to, Parent: id, Wafers: slices.Clone(wafers), Held: l.Held, Done: slices.Clone(l.Done)})
	})
}

func mergeLotsWant(b impl.LotBook, id int64, other int64) impl.BookResult {
	if code := lotAskFaultWant(b, id, other); code != impl.OK {
		return bookCode(code)
	}
	at, from := lotAtWant(b.Lots, id), lotAtWant(b.Lots, other)
	l, o := b.Lots[at], b.Lots[from]
	all := slices.Concat(l.Wafers, o.Wafers)
	var codes faults
	codes.wrong(impl.ErrForm, at == from)
	codes.wrong(impl.ErrTaken, l.Held, o.Held)
	codes.wrong(impl.ErrRange, len(l.Done) != len(o.Done))
	codes.wrong(impl.ErrMany, len(all) >= 26)
	if len(codes) > 0 {
		return bookCode(codes.first())
	}
	return bookWith(b, func(b *impl.LotBook) {
		b.Lots[at].Wafers, b.Lots[from].Wafers = all, nil
		for i := range l.Done {
			if o.Done[i] < l.Done[i] {
				b.Lots[at].Done[i] = o.Done[i]
			}
		}
	})
}

func holdLotWant(b impl.LotBook, id int64, held bool) impl.BookResult {
	if code := lotAskFaultWant(b, id); code != impl.OK {
		return bookCode(code)
	}
	return bookWith(b, func(b *impl.LotBook) { b.Lots[lotAtWant(b.Lots, id)].Held = held })
}

func scrapWaferWant(b impl.LotBook, wafer int64) impl.BookResult {
	if code := bookFaultWant(b); code != impl.OK {
		return bookCode(code)
	}
	has := func(l impl.Lot) bool { return slices.Contains(l.Wafers, wafer) }
	at := slices.IndexFunc(b.Lots, has)
	var codes faults
	codes.wrong(impl.ErrNone, at < 0)
	codes.wrong(impl.ErrMany, len(b.Scrap) == 200)
	if len(codes) > 0 {
		return bookCode(codes.first())
	}
	return bookWith(b, func(b *impl.LotBook) {
		wafers := b.Lots[at].Wafers
		place := slices.Index(wafers, wafer)
		b.Lots[at].Wafers, b.Scrap = slices.Delete(wafers, place, place+1), append(b.Scrap, wafer)
	})
}

func stepLotWant(b impl.LotBook, id int64, now int64) impl.BookResult {
	if code := lotAskFaultWant(b, id); code != impl.OK {
		return bookCode(code)
	}
	at := lotAtWant(b.Lots, id)
	l := b.Lots[at]
	next := int64(len(l.Done))
	var codes faults
	codes.wrong(impl.ErrTaken, l.Held, len(l.Wafers) == 0)
	codes.wrong(impl.ErrRange, next == b.Steps, now < 0, now > latest)
	codes.wrong(impl.ErrForm, anyBeyond(l.Done, 0, now))
	if len(codes) > 0 {
		return bookCode(codes.first())
	}
	for i, w := range b.Windows {
		if w.To == next && l.Done[w.From]+w.Most < now {
			return impl.BookResult{Code: impl.ErrText, At: int64(i), Book: copyBook(b)}
		}
	}
	return bookWith(b, func(b *impl.LotBook) { b.Lots[at].Done = append(b.Lots[at].Done, now) })
}

func windowLeftWant(b impl.LotBook, id int64, now int64) impl.ShapeInt {
	if code := lotAskFaultWant(b, id); code != impl.OK {
		return valueCode(code)
	}
	if now < 0 || now > latest {
		return valueCode(impl.ErrRange)
	}
	var ends []int64
	done := b.Lots[lotAtWant(b.Lots, id)].Done
	for _, w := range b.Windows {
		if int(w.From) < len(done) && int(w.To) >= len(done) {
			ends = append(ends, done[w.From]+w.Most)
		}
	}
	if len(ends) == 0 {
		return valueCode(impl.ErrZero)
	}
	return value(slices.Min(ends) - now)
}

func findWaferWant(b impl.LotBook, wafer int64) impl.ShapeInt {
	if code := bookFaultWant(b); code != impl.OK {
		return valueCode(code)
	}
	for _, l := range append(slices.Clone(b.Lots), lot(0, b.Scrap...)) {
		if slices.Contains(l.Wafers, wafer) {
			return value(l.Id)
		}
	}
	return valueCode(impl.ErrNone)
}

// lineageWant looks back over the lots from the last one: a parent stands ahead of those that were split from it.
func lineageWant(b impl.LotBook, id int64) impl.IntsResult {
	if code := lotAskFaultWant(b, id); code != impl.OK {
		return intsCode(code)
	}
	var line []int64
	for _, l := range slices.Backward(b.Lots) {
		if l.Id == id {
			line, id = append(line, id), l.Parent
		}
	}
	return ints(line...)
}

// lotEnds stand at and just beyond every bound that chapter 21 names, and at the ends of int64.
func lotEnds() []int64 {
	list := numbers(0, 1, 2, 3, 4, 5, 6, 7, 9, 10, 11, 24, 25, 26, 29, 30, 31, 39, 40, 41, 199, 200, 201, 999999, 1000000, 1000001, latest-1, latest, latest+1, 1<<32, wide, 1<<62, greatestInt-1, greatestInt)
	for _, n := range list {
		list = append(list, -n)
	}
	return append(list, leastInt)
}

// someTimes do not fall; they are near to one another.
func someTimes(chance *rand.Rand, n int) []int64 {
	var list []int64
	time := numbers(0, 50, latest-2000)[chance.Intn(3)]
	for range n {
		time += chance.Int63n(numbers(1, 4, 40)[chance.Intn(3)])
		list = append(list, time)
	}
	return list
}

func someTimeWindows(chance *rand.Rand, steps int64, n int) []impl.Window {
	var list []impl.Window
	for range n {
		if steps > 1 {
			to := 1 + chance.Int63n(steps-1)
			list = append(list, timeWindow(chance.Int63n(to), to, chance.Int63n(numbers(8, 80, latest+1)[chance.Intn(3)])))
		}
	}
	return list
}

// someBook has no fault; its ids are 1 to 60, its wafers 1 to 1500.
func someBook(chance *rand.Rand) impl.LotBook {
	b := lotBook(1 + chance.Int63n(numbers(3, 8, 40)[chance.Intn(3)]))
	b.Windows = someTimeWindows(chance, b.Steps, chance.Intn(11))
	wafers := chance.Perm(1500)
	take := func(n int) []int64 {
		list := make([]int64, n)
		for i := range list {
			list[i], wafers = int64(wafers[0])+1, wafers[1:]
		}
		return list
	}
	steps, most := chance.Intn(int(b.Steps)+1), numbersOf(3, 13, 26)[chance.Intn(3)]
	for _, id := range chance.Perm(60)[:numbersOf(chance.Intn(5), chance.Intn(31), 29+chance.Intn(2))[chance.Intn(3)]] {
		l := lot(int64(id)+1, take(chance.Intn(most))...)
		if n := len(b.Lots); n > 0 && chance.Intn(2) == 0 {
			l.Parent = b.Lots[chance.Intn(n)].Id
		}
		l.Held = chance.Intn(5) == 0
		l.Done = someTimes(chance, min(int(b.Steps), max(0, steps+numbersOf(0, 0, 0, -1, 1)[chance.Intn(5)])))
		b.Lots = append(b.Lots, l)
	}
	return withScrap(b, take(numbersOf(0, chance.Intn(6), 199+chance.Intn(2))[chance.Intn(3)])...)
}

// spoiledBook has one thing or two turned, wherever they stand.
func spoiledBook(chance *rand.Rand, b impl.LotBook) impl.LotBook {
	b, ends := copyBook(b), lotEnds()
	for range 1 + chance.Intn(2) {
		end := ends[chance.Intn(len(ends))]
		b.Lots = append(b.Lots, lot(61+chance.Int63n(1000)))
		l, other := &b.Lots[chance.Intn(len(b.Lots))], b.Lots[chance.Intn(len(b.Lots))]
		switch chance.Intn(12) {
		case 0:
			b.Steps = end
		case 1:
			b.Windows = append(b.Windows, timeWindow(0, b.Steps-1+chance.Int63n(2), 5))
		case 2:
			b.Windows = append(b.Windows, timeWindow(0, 1, end))
		case 3:
			b.Windows = longer(append(b.Windows, timeWindow(0, 1, 5)), 10+chance.Intn(2))
		case 4:
			l.Id = numbers(end, other.Id)[chance.Intn(2)]
		case 5:
			l.Parent = numbers(end, other.Id, l.Id)[chance.Intn(3)]
		case 6:
			l.Wafers = append(l.Wafers, append(slices.Clone(other.Wafers), end)[0])
		case 7:
			l.Wafers = append(l.Wafers, runOf(2000+chance.Int63n(5000), 24+chance.Intn(3))...)
		case 8:
			l.Done = append(l.Done, end)
		case 9:
			l.Done = longer(append(l.Done, latest), int(b.Steps%64+64)%64+chance.Intn(2))
		case 10:
			b.Scrap = append(b.Scrap, append(slices.Clone(l.Wafers), end)[0])
		case 11:
			b.Scrap = append(b.Scrap, runOf(8000, max(0, 200-len(b.Scrap))+chance.Intn(2))...)
		}
	}
	return b
}
