package tests

import (
	"math/rand"
	"slices"
	"testing"

	"loop.example/g00057/impl"
)

// lotAsk has what the calls of chapter 21 are given; each takes what it needs.
type lotAsk struct {
	b      impl.LotBook
	id     int64
	other  int64
	wafers []int64
	wafer  int64
	held   bool
	now    int64
}

// lotAnswer has what a call answers, and else nothing.
type lotAnswer struct {
	value impl.ShapeInt
	made  impl.BookResult
	line  impl.IntsResult
}

type lotCall = callLike[lotAsk, lotAnswer]

// lotCalls stand beside what the plain reckoning answers.
func lotCalls() []lotCall {
	return []lotCall{
		{"BookFault",
			func(q lotAsk) lotAnswer { return lotAnswer{value: valueCode(impl.BookFault(q.b))} },
			func(q lotAsk) lotAnswer { return lotAnswer{value: valueCode(bookFaultWant(q.b))} }},
		{"StartLot",
			func(q lotAsk) lotAnswer { return lotAnswer{made: impl.StartLot(q.b, q.other, q.wafers)} },
			func(q lotAsk) lotAnswer { return lotAnswer{made: startLotWant(q.b, q.other, q.wafers)} }},
		{"SplitLot",
			func(q lotAsk) lotAnswer { return lotAnswer{made: impl.SplitLot(q.b, q.id, q.other, q.wafers)} },
			func(q lotAsk) lotAnswer { return lotAnswer{made: splitLotWant(q.b, q.id, q.other, q.wafers)} }},
		{"MergeLots",
			func(q lotAsk) lotAnswer { return lotAnswer{made: impl.MergeLots(q.b, q.id, q.other)} },
			func(q lotAsk) lotAnswer { return lotAnswer{made: mergeLotsWant(q.b, q.id, q.other)} }},
		{"HoldLot",
			func(q lotAsk) lotAnswer { return lotAnswer{made: impl.HoldLot(q.b, q.id, q.held)} },
			func(q lotAsk) lotAnswer { return lotAnswer{made: holdLotWant(q.b, q.id, q.held)} }},
		{"ScrapWafer",
			func(q lotAsk) lotAnswer { return lotAnswer{made: impl.ScrapWafer(q.b, q.wafer)} },
			func(q lotAsk) lotAnswer { return lotAnswer{made: scrapWaferWant(q.b, q.wafer)} }},
		{"StepLot",
			func(q lotAsk) lotAnswer { return lotAnswer{made: impl.StepLot(q.b, q.id, q.now)} },
			func(q lotAsk) lotAnswer { return lotAnswer{made: stepLotWant(q.b, q.id, q.now)} }},
		{"WindowLeft",
			func(q lotAsk) lotAnswer { return lotAnswer{value: impl.WindowLeft(q.b, q.id, q.now)} },
			func(q lotAsk) lotAnswer { return lotAnswer{value: windowLeftWant(q.b, q.id, q.now)} }},
		{"FindWafer",
			func(q lotAsk) lotAnswer { return lotAnswer{value: impl.FindWafer(q.b, q.wafer)} },
			func(q lotAsk) lotAnswer { return lotAnswer{value: findWaferWant(q.b, q.wafer)} }},
		{"LineageOf",
			func(q lotAsk) lotAnswer { return lotAnswer{line: impl.LineageOf(q.b, q.id)} },
			func(q lotAsk) lotAnswer { return lotAnswer{line: lineageWant(q.b, q.id)} }},
	}
}

// lotMaps say what becomes of each kind of list.
type lotMaps struct {
	ofNumbers func([]int64) []int64
	ofWindows func([]impl.Window) []impl.Window
	ofLots    func([]impl.Lot) []impl.Lot
}

// mapped has the lists of an ask as the functions answer them; those of its lots come behind the list of lots.
func (q lotAsk) mapped(of lotMaps) lotAsk {
	q.wafers, q.b.Scrap, q.b.Windows, q.b.Lots = of.ofNumbers(q.wafers), of.ofNumbers(q.b.Scrap), of.ofWindows(q.b.Windows), of.ofLots(q.b.Lots)
	for i, l := range q.b.Lots {
		q.b.Lots[i].Wafers, q.b.Lots[i].Done = of.ofNumbers(l.Wafers), of.ofNumbers(l.Done)
	}
	return q
}

func (q lotAsk) copied() lotAsk {
	return q.mapped(lotMaps{slices.Clone[[]int64], slices.Clone[[]impl.Window], slices.Clone[[]impl.Lot]})
}

// roomed has room behind each list, and each within it, which no call may write into.
func (q lotAsk) roomed() lotAsk {
	return q.mapped(lotMaps{roomFor(int64(77)), roomFor(timeWindow(77, 78, 79)), roomFor(lot(77))})
}

// wholly has what lies behind the ends of the lists, too; it is a copy.
func (q lotAsk) wholly() lotAsk {
	return q.mapped(lotMaps{wholeCopy[int64], wholeCopy[impl.Window], wholeCopy[impl.Lot]})
}

func (q lotAsk) same(p lotAsk) bool {
	return sameLotBook(q.b, p.b) && q.id == p.id && q.other == p.other && slices.Equal(q.wafers, p.wafers) && q.wafer == p.wafer && q.held == p.held && q.now == p.now
}

// listsOfBook has all its lists of numbers.
func listsOfBook(b impl.LotBook) [][]int64 {
	lists := [][]int64{b.Scrap}
	for _, l := range b.Lots {
		lists = append(lists, l.Wafers, l.Done)
	}
	return lists
}

func scribbleBook(b impl.LotBook) {
	for _, list := range listsOfBook(b) {
		scribbleAll(list, -5)
	}
	scribbleAll(b.Windows, timeWindow(-5, -6, -7))
	scribbleAll(b.Lots, lot(-5, -6))
}

func (q lotAsk) scribble() {
	scribbleBook(q.b)
	scribbleAll(q.wafers, -5)
}

func (a lotAnswer) same(b lotAnswer) bool {
	return a.value == b.value && sameMadeBook(a.made, b.made) && sameInts(a.line, b.line)
}

func (a lotAnswer) scribble() {
	scribbleBook(a.made.Book)
	scribbleAll(a.line.List, -5)
}

func (a lotAnswer) code() int64 {
	return a.value.Code + a.made.Code + a.line.Code
}

// zeroed: a window that is broken has the book beside its code, and a place; what is not in a lot, or twice, has its place alone.
func (a lotAnswer) zeroed() bool {
	hasBook := a.made.Code == impl.ErrText
	hasPlace := slices.Contains(numbers(impl.ErrNone, impl.ErrText, impl.ErrTaken), a.made.Code)
	return a.value.Value == 0 && len(a.line.List) == 0 && (hasBook || sameLotBook(a.made.Book, impl.LotBook{})) && (hasPlace || a.made.At == 0)
}

// idIn is the id of a lot of the book, or one that no lot has.
func idIn(chance *rand.Rand, b impl.LotBook) int64 {
	if n := len(b.Lots); n > 0 && chance.Intn(6) > 0 {
		return b.Lots[chance.Intn(n)].Id
	}
	return 1 + chance.Int63n(70)
}

// wafersIn are some wafers of a lot of that id, in another order.
func wafersIn(chance *rand.Rand, b impl.LotBook, id int64) []int64 {
	at := lotAtWant(b.Lots, id)
	if at < 0 {
		return runOf(1+chance.Int63n(1600), chance.Intn(4))
	}
	list := slices.Clone(b.Lots[at].Wafers)
	chance.Shuffle(len(list), func(i int, j int) { list[i], list[j] = list[j], list[i] })
	return list[:chance.Intn(len(list)+1)]
}

// timeNear is a time at which a lot may be stepped, more often than not.
func timeNear(chance *rand.Rand, b impl.LotBook, id int64) int64 {
	last := int64(0)
	if at := lotAtWant(b.Lots, id); at >= 0 && len(b.Lots[at].Done) > 0 {
		last = slices.Max(b.Lots[at].Done)
	}
	return last + chance.Int63n(numbers(3, 30, 300)[chance.Intn(3)]) - 3*bit(chance.Intn(6) == 0)
}

// rightLotAsk has a book without a fault; what is asked may have a code.
func rightLotAsk(chance *rand.Rand) lotAsk {
	q := lotAsk{b: someBook(chance), held: chance.Intn(2) == 0}
	q.id, q.other = idIn(chance, q.b), numbers(0, 70)[chance.Intn(2)]+1+chance.Int63n(70)
	q.wafers, q.now = wafersIn(chance, q.b, q.id), timeNear(chance, q.b, q.id)
	q.wafer = append(slices.Clone(q.wafers), append(slices.Clone(q.b.Scrap), 7)...)[0]
	return q
}

// someLotAsks are right and wrong ones, the same at every run.
func someLotAsks(n int) []lotAsk {
	chance, ends := rand.New(rand.NewSource(242)), lotEnds()
	end := func() int64 { return ends[chance.Intn(len(ends))] }
	var asks []lotAsk
	for i := range n {
		q := rightLotAsk(chance)
		switch i % 9 {
		case 1:
			q.b = spoiledBook(chance, q.b)
		case 2:
			q.id, q.other = end(), end()
		case 3:
			q.wafer, q.now = end(), end()
		case 4:
			q.wafers = append(q.wafers, append(slices.Clone(q.wafers), end())...)
		case 5:
			q.wafers = runOf(2000, 24+chance.Intn(3))
		case 6, 7:
			q.other = idIn(chance, q.b)
		case 8:
			q.wafers = append(runOf(2000, chance.Intn(4)), end(), 2000)
		}
		asks = append(asks, q)
	}
	return append(asks, lotAsk{}, greatLotAsk(), fullLotAsk())
}

// greatLotAsk has far too much of all.
func greatLotAsk() lotAsk {
	many := longer(numbers(greatestInt, leastInt), 10000)
	one := impl.Lot{Id: greatestInt, Parent: leastInt, Wafers: many, Done: many}
	b := impl.LotBook{Steps: greatestInt, Windows: longer([]impl.Window{timeWindow(leastInt, greatestInt, leastInt)}, 10000), Lots: longer([]impl.Lot{one}, 40), Scrap: many}
	return lotAsk{b, greatestInt, leastInt, many, greatestInt, true, leastInt}
}

// fullLotAsk has as much as there may be.
func fullLotAsk() lotAsk {
	b := withScrap(withWindows(lotBook(40), longer([]impl.Window{timeWindow(0, 39, latest)}, 10)...), runOf(999801, 200)...)
	for i := range int64(30) {
		b.Lots = append(b.Lots, childOf(max(0, 999970+i)*bit(i > 0), doneAt(lot(999971+i, runOf(1+25*i, 25)...), longer(numbers(latest), 39)...)))
	}
	return lotAsk{b, 1000000, 999971, runOf(726, 24), 750, true, latest}
}

func TestEveryLotAskIsAnswered(t *testing.T) {
	checkSteady(t, someLotAsks(900), lotCalls())
}

func TestEveryLotAskIsAnsweredRightly(t *testing.T) {
	answers := checkRightly(t, someLotAsks(4000), lotCalls())
	made := func(a lotAnswer) bool { return len(a.made.Book.Lots) > 3 }
	checkCodesMet(t, answers, made, impl.OK, impl.ErrForm, impl.ErrMany, impl.ErrRange, impl.ErrNone, impl.ErrText, impl.ErrZero, impl.ErrTaken)
}

func TestZeroBesideACodeOfLots(t *testing.T) {
	checkZeroed(t, someLotAsks(2000), lotCalls())
}

func TestLotsAnswerNewMemory(t *testing.T) {
	checkNewMemory(t, someLotAsks(900), lotCalls())
}

func TestLotsKeepNothing(t *testing.T) {
	checkKeepsNothing(t, someLotAsks(200), lotCalls())
}

// The wafers and the times of all lots of an answer, and Scrap, and the room behind them, are each their own.
func TestListsOfBooksAreApart(t *testing.T) {
	for _, q := range someLotAsks(600) {
		for _, c := range lotCalls() {
			checkApart(t, c.name, listsOfBook(c.call(q).made.Book), -5, slices.Equal[[]int64])
		}
	}
}

// One list may be handed in as several: what is answered has each of its own.
func TestOneListInTwoPlacesOfABook(t *testing.T) {
	list := numbers(3, 4, 5)
	b := withScrap(lotBook(5, doneAt(lot(1, list...), list...), doneAt(lot(2, list[:0]...), list...)), list[3:]...)
	split := impl.SplitLot(b, 1, 9, list[1:])
	checkMadeBook(t, "the wafers of a lot's own list", split, bookWith(b, func(b *impl.LotBook) {
		b.Lots[0].Wafers = numbers(3)
		b.Lots = append(b.Lots, childOf(1, doneAt(lot(9, 4, 5), 3, 4, 5)))
	}))
	merged := impl.MergeLots(b, 2, 1)
	checkMadeBook(t, "times of one list", merged, bookWith(b, func(b *impl.LotBook) {
		b.Lots[0].Wafers, b.Lots[1].Wafers = nil, numbers(3, 4, 5)
	}))
	for _, made := range []impl.BookResult{split, merged, impl.HoldLot(b, 1, true), impl.StepLot(b, 1, 9), impl.ScrapWafer(b, 4), impl.StartLot(b, 8, numbers(7))} {
		checkApart(t, brief(made), append(listsOfBook(made.Book), list), -5, slices.Equal[[]int64])
	}
	scrapped := withScrap(lotBook(2, lot(1, 9)), 3, 4, 5)
	checkStarted(t, "what lies in Scrap", scrapped, 2, scrapped.Scrap, bookCode(impl.ErrTaken))
}

// checkTurnedLots asks every call with a plain ask in which one of so many things is turned.
func checkTurnedLots(t *testing.T, things int, turn func(q *lotAsk, i int)) {
	t.Helper()
	var asks []lotAsk
	for i := range things {
		q := lotAsk{b: copyBook(plainBook()), id: 7, other: 9, wafers: numbers(13, 11), wafer: 12, now: 108}
		turn(&q, i)
		asks = append(asks, q)
	}
	checkRightly(t, asks, lotCalls())
	checkSteady(t, asks, lotCalls())
}

// Every end stands once in each place where a number is given.
func TestEveryEndOfLots(t *testing.T) {
	for _, n := range lotEnds() {
		checkTurnedLots(t, 17, func(q *lotAsk, i int) {
			first, second, window := &q.b.Lots[0], &q.b.Lots[1], &q.b.Windows[0]
			*[]*int64{&q.b.Steps, &window.From, &window.To, &window.Most, &first.Id, &first.Parent, &second.Parent, &first.Wafers[1], &second.Done[0], &second.Done[1],
				&q.b.Scrap[1], &q.id, &q.other, &q.wafers[0], &q.wafers[1], &q.wafer, &q.now}[i] = n
		})
	}
}

func TestNoLotIsNoLot(t *testing.T) {
	bare := lotAsk{b: lotBook(3, impl.Lot{Id: 7}, impl.Lot{Id: 9}), id: 7, other: 9}
	empty := lotAsk{b: lotBook(3, doneAt(lot(7, []int64{}...), []int64{}...), doneAt(lot(9, []int64{}...), []int64{}...)), id: 7, other: 9, wafers: []int64{}}
	empty.b.Windows, empty.b.Scrap = []impl.Window{}, []int64{}
	noLots, emptyLots := lotAsk{b: lotBook(3), other: 4, wafers: numbers(5)}, lotAsk{b: lotBook(3, []impl.Lot{}...), other: 4, wafers: numbers(5)}
	none := lotAsk{b: impl.LotBook{Windows: []impl.Window{}, Lots: []impl.Lot{}, Scrap: []int64{}}, wafers: []int64{}}
	checkNoneIsNone(t, [][2]lotAsk{{bare, empty}, {noLots, emptyLots}, {{}, none}}, lotCalls())
}
