package tests

import (
	"math/rand"
	"slices"
	"testing"

	"loop.example/g00057/impl"
)

// bookCase is a book and its fault.
type bookCase struct {
	name string
	book impl.LotBook
	code int64
}

func bookSizeCases() []bookCase {
	window := timeWindow(0, 1, 5)
	return []bookCase{
		{"nothing", impl.LotBook{}, impl.ErrRange},
		{"bare", lotBook(1), impl.OK},
		{"plain", plainBook(), impl.OK},
		{"Steps of -1", lotBook(-1), impl.ErrRange},
		{"Steps of 0", lotBook(0), impl.ErrRange},
		{"MaxRouteSteps", lotBook(40), impl.OK},
		{"one more", lotBook(41), impl.ErrRange},
		{"the greatest Steps", lotBook(greatestInt), impl.ErrRange},
		{"the least Steps", lotBook(leastInt), impl.ErrRange},
		{"one fewer than MaxWindows", withWindows(lotBook(2), longer([]impl.Window{window}, 9)...), impl.OK},
		{"MaxWindows", withWindows(lotBook(2), longer([]impl.Window{window}, 10)...), impl.OK},
		{"one window more", withWindows(lotBook(2), longer([]impl.Window{window}, 11)...), impl.ErrMany},
		{"far too many windows", withWindows(lotBook(2), make([]impl.Window, 10000)...), impl.ErrMany},
		{"one fewer than MaxLots", lotBook(2, manyLots(29)...), impl.OK},
		{"MaxLots", lotBook(2, manyLots(30)...), impl.OK},
		{"one lot more", lotBook(2, manyLots(31)...), impl.ErrMany},
		{"far too many lots", lotBook(2, make([]impl.Lot, 10000)...), impl.ErrMany},
		{"199 in Scrap", withScrap(lotBook(2), runOf(1, 199)...), impl.OK},
		{"200 in Scrap", withScrap(lotBook(2), runOf(1, 200)...), impl.OK},
		{"201 in Scrap", withScrap(lotBook(2), runOf(1, 201)...), impl.ErrMany},
		{"far too many in Scrap", withScrap(lotBook(2), make([]int64, 100000)...), impl.ErrMany},
		{"201 in Scrap, all of them wrong", withScrap(lotBook(2), make([]int64, 201)...), impl.ErrMany},
	}
}

func windowFaultCases() []bookCase {
	with := func(from int64, to int64, most int64) impl.LotBook {
		return withWindows(lotBook(5), timeWindow(from, to, most))
	}
	return []bookCase{
		{"From of -1", with(-1, 3, 5), impl.ErrForm},
		{"From of 0", with(0, 3, 5), impl.OK},
		{"From of To - 1", with(2, 3, 5), impl.OK},
		{"From of To", with(3, 3, 5), impl.ErrForm},
		{"From of To + 1", with(4, 3, 5), impl.ErrForm},
		{"From and To of 0", with(0, 0, 5), impl.ErrForm},
		{"To of Steps - 1", with(0, 4, 5), impl.OK},
		{"To of Steps", with(0, 5, 5), impl.ErrForm},
		{"To of Steps, From ahead of it", with(4, 5, 5), impl.ErrForm},
		{"To of -1", with(0, -1, 5), impl.ErrForm},
		{"both below 0", with(-3, -2, 5), impl.ErrForm},
		{"both beyond", with(6, 7, 5), impl.ErrForm},
		{"the least From", with(leastInt, 3, 5), impl.ErrForm},
		{"the greatest To", with(0, greatestInt, 5), impl.ErrForm},
		{"Most of -1", with(0, 3, -1), impl.ErrRange},
		{"Most of 0", with(0, 3, 0), impl.OK},
		{"Most of 10^9", with(0, 3, latest), impl.OK},
		{"one more", with(0, 3, latest+1), impl.ErrRange},
		{"the least Most", with(0, 3, leastInt), impl.ErrRange},
		{"the greatest Most", with(0, 3, greatestInt), impl.ErrRange},
		{"no window fits one step", withWindows(lotBook(1), timeWindow(0, 1, 5)), impl.ErrForm},
		{"no window fits one step, whatever it is", withWindows(lotBook(1), timeWindow(0, 0, 5)), impl.ErrForm},
		{"the longest", withWindows(lotBook(40), timeWindow(0, 39, latest)), impl.OK},
		{"a window twice", withWindows(lotBook(5), timeWindow(0, 3, 5), timeWindow(0, 3, 5)), impl.OK},
		{"From, and Most", with(-1, 3, -1), impl.ErrForm},
		{"Most of the first, From of the second", withWindows(lotBook(5), timeWindow(0, 3, -1), timeWindow(3, 3, 5)), impl.ErrRange},
		{"From of the first, Most of the second", withWindows(lotBook(5), timeWindow(3, 3, 5), timeWindow(0, 3, -1)), impl.ErrForm},
		{"the last window", withWindows(lotBook(5), append(longer([]impl.Window{timeWindow(0, 3, 5)}, 9), timeWindow(0, 3, -1))...), impl.ErrRange},
	}
}

func lotIdCases() []bookCase {
	return []bookCase{
		{"an Id of -1", lotBook(2, lot(-1, 5)), impl.ErrForm},
		{"an Id of 0", lotBook(2, lot(0, 5)), impl.ErrForm},
		{"an Id of 1", lotBook(2, lot(1, 5)), impl.OK},
		{"an Id of 10^6", lotBook(2, lot(1000000, 5)), impl.OK},
		{"one more", lotBook(2, lot(1000001, 5)), impl.ErrForm},
		{"the greatest Id", lotBook(2, lot(greatestInt, 5)), impl.ErrForm},
		{"the least Id", lotBook(2, lot(leastInt, 5)), impl.ErrForm},
		{"one Id in two lots", lotBook(2, lot(3, 5), lot(3, 6)), impl.ErrForm},
		{"one Id in two lots without wafers", lotBook(2, lot(3), lot(4), lot(3)), impl.ErrForm},
		{"the last has the Id of the first", lotBook(2, append(manyLots(29), lot(1))...), impl.ErrForm},
		{"ids that fall", lotBook(2, lot(3, 5), lot(2, 6), lot(1, 7)), impl.OK},
		{"the Id of a wafer", lotBook(2, lot(3, 3, 4), lot(4, 5)), impl.OK},
		{"a Parent ahead", lotBook(2, lot(3, 5), childOf(3, lot(4, 6))), impl.OK},
		{"a Parent far ahead", lotBook(2, append(manyLots(29), childOf(1, lot(77)))...), impl.OK},
		{"a Parent without wafers", lotBook(2, lot(3), childOf(3, lot(4, 6))), impl.OK},
		{"two of one Parent", lotBook(2, lot(3, 5), childOf(3, lot(4, 6)), childOf(3, lot(9, 7))), impl.OK},
		{"a Parent with a Parent", lotBook(2, lot(3, 5), childOf(3, lot(4, 6)), childOf(4, lot(2, 7))), impl.OK},
		{"the lot itself is the Parent", lotBook(2, lot(3, 5), childOf(4, lot(4, 6))), impl.ErrNone},
		{"the first lot is its own Parent", lotBook(2, childOf(4, lot(4, 6))), impl.ErrNone},
		{"a Parent behind", lotBook(2, childOf(4, lot(3, 5)), lot(4, 6)), impl.ErrNone},
		{"two are each other's Parent", lotBook(2, childOf(4, lot(3, 5)), childOf(3, lot(4, 6))), impl.ErrNone},
		{"a Parent that no lot is", lotBook(2, lot(3, 5), childOf(5, lot(4, 6))), impl.ErrNone},
		{"a Parent of -1", lotBook(2, lot(3, 5), childOf(-1, lot(4, 6))), impl.ErrNone},
		{"a Parent beyond", lotBook(2, lot(3, 5), childOf(1000001, lot(4, 6))), impl.ErrNone},
		{"the least Parent", lotBook(2, childOf(leastInt, lot(4, 6))), impl.ErrNone},
	}
}

func lotListCases() []bookCase {
	with := func(times ...int64) impl.LotBook { return lotBook(3, doneAt(lot(4, 6), times...)) }
	return []bookCase{
		{"no wafers", lotBook(2, lot(3)), impl.OK},
		{"no wafers, steps done, Held", lotBook(2, heldLot(doneAt(lot(3), 5, 6))), impl.OK},
		{"one fewer than MaxLotWafers", lotBook(2, lot(3, runOf(1, 24)...)), impl.OK},
		{"MaxLotWafers", lotBook(2, lot(3, runOf(1, 25)...)), impl.OK},
		{"one wafer more", lotBook(2, lot(3, runOf(1, 26)...)), impl.ErrMany},
		{"far too many wafers", lotBook(2, lot(3, make([]int64, 100000)...)), impl.ErrMany},
		{"Done one shorter than Steps", with(7, 8), impl.OK},
		{"Done as long as Steps", with(7, 8, 9), impl.OK},
		{"one longer", with(7, 8, 9, 10), impl.ErrMany},
		{"far longer", with(make([]int64, 100000)...), impl.ErrMany},
		{"as long as MaxRouteSteps", lotBook(40, doneAt(lot(4, 6), runOf(1, 40)...)), impl.OK},
		{"one longer than that", lotBook(40, doneAt(lot(4, 6), runOf(1, 41)...)), impl.ErrMany},
		{"a time of -1", with(-1), impl.ErrRange},
		{"a time of 0", with(0, 0, 0), impl.OK},
		{"a time of 10^9", with(latest, latest), impl.OK},
		{"one more", with(5, latest+1), impl.ErrRange},
		{"the greatest time", with(5, greatestInt), impl.ErrRange},
		{"the least time", with(leastInt, 5), impl.ErrRange},
		{"the same time as ahead", with(5, 5, 6), impl.OK},
		{"a time below the one ahead", with(5, 4), impl.ErrForm},
		{"the last time below the one ahead", with(5, 6, 5), impl.ErrForm},
		{"a time of -1 behind another", with(5, -1), impl.ErrRange},
		{"it falls, then is beyond", with(5, 4, -1), impl.ErrForm},
		{"it is beyond, then falls", with(latest+1, 4, 3), impl.ErrRange},
		{"times of two lots", lotBook(2, doneAt(lot(4, 6), 9), doneAt(lot(5, 7), 3)), impl.OK},
	}
}

func waferFaultCases() []bookCase {
	full := lotBook(2)
	for i, l := range manyLots(30) {
		full.Lots = append(full.Lots, lot(l.Id, runOf(int64(1+25*i), 25)...))
	}
	return []bookCase{
		{"a wafer of -1", lotBook(2, lot(3, 5, -1)), impl.ErrRange},
		{"a wafer of 0", lotBook(2, lot(3, 5, 0)), impl.ErrRange},
		{"a wafer of 1", lotBook(2, lot(3, 5, 1)), impl.OK},
		{"a wafer of 10^6", lotBook(2, lot(3, 5, 1000000)), impl.OK},
		{"one more", lotBook(2, lot(3, 5, 1000001)), impl.ErrRange},
		{"the least wafer", lotBook(2, lot(3, leastInt)), impl.ErrRange},
		{"the greatest wafer", lotBook(2, lot(3, greatestInt)), impl.ErrRange},
		{"0 in Scrap", withScrap(lotBook(2), 5, 0), impl.ErrRange},
		{"1 in Scrap", withScrap(lotBook(2), 5, 1), impl.OK},
		{"10^6 in Scrap", withScrap(lotBook(2), 5, 1000000), impl.OK},
		{"one more in Scrap", withScrap(lotBook(2), 5, 1000001), impl.ErrRange},
		{"twice in a lot", lotBook(2, lot(3, 5, 6, 5)), impl.ErrTaken},
		{"in two lots", lotBook(2, lot(3, 5, 6), lot(4, 7, 5)), impl.ErrTaken},
		{"in two lots, one without wafers between", lotBook(2, lot(3, 6), lot(9), lot(4, 6)), impl.ErrTaken},
		{"in a lot and its Parent", lotBook(2, lot(3, 5, 6), childOf(3, lot(4, 5))), impl.ErrTaken},
		{"in a lot and in Scrap", withScrap(lotBook(2, lot(3, 5, 6), lot(4, 7)), 8, 6), impl.ErrTaken},
		{"twice in Scrap", withScrap(lotBook(2), 5, 6, 5), impl.ErrTaken},
		{"twice in Scrap, first and last of 200", withScrap(lotBook(2), append(runOf(1, 199), 1)...), impl.ErrTaken},
		{"twice, then beyond", lotBook(2, lot(3, 5, 5, 0)), impl.ErrTaken},
		{"beyond, then twice", lotBook(2, lot(3, 5, 0, 5)), impl.ErrRange},
		{"beyond twice", lotBook(2, lot(3, 0, 0)), impl.ErrRange},
		{"twice in lots, then beyond in Scrap", withScrap(lotBook(2, lot(3, 5), lot(4, 5)), 0), impl.ErrTaken},
		{"beyond in a lot, then twice in Scrap", withScrap(lotBook(2, lot(3, 0)), 5, 5), impl.ErrRange},
		{"as much as there may be", withScrap(full, runOf(1000, 200)...), impl.OK},
		{"as much as there may be, the first also in Scrap", withScrap(full, append(runOf(1000, 199), 1)...), impl.ErrTaken},
		{"as much as there may be, the last also in Scrap", withScrap(full, append(runOf(1000, 199), 750)...), impl.ErrTaken},
	}
}

func allBookCases() []bookCase {
	return slices.Concat(bookSizeCases(), windowFaultCases(), lotIdCases(), lotListCases(), waferFaultCases())
}

func TestBookFaultByHand(t *testing.T) {
	for _, c := range allBookCases() {
		checkBookFault(t, c.name, c.book, c.code)
	}
}

// bookSpoil turns one thing of a book that plainBook answers.
type bookSpoil struct {
	code  int64
	spoil func(b *impl.LotBook)
}

// spoilsOfLot stand in the order in which they are told.
func spoilsOfLot(i int) []bookSpoil {
	return []bookSpoil{
		{impl.ErrForm, func(b *impl.LotBook) { b.Lots[i].Id = 1000001 }},
		{impl.ErrNone, func(b *impl.LotBook) { b.Lots[i].Parent = 88 }},
		{impl.ErrMany, func(b *impl.LotBook) { b.Lots[i].Wafers = append(b.Lots[i].Wafers, runOf(int64(100+100*i), 26)...) }},
		{impl.ErrRange, func(b *impl.LotBook) { b.Lots[i].Done = []int64{-1} }},
		{impl.ErrForm, func(b *impl.LotBook) { b.Lots[i].Done = append(b.Lots[i].Done, 7, 6) }},
	}
}

// bookSpoils stand in the order in which they are told: those of one row are asked together, ahead of the rows behind it.
func bookSpoils() [][]bookSpoil {
	rows := [][]bookSpoil{
		{{impl.ErrMany, func(b *impl.LotBook) { b.Windows = append(b.Windows, longer([]impl.Window{timeWindow(0, 1, 5)}, 9)...) }},
			{impl.ErrMany, func(b *impl.LotBook) { b.Lots = append(b.Lots, make([]impl.Lot, 26)...) }}},
		{{impl.ErrForm, func(b *impl.LotBook) { b.Windows[0].From = 2 }}},
		{{impl.ErrRange, func(b *impl.LotBook) { b.Windows[0].Most = -1 }}},
		{{impl.ErrForm, func(b *impl.LotBook) { b.Windows[1].To = 5 }}},
		{{impl.ErrRange, func(b *impl.LotBook) { b.Windows[1].Most = latest + 1 }}},
		{{impl.ErrForm, func(b *impl.LotBook) { b.Windows[2].From = -1 }}},
	}
	for i := range plainBook().Lots {
		for _, one := range spoilsOfLot(i) {
			rows = append(rows, []bookSpoil{one})
		}
	}
	return append(rows,
		[]bookSpoil{{impl.ErrMany, func(b *impl.LotBook) { b.Scrap = append(b.Scrap, runOf(2000, 199)...) }}},
		[]bookSpoil{{impl.ErrTaken, func(b *impl.LotBook) { b.Lots[0].Wafers[1] = 11 }}},
		[]bookSpoil{{impl.ErrRange, func(b *impl.LotBook) { b.Lots[0].Wafers[2] = 0 }}},
		[]bookSpoil{{impl.ErrTaken, func(b *impl.LotBook) { b.Lots[1].Wafers[0] = 11 }}},
		[]bookSpoil{{impl.ErrRange, func(b *impl.LotBook) { b.Lots[4].Wafers[0] = 1000001 }}},
		[]bookSpoil{{impl.ErrTaken, func(b *impl.LotBook) { b.Scrap[0] = 11 }}},
		[]bookSpoil{{impl.ErrRange, func(b *impl.LotBook) { b.Scrap[1] = -1 }}})
}

// Of any two faults the one that is asked first is told: also where the lot of the later one stands ahead, or its wafer does.
func TestOrderOfBookFaults(t *testing.T) {
	rows := bookSpoils()
	for i, row := range rows {
		for _, first := range row {
			b := copyBook(plainBook())
			first.spoil(&b)
			checkBookFault(t, "one fault", b, first.code)
			noSteps := copyBook(b)
			noSteps.Steps = 0
			checkBookFault(t, "no steps, too", noSteps, impl.ErrRange)
			for _, later := range rows[i+1:] {
				for _, second := range later {
					both := copyBook(b)
					second.spoil(&both)
					checkBookFault(t, "two faults", both, first.code)
				}
			}
		}
	}
}

// What is wrong with two things of one lot is told in the order of its fields, not in that of the lots behind it.
func TestOrderOfBookFaultsByHand(t *testing.T) {
	twice := withScrap(lotBook(2, lot(3, 5, 5)), 5)
	for _, c := range []bookCase{
		{"wafers of the first lot, the Id of the last", lotBook(2, lot(3, 0, 5, 5), lot(4), lot(3)), impl.ErrForm},
		{"wafers of the first lot, the Parent of the last", lotBook(2, lot(3, 0, 5, 5), childOf(9, lot(4))), impl.ErrNone},
		{"wafers of the first lot, too many of the last", lotBook(2, lot(3, 0, 5, 5), lot(4, runOf(1, 26)...)), impl.ErrMany},
		{"wafers of the first lot, a time of the last", lotBook(2, lot(3, 5, 5), doneAt(lot(4), -1)), impl.ErrRange},
		{"wafers of the first lot, times of the last that fall", lotBook(2, lot(3, 0), doneAt(lot(4), 6, 5)), impl.ErrForm},
		{"wafers of the first lot, 201 in Scrap", withScrap(lotBook(2, lot(3, 0, 5, 5)), runOf(1, 201)...), impl.ErrMany},
		{"too many wafers, too long Done, a time", lotBook(2, doneAt(lot(3, runOf(1, 26)...), -1, -1, -1)), impl.ErrMany},
		{"too long Done, a time", lotBook(2, doneAt(lot(3, 1), -1, -1, -1)), impl.ErrMany},
		{"the Id, the Parent", lotBook(2, childOf(9, lot(0, 1))), impl.ErrForm},
		{"an Id that a lot ahead has, its own Parent", lotBook(2, lot(3, 1), childOf(3, lot(3, 2))), impl.ErrForm},
		{"the Parent, too many wafers", lotBook(2, childOf(9, lot(3, runOf(1, 26)...))), impl.ErrNone},
		{"a time of the first, the Id of the second", lotBook(2, doneAt(lot(3, 1), -1), lot(0)), impl.ErrRange},
		{"too many windows and lots, wrong ones", withWindows(lotBook(2, make([]impl.Lot, 31)...), make([]impl.Window, 11)...), impl.ErrMany},
		{"too many lots, a wrong window", withWindows(lotBook(2, manyLots(31)...), timeWindow(0, 0, -1)), impl.ErrMany},
		{"a wrong window, a wrong lot", withWindows(lotBook(2, childOf(9, lot(3))), timeWindow(0, 0, 1)), impl.ErrForm},
		{"a wrong Most, a wrong lot", withWindows(lotBook(2, lot(0)), timeWindow(0, 1, -1)), impl.ErrRange},
		{"twice, thrice", twice, impl.ErrTaken},
	} {
		checkBookFault(t, c.name, c.book, c.code)
	}
}

func TestBookFaultAtEveryEnd(t *testing.T) {
	turned := func(turn func(b *impl.LotBook)) impl.LotBook { return bookWith(plainBook(), turn).Book }
	for _, n := range lotEnds() {
		checkBookFault(t, "Steps", lotBook(n), impl.ErrRange*bit(n < 1 || n > 40))
		checkBookFault(t, "From", withWindows(lotBook(31), timeWindow(n, 30, 5)), impl.ErrForm*bit(n < 0 || n > 29))
		checkBookFault(t, "To", withWindows(lotBook(31), timeWindow(5, n, 5)), impl.ErrForm*bit(n < 6 || n > 30))
		checkBookFault(t, "Most", withWindows(lotBook(31), timeWindow(5, 6, n)), impl.ErrRange*bit(n < 0 || n > latest))
		id := lotBook(3, lot(7), lot(n))
		checkBookFault(t, "Id", id, impl.ErrForm*bit(n < 1 || n > 1000000 || n == 7))
		checkBookFault(t, "Parent", turned(func(b *impl.LotBook) { b.Lots[2].Parent = n }), impl.ErrNone*bit(n != 0 && n != 7 && n != 9))
		checkBookFault(t, "a time", lotBook(3, doneAt(lot(7), n)), impl.ErrRange*bit(n < 0 || n > latest))
		second := max(impl.ErrRange*bit(n < 0 || n > latest), impl.ErrForm*bit(n >= 0 && n < 25))
		checkBookFault(t, "a time behind 25", lotBook(3, doneAt(lot(7), 25, n)), second)
		wafer := max(impl.ErrRange*bit(n < 1 || n > 1000000), impl.ErrTaken*bit(n == 25))
		checkBookFault(t, "a wafer", lotBook(3, lot(7, 25, n)), wafer)
		checkBookFault(t, "a wafer in Scrap", withScrap(lotBook(3, lot(7, 25)), n), wafer)
	}
}

func TestSomeBookFaults(t *testing.T) {
	chance := rand.New(rand.NewSource(241))
	met := map[int64]int{}
	for range 1500 {
		right := someBook(chance)
		checkBookFault(t, "right", right, impl.OK)
		wrong := spoiledBook(chance, right)
		code := bookFaultWant(wrong)
		checkBookFault(t, "spoiled", wrong, code)
		met[code]++
	}
	for _, code := range numbers(impl.OK, impl.ErrForm, impl.ErrMany, impl.ErrRange, impl.ErrNone, impl.ErrTaken) {
		if met[code] < 50 {
			t.Errorf("the codes are %v", met)
		}
	}
}
