package tests

import (
	"math/rand"
	"slices"
	"testing"

	"loop.example/g00057/impl"
)

// ledger has the id of the lot of each wafer, or 0 for Scrap; it is kept by what is done, wafer by wafer, and knows nothing of lists.
type ledger map[int64]int64

// lotAct is one thing that is done to a book: what the program makes of it, what it is to make of it, and what becomes of the ledger where it has no code.
type lotAct struct {
	name   string
	got    impl.BookResult
	want   impl.BookResult
	record func(wafers ledger)
}

func moveAll(wafers ledger, from int64, to int64) {
	for wafer, id := range wafers {
		if id == from {
			wafers[wafer] = to
		}
	}
}

func putAll(wafers ledger, list []int64, id int64) {
	for _, wafer := range list {
		wafers[wafer] = id
	}
}

// someAct has a code now and then.
func someAct(chance *rand.Rand, b impl.LotBook, clock int64) lotAct {
	id, other, newId := idIn(chance, b), idIn(chance, b), 1+chance.Int63n(70)
	switch chance.Intn(12) {
	case 0, 1:
		list := runOf(1+chance.Int63n(900), 1+chance.Intn(numbersOf(4, 27)[chance.Intn(2)]))
		return lotAct{"StartLot", impl.StartLot(b, newId, list), startLotWant(b, newId, list), func(wafers ledger) { putAll(wafers, list, newId) }}
	case 2, 3, 4:
		list := wafersIn(chance, b, id)
		return lotAct{"SplitLot", impl.SplitLot(b, id, newId, list), splitLotWant(b, id, newId, list), func(wafers ledger) { putAll(wafers, list, newId) }}
	case 5, 6:
		return lotAct{"MergeLots", impl.MergeLots(b, id, other), mergeLotsWant(b, id, other), func(wafers ledger) { moveAll(wafers, other, id) }}
	case 7:
		held := chance.Intn(3) == 0
		return lotAct{"HoldLot", impl.HoldLot(b, id, held), holdLotWant(b, id, held), func(ledger) {}}
	case 8, 9:
		wafer := append(wafersIn(chance, b, id), 1+chance.Int63n(900))[0]
		return lotAct{"ScrapWafer", impl.ScrapWafer(b, wafer), scrapWaferWant(b, wafer), func(wafers ledger) { wafers[wafer] = 0 }}
	}
	return lotAct{"StepLot", impl.StepLot(b, id, clock), stepLotWant(b, id, clock), func(ledger) {}}
}

// checkStandsOnce holds a book against the ledger: each wafer stands in it just once, where it is to, and no other one does.
func checkStandsOnce(t *testing.T, what string, b impl.LotBook, wafers ledger) {
	t.Helper()
	count := ledger{}
	for _, l := range append(slices.Clone(b.Lots), lot(0, b.Scrap...)) {
		for _, wafer := range l.Wafers {
			count[wafer]++
			if id, ok := wafers[wafer]; !ok || id != l.Id {
				t.Fatalf("%s: the wafer %d stands in %d, it is to stand in %d (%t)", what, wafer, l.Id, id, ok)
			}
		}
	}
	for wafer, id := range wafers {
		if count[wafer] != 1 || impl.FindWafer(b, wafer) != value(id) {
			t.Fatalf("%s: the wafer %d stands there %d times, and is found as %v", what, wafer, count[wafer], impl.FindWafer(b, wafer))
		}
	}
}

// checkWindowsKept: of all windows that are over, none was broken.
func checkWindowsKept(t *testing.T, what string, b impl.LotBook) {
	t.Helper()
	for _, l := range b.Lots {
		for _, w := range b.Windows {
			if w.To < int64(len(l.Done)) && l.Done[w.To]-l.Done[w.From] > w.Most {
				t.Fatalf("%s: the window %v of %v is broken", what, w, l)
			}
		}
	}
}

// Whatever is started, split, merged, held, scrapped and stepped, in whatever order.
func TestWhateverIsDoneToABook(t *testing.T) {
	chance, met := rand.New(rand.NewSource(250)), map[string]int{}
	for range 120 {
		steps := 1 + chance.Int63n(numbers(4, 40)[chance.Intn(2)])
		b := withWindows(lotBook(steps), someTimeWindows(chance, steps, chance.Intn(5))...)
		wafers, clock := ledger{}, int64(0)
		for range 150 {
			clock += chance.Int63n(4)
			act := someAct(chance, b, clock)
			checkMadeBook(t, act.name, act.got, act.want)
			if act.got.Code != impl.OK {
				continue
			}
			met[act.name]++
			act.record(wafers)
			b = act.got.Book
			if code := impl.BookFault(b); code != impl.OK {
				t.Fatalf("behind %s the book has the fault %d: %s", act.name, code, brief(b))
			}
			checkWindowsKept(t, act.name, b)
			if chance.Intn(10) == 0 {
				checkStandsOnce(t, act.name, b, wafers)
			}
		}
		checkStandsOnce(t, "at the end", b, wafers)
	}
	for _, name := range []string{"StartLot", "SplitLot", "MergeLots", "HoldLot", "ScrapWafer", "StepLot"} {
		if met[name] < 300 {
			t.Errorf("done: %v", met)
		}
	}
}

// One call leaves all lots but those that it is asked for, the windows and the steps as they were.
func TestOtherLotsStay(t *testing.T) {
	chance, made := rand.New(rand.NewSource(251)), 0
	for range 4000 {
		b := someBook(chance)
		id, other := idIn(chance, b), idIn(chance, b)
		if lotAtWant(b.Lots, id) < 0 {
			continue
		}
		wafers, now := append(wafersIn(chance, b, id), 0), timeNear(chance, b, id)
		for _, got := range []impl.BookResult{
			impl.SplitLot(b, id, 99, wafers[:len(wafers)-1]), impl.MergeLots(b, id, other), impl.HoldLot(b, id, true), impl.ScrapWafer(b, wafers[0]), impl.StepLot(b, id, now),
		} {
			if got.Code != impl.OK {
				continue
			}
			made++
			if got.Book.Steps != b.Steps || !slices.Equal(got.Book.Windows, b.Windows) || len(got.Book.Lots) < len(b.Lots) {
				t.Fatalf("%s became %s", brief(b), brief(got))
			}
			for i, l := range b.Lots {
				if is := got.Book.Lots[i]; l.Id != id && l.Id != other && !sameLot(l, is) || l.Id != is.Id || l.Parent != is.Parent {
					t.Fatalf("the lot %v became %v", l, is)
				}
			}
		}
	}
	if made < 3000 {
		t.Errorf("%d books were made", made)
	}
}

// Where nothing is done there is nothing to be seen of it: a code leaves the book that was handed in.
func TestACodeChangesNothing(t *testing.T) {
	for _, q := range someLotAsks(1500) {
		kept := copyBook(q.b)
		for _, c := range lotCalls() {
			if got := c.call(q); got.code() != impl.OK && !sameLotBook(q.b, kept) {
				t.Fatalf("%s of %s changed the book", c.name, brief(q))
			}
		}
	}
}

// A place is told with the codes of wafers that are split, and with a window that is broken: with no other.
func TestPlacesAreToldWhereTheyAre(t *testing.T) {
	told := map[string]int{}
	for _, q := range someLotAsks(4000) {
		for _, c := range lotCalls() {
			got := c.call(q)
			if got.made.At == 0 {
				continue
			}
			told[c.name]++
			split := c.name == "SplitLot" && (got.code() == impl.ErrNone || got.code() == impl.ErrTaken)
			stepped := c.name == "StepLot" && got.code() == impl.ErrText
			if !split && !stepped {
				t.Fatalf("%s of %s tells a place: %s", c.name, brief(q), brief(got))
			}
		}
	}
	if told["SplitLot"] < 50 || told["StepLot"] < 10 {
		t.Errorf("places are told by %v", told)
	}
}
