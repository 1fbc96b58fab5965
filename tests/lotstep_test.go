package tests

import (
	"math/rand"
	"slices"
	"testing"

	"loop.example/g00057/impl"
)

// steppedAt is the answer in which the lot at a place has done its next step.
func steppedAt(b impl.LotBook, place int, now int64) impl.BookResult {
	return bookWith(b, func(b *impl.LotBook) { b.Lots[place].Done = append(b.Lots[place].Done, now) })
}

// broken is the answer where the window at a place is: the book as it was.
func broken(b impl.LotBook, place int64) impl.BookResult {
	return impl.BookResult{Code: impl.ErrText, At: place, Book: copyBook(b)}
}

// steppedUntil asks steps at the times about one at which a window breaks.
func steppedUntil(t *testing.T, what string, b impl.LotBook, id int64, last int64, window int64) {
	t.Helper()
	at := lotAtWant(b.Lots, id)
	for _, now := range numbers(last-1, last) {
		checkStepped(t, what+", kept", b, id, now, steppedAt(b, at, now))
	}
	for _, now := range numbers(last+1, last+2, latest) {
		checkStepped(t, what+", broken", b, id, now, broken(b, window))
	}
}

func TestStepLotByHand(t *testing.T) {
	b := plainBook()
	checkStepped(t, "the first step", b, 5, 0, steppedAt(b, 3, 0))
	checkStepped(t, "the first step, as late as can be", b, 5, latest, steppedAt(b, 3, latest))
	checkStepped(t, "at the last time", b, 7, 104, steppedAt(b, 0, 104))
	checkStepped(t, "one below the last time", b, 7, 103, bookCode(impl.ErrForm))
	checkStepped(t, "long below the last time", b, 7, 0, bookCode(impl.ErrForm))
	checkStepped(t, "between the times", b, 7, 102, bookCode(impl.ErrForm))
	checkStepped(t, "a time below 0", b, 7, -1, bookCode(impl.ErrRange))
	checkStepped(t, "a time beyond", b, 7, latest+1, bookCode(impl.ErrRange))
	checkStepped(t, "a lot that was split", b, 9, 108, steppedAt(b, 1, 108))
	checkStepped(t, "Held", b, 4, 108, bookCode(impl.ErrTaken))
	checkStepped(t, "without wafers", b, 3, 108, bookCode(impl.ErrTaken))
	steppedUntil(t, "the window of 0 to 2", b, 7, 110, 0)
	steppedUntil(t, "the window of 0 to 2, of another lot", b, 9, 110, 0)
	once := steppedAt(b, 0, 109).Book
	steppedUntil(t, "the window of 1 to 3", once, 7, 124, 1)
	twice := steppedAt(once, 0, 120).Book
	steppedUntil(t, "the window of 0 to 4", twice, 7, 130, 2)
	all := steppedAt(twice, 0, 130).Book
	for _, now := range numbers(-1, 0, 129, 130, 131, latest, latest+1) {
		checkStepped(t, "all steps are done", all, 7, now, bookCode(impl.ErrRange))
	}
}

func TestStepLotWithWindows(t *testing.T) {
	done := lotBook(4, doneAt(lot(1, 2), 10, 20))
	steppedUntil(t, "from the first step", withWindows(done, timeWindow(0, 2, 25)), 1, 35, 0)
	steppedUntil(t, "from the second step", withWindows(done, timeWindow(1, 2, 25)), 1, 45, 0)
	steppedUntil(t, "behind one that is for another step", withWindows(done, timeWindow(0, 3, 1), timeWindow(1, 2, 25)), 1, 45, 1)
	steppedUntil(t, "behind one whose To is done", withWindows(done, timeWindow(0, 1, 1), timeWindow(1, 2, 25)), 1, 45, 1)
	steppedUntil(t, "behind one that has more", withWindows(done, timeWindow(0, 2, latest), timeWindow(1, 2, 25)), 1, 45, 1)
	steppedUntil(t, "the last of many", withWindows(done, append(longer([]impl.Window{timeWindow(0, 2, latest)}, 9), timeWindow(1, 2, 25))...), 1, 45, 9)
	several := withWindows(done, timeWindow(1, 2, 30), timeWindow(0, 2, 20), timeWindow(1, 2, 5))
	for _, now := range numbers(20, 21, 25, 26, 30, 31, 50, 51) {
		want := steppedAt(several, 0, now)
		switch {
		case now > 50:
			want = broken(several, 0)
		case now > 30:
			want = broken(several, 1)
		case now > 25:
			want = broken(several, 2)
		}
		checkStepped(t, "several, the first is told", several, 1, now, want)
	}
	twice := withWindows(done, timeWindow(1, 2, 30), timeWindow(1, 2, 30))
	steppedUntil(t, "one window twice", twice, 1, 50, 0)
	nought := withWindows(done, timeWindow(1, 2, 0))
	checkStepped(t, "Most of 0, at once", nought, 1, 20, steppedAt(nought, 0, 20))
	checkStepped(t, "Most of 0, one later", nought, 1, 21, broken(nought, 0))
	open := withWindows(lotBook(4, lot(1, 2)), timeWindow(0, 1, 0), timeWindow(1, 2, 0), timeWindow(0, 3, 0))
	checkStepped(t, "no window is for the first step", open, 1, latest, steppedAt(open, 0, latest))
	ends := withWindows(lotBook(2, doneAt(lot(1, 2), 0)), timeWindow(0, 1, latest))
	checkStepped(t, "the greatest Most", ends, 1, latest, steppedAt(ends, 0, latest))
	ends.Windows[0].Most--
	checkStepped(t, "one less than the greatest Most", ends, 1, latest, broken(ends, 0))
	late := withWindows(lotBook(40, doneAt(lot(1, 2), longer(numbers(7), 39)...)), timeWindow(38, 39, 3), timeWindow(0, 39, 2))
	checkStepped(t, "the last step, just kept", late, 1, 9, steppedAt(late, 0, 9))
	checkStepped(t, "the last step, just broken", late, 1, 10, broken(late, 1))
	checkStepped(t, "one step more", steppedAt(late, 0, 9).Book, 1, 9, bookCode(impl.ErrRange))
}

func TestStepLotAtEveryEnd(t *testing.T) {
	b := withWindows(lotBook(3, doneAt(lot(7, 1), 26)), timeWindow(0, 1, 174))
	for _, n := range lotEnds() {
		want := steppedAt(b, 0, n)
		switch {
		case n < 0 || n > latest:
			want = bookCode(impl.ErrRange)
		case n < 26:
			want = bookCode(impl.ErrForm)
		case n > 200:
			want = broken(b, 0)
		}
		checkStepped(t, "a time", b, 7, n, want)
		checkStepped(t, "an id", b, n, 30, stepLotWant(b, n, 30))
		if n != 7 {
			checkStepped(t, "an id that no lot has", b, n, 30, bookCode(impl.ErrNone))
			checkStepped(t, "an id that no lot has, at a wrong time", b, n, -1, bookCode(impl.ErrNone))
			checkLeft(t, "an id that no lot has", b, n, 30, valueCode(impl.ErrNone))
			checkLeft(t, "an id that no lot has, at a wrong time", b, n, latest+1, valueCode(impl.ErrNone))
		}
		left := value(200 - n)
		if n < 0 || n > latest {
			left = valueCode(impl.ErrRange)
		}
		checkLeft(t, "a time", b, 7, n, left)
	}
}

// All that may be wrong, together: it is told in the order of the document.
func TestOrderOfStepLot(t *testing.T) {
	for number := range 2 * 2 * 2 * 3 * 2 {
		held, none, all, wrong := number%2 == 1, number/2%2 == 1, number/4%2 == 1, number/24 == 1
		now := numbers(50, -1, 8)[number/8%3]
		b := withWindows(lotBook(3, doneAt(lot(1, 10), 4, 9)), timeWindow(0, 2, 5))
		b.Lots[0].Held = held
		if none {
			b.Lots[0].Wafers = nil
		}
		if all {
			b.Lots[0].Done = numbers(4, 9, 9)
		}
		code := int64(impl.OK)
		if wrong {
			b.Scrap, code = numbers(0), impl.ErrRange
		}
		code = firstCode(code, impl.ErrTaken*bit(held || none), impl.ErrRange*bit(all || now == -1), impl.ErrForm*bit(now == 8))
		want := bookCode(code)
		if code == impl.OK {
			want = broken(b, 0)
		}
		checkStepped(t, "several", b, 1, now, want)
	}
}

func TestWindowLeftByHand(t *testing.T) {
	b := plainBook()
	checkLeft(t, "two are open", b, 7, 104, value(6))
	checkLeft(t, "of another lot", b, 9, 107, value(3))
	checkLeft(t, "just kept", b, 7, 110, value(0))
	checkLeft(t, "just broken", b, 7, 111, value(-1))
	checkLeft(t, "long broken", b, 7, latest, value(110-latest))
	checkLeft(t, "ahead of the times", b, 7, 0, value(110))
	checkLeft(t, "nothing done", b, 5, 104, valueCode(impl.ErrZero))
	checkLeft(t, "nothing done, without wafers", b, 3, 104, valueCode(impl.ErrZero))
	checkLeft(t, "nothing done, a time beyond", b, 5, latest+1, valueCode(impl.ErrRange))
	checkLeft(t, "a time below 0", b, 7, -1, valueCode(impl.ErrRange))
	held := lotBook(3, heldLot(doneAt(lot(1, 10), 4)), doneAt(lot(2), 6))
	held.Windows = []impl.Window{timeWindow(0, 1, 7)}
	checkLeft(t, "Held", held, 1, 5, value(6))
	checkLeft(t, "without wafers", held, 2, 5, value(8))
	first := steppedAt(b, 3, 50).Book
	checkLeft(t, "the first step is done", first, 5, 52, value(8))
	second := steppedAt(b, 0, 108).Book
	checkLeft(t, "the window of 0 to 2 is over", second, 7, 108, value(16))
	third := steppedAt(second, 0, 110).Book
	checkLeft(t, "that of 0 to 4 alone is open", third, 7, 112, value(18))
	checkLeft(t, "all are done", steppedAt(third, 0, 112).Book, 7, 112, valueCode(impl.ErrZero))
	for from := range int64(4) {
		for to := from + 1; to < 5; to++ {
			for n := range 6 {
				one := withWindows(lotBook(5, doneAt(lot(1, 2), runOf(30, n)...)), timeWindow(from, to, 9))
				want := valueCode(impl.ErrZero)
				if from < int64(n) && to >= int64(n) {
					want = value(30 + from + 9 - 40)
				}
				checkLeft(t, "one window", one, 1, 40, want)
			}
		}
	}
	none := lotBook(3, doneAt(lot(1, 2), 5))
	checkLeft(t, "no windows", none, 1, 5, valueCode(impl.ErrZero))
	ends := withWindows(lotBook(2, doneAt(lot(1, 2), latest), doneAt(lot(2, 3), 0)), timeWindow(0, 1, latest), timeWindow(0, 1, 0))
	checkLeft(t, "the greatest time, of which nothing has gone", ends, 1, 0, value(latest))
	checkLeft(t, "the least that may be left", ends, 2, latest, value(-latest))
	ends.Windows = ends.Windows[:1]
	checkLeft(t, "the most that may be left", ends, 1, 0, value(2*latest))
	checkLeft(t, "just all of it", ends, 2, latest, value(0))
}

// smallWindows are all of so many steps, with few Mosts.
func smallWindows(steps int64, most int64) []impl.Window {
	var list []impl.Window
	for from := range steps {
		for to := from + 1; to < steps; to++ {
			for n := range most + 1 {
				list = append(list, timeWindow(from, to, n))
			}
		}
	}
	return list
}

// Over all small lots: a step is done just where nothing less than 0 is left of the windows that end with it.
func TestStepLotOfAllSmallLots(t *testing.T) {
	windows, met := smallWindows(3, 2), map[int64]int{}
	for n := range 4 {
		for _, times := range timesUpTo(n, 3) {
			for i, one := range windows {
				for _, other := range windows[i:] {
					b := withWindows(lotBook(3, doneAt(lot(1, 2), times...)), one, other)
					for now := int64(-1); now <= 6; now++ {
						want := stepLotWant(b, 1, now)
						checkStepped(t, "small", b, 1, now, want)
						checkLeft(t, "small", b, 1, now, windowLeftWant(b, 1, now))
						met[want.Code]++
					}
				}
			}
		}
	}
	for _, code := range numbers(impl.OK, impl.ErrForm, impl.ErrRange, impl.ErrText) {
		if met[code] < 1000 {
			t.Errorf("the codes are %v", met)
		}
	}
}

// endsNow are the windows that the next step of a lot ends.
func endsNow(b impl.LotBook, l impl.Lot) []impl.Window {
	return slices.DeleteFunc(slices.Clone(b.Windows), func(w impl.Window) bool { return w.To != int64(len(l.Done)) })
}

// No window is broken without being told: the step is done if what is left of those that it ends is 0 or more, and only then.
func TestStepLotAgreesWithWindowLeft(t *testing.T) {
	chance, met := rand.New(rand.NewSource(248)), map[int64]int{}
	for range 6000 {
		b := someBook(chance)
		id := idIn(chance, b)
		now := timeNear(chance, b, id)
		got := impl.StepLot(b, id, now)
		checkMadeBook(t, "some", got, stepLotWant(b, id, now))
		checkLeft(t, "some", b, id, now, windowLeftWant(b, id, now))
		met[got.Code]++
		if got.Code != impl.OK && got.Code != impl.ErrText {
			continue
		}
		l := b.Lots[lotAtWant(b.Lots, id)]
		left := impl.WindowLeft(withWindows(b, endsNow(b, l)...), id, now)
		if (got.Code == impl.ErrText) != (left.Value < 0) {
			t.Fatalf("%v is left to %s at %d, it answers %s", left, brief(l), now, brief(got))
		}
		checkBookFault(t, "stepped", got.Book, impl.OK)
	}
	for _, code := range numbers(impl.OK, impl.ErrForm, impl.ErrRange, impl.ErrNone, impl.ErrText, impl.ErrTaken) {
		if met[code] < 50 {
			t.Errorf("the codes are %v", met)
		}
	}
}

// From the first step to the last, as late as each window lets: what is left falls to 0, and one later is too late.
func TestStepLotAsLateAsCanBe(t *testing.T) {
	chance := rand.New(rand.NewSource(249))
	for range 300 {
		steps := 1 + chance.Int63n(40)
		b := withWindows(lotBook(steps, lot(1, 2)), someTimeWindows(chance, steps, 10)...)
		for range steps {
			l := b.Lots[0]
			last := slices.Max(append(slices.Clone(l.Done), 0)) + 1000
			for _, w := range endsNow(b, l) {
				last = min(last, l.Done[w.From]+w.Most)
			}
			if len(l.Done) > 0 && last < slices.Max(l.Done) {
				break
			}
			if left := impl.WindowLeft(withWindows(b, endsNow(b, l)...), 1, last); left.Code == impl.OK && left.Value < 0 {
				t.Fatalf("%v is left of %s at %d", left, brief(b), last)
			}
			checkStepped(t, "one later", b, 1, last+1, stepLotWant(b, 1, last+1))
			made := impl.StepLot(b, 1, last)
			checkMadeBook(t, "as late as can be", made, steppedAt(b, 0, last))
			b = made.Book
		}
	}
}
