package tests

import (
	"math/rand"
	"testing"

	"loop.example/g00057/impl"
)

// fabCase is a fab and its fault.
type fabCase struct {
	name string
	fab  impl.Fab
	code int64
}

func withTanks(tanks ...impl.Tank) impl.Fab {
	return fab(0, lotBook(1), tanks...)
}

func clockCases() []fabCase {
	with := func(clock int64) impl.Fab { return fab(clock, plainBook()) }
	return []fabCase{
		{"nothing", impl.Fab{}, impl.ErrRange},
		{"bare", bareFab(), impl.OK},
		{"plain", plainFab(), impl.OK},
		{"a Clock of -1", with(-1), impl.ErrRange},
		{"a Clock of 0", with(0), impl.OK},
		{"a Clock of 1", with(1), impl.OK},
		{"a Clock of 10^9", with(latest), impl.OK},
		{"one more", with(latest + 1), impl.ErrRange},
		{"the least Clock", with(leastInt), impl.ErrRange},
		{"the greatest Clock", with(greatestInt), impl.ErrRange},
		{"a Clock ahead of what is done", fab(0, lotBook(2, doneAt(lot(3, 5), 100))), impl.OK},
	}
}

func tankNumberCases() []fabCase {
	with := func(most int64, filled int64, used int64) impl.Fab { return withTanks(tank("a", most, filled, used)) }
	return []fabCase{
		{"a Most of -1", with(-1, 0, 0), impl.ErrRange},
		{"a Most of 0", with(0, 0, 0), impl.ErrRange},
		{"a Most of 1", with(1, 0, 0), impl.OK},
		{"a Most of 10^6", with(1000000, 0, 0), impl.OK},
		{"one more", with(1000001, 0, 0), impl.ErrRange},
		{"the least Most", with(leastInt, 0, 0), impl.ErrRange},
		{"the greatest Most", with(greatestInt, 0, 0), impl.ErrRange},
		{"Used of -1", with(5, 0, -1), impl.ErrRange},
		{"Used and Filled of -1", with(5, -1, -1), impl.ErrRange},
		{"Used of 0", with(5, 3, 0), impl.OK},
		{"the least Used", with(5, 3, leastInt), impl.ErrRange},
		{"the least Used, the greatest Filled", with(5, greatestInt, leastInt), impl.ErrRange},
		{"the least of both", with(5, leastInt, leastInt), impl.ErrRange},
		{"Filled below Used", with(5, 2, 3), impl.ErrRange},
		{"Filled far below Used", with(5, 0, greatestInt), impl.ErrRange},
		{"Filled of -1", with(5, -1, 0), impl.ErrRange},
		{"Filled of Used", with(5, 3, 3), impl.OK},
		{"Filled of 10^9", with(5, latest, latest-5), impl.OK},
		{"Filled and Used of 10^9", with(5, latest, latest), impl.OK},
		{"one more Filled", with(5, latest+1, latest), impl.ErrRange},
		{"one more of both", with(5, latest+1, latest+1), impl.ErrRange},
		{"the greatest Filled", with(5, greatestInt, greatestInt-1), impl.ErrRange},
		{"one less than Most", with(5, 8, 4), impl.OK},
		{"as much as Most", with(5, 9, 4), impl.OK},
		{"one above Most", with(5, 10, 4), impl.ErrRange},
		{"as much as a Most of 1", with(1, 1, 0), impl.OK},
		{"one above a Most of 1", with(1, 2, 0), impl.ErrRange},
		{"as much as a Most of 10^6", with(1000000, latest, 999000000), impl.OK},
		{"one above a Most of 10^6", with(1000000, latest, 998999999), impl.ErrRange},
	}
}

func tankNameCases() []fabCase {
	twice := append(manyTanks(11), tank("t0", 5, 0, 0))
	cases := []fabCase{
		{"one fewer than MaxTanks", withTanks(manyTanks(11)...), impl.OK},
		{"MaxTanks", withTanks(manyTanks(12)...), impl.OK},
		{"one tank more", withTanks(manyTanks(13)...), impl.ErrMany},
		{"far too many tanks", withTanks(make([]impl.Tank, 100000)...), impl.ErrMany},
		{"one tank more, all of them wrong", withTanks(make([]impl.Tank, 13)...), impl.ErrMany},
		{"two of one name", withTanks(tank("a", 5, 0, 0), tank("a", 5, 0, 0)), impl.ErrForm},
		{"two of one name, another between", withTanks(tank("a", 5, 0, 0), tank("b", 5, 0, 0), tank("a", 6, 0, 0)), impl.ErrForm},
		{"first and last of one name", withTanks(twice...), impl.ErrForm},
		{"names that differ by a letter's size", withTanks(tank("a", 5, 0, 0), tank("A", 5, 0, 0)), impl.OK},
		{"a name that another begins with", withTanks(tank("ab", 5, 0, 0), tank("a", 5, 0, 0), tank("abc", 5, 0, 0)), impl.OK},
		{"names of commands", withTanks(tank("tank", 5, 0, 0), tank("use", 5, 0, 0), tank("tick", 5, 0, 0)), impl.OK},
	}
	for _, name := range recipeNames() {
		cases = append(cases, fabCase{"the name " + name, withTanks(tank("x", 5, 0, 0), tank(name, 5, 0, 0)), impl.OK})
	}
	for _, name := range wrongNames() {
		cases = append(cases, fabCase{"a name that is none", withTanks(tank("x", 5, 0, 0), tank(name, 5, 0, 0)), impl.ErrForm})
	}
	return cases
}

func TestFabFaultByHand(t *testing.T) {
	for _, cases := range [][]fabCase{clockCases(), tankNumberCases(), tankNameCases()} {
		for _, c := range cases {
			checkFabFault(t, c.name, c.fab, c.code)
		}
	}
}

// A book's fault is the fab's, whatever the tanks are.
func TestFabFaultOfEachBook(t *testing.T) {
	for _, c := range allBookCases() {
		checkFabFault(t, c.name, fab(5, c.book, manyTanks(2)...), c.code)
		if c.code != impl.OK {
			checkFabFault(t, c.name+", and a Clock of -1", fab(-1, c.book), impl.ErrRange)
			checkFabFault(t, c.name+", and too many tanks", fab(5, c.book, make([]impl.Tank, 13)...), c.code)
			checkFabFault(t, c.name+", and a wrong tank", fab(5, c.book, tank("9", 0, 0, 0)), c.code)
		}
	}
}

// fabSpoil turns one thing of a fab that plainFab answers.
type fabSpoil struct {
	code  int64
	spoil func(f *impl.Fab)
}

// fabSpoils stand in the order in which they are told.
func fabSpoils() []fabSpoil {
	list := []fabSpoil{
		{impl.ErrRange, func(f *impl.Fab) { f.Clock = latest + 1 }},
		{impl.ErrTaken, func(f *impl.Fab) { f.Book.Scrap = numbers(11) }},
		{impl.ErrMany, func(f *impl.Fab) { f.Tanks = append(f.Tanks, manyTanks(10)...) }},
	}
	for i := range 3 {
		list = append(list,
			fabSpoil{impl.ErrForm, func(f *impl.Fab) { f.Tanks[i].Name = "$" }},
			fabSpoil{impl.ErrRange, func(f *impl.Fab) { f.Tanks[i].Most = 0 }})
	}
	return list
}

// Of any two faults the one that is asked first is told.
func TestOrderOfFabFaults(t *testing.T) {
	spoils := fabSpoils()
	for i, first := range spoils {
		f := fabWith(plainFab(), first.spoil)
		checkFabFault(t, "one fault", f, first.code)
		for _, later := range spoils[i+1:] {
			checkFabFault(t, "two faults", fabWith(f, later.spoil), first.code)
		}
	}
}

func TestOrderOfFabFaultsByHand(t *testing.T) {
	for _, c := range []fabCase{
		{"the Clock, the book", fab(-1, lotBook(2, lot(0))), impl.ErrRange},
		{"the book, too many tanks", fab(0, lotBook(2, lot(0)), make([]impl.Tank, 13)...), impl.ErrForm},
		{"too many tanks, a wrong name", withTanks(append(manyTanks(12), tank("9", 0, 0, 0))...), impl.ErrMany},
		{"a wrong name twice", withTanks(tank("9", 5, 0, 0), tank("9", 5, 0, 0)), impl.ErrForm},
		{"a name twice, and numbers of the second", withTanks(tank("a", 5, 0, 0), tank("a", 0, 0, 0)), impl.ErrForm},
		{"a name twice, and numbers of the first", withTanks(tank("a", 0, 0, 0), tank("a", 5, 0, 0)), impl.ErrRange},
		{"numbers of the first, the name of the second", withTanks(tank("a", 5, 1, 2), tank("9", 5, 0, 0)), impl.ErrRange},
		{"the name of the first, numbers of the second", withTanks(tank("9", 5, 0, 0), tank("a", 5, 1, 2)), impl.ErrForm},
		{"all of one tank", withTanks(tank("9", 0, -1, -2)), impl.ErrForm},
	} {
		checkFabFault(t, c.name, c.fab, c.code)
	}
}

func TestFabFaultAtEveryEnd(t *testing.T) {
	for _, n := range fabEnds() {
		checkFabFault(t, "Clock", fab(n, lotBook(1)), impl.ErrRange*bit(n < 0 || n > latest))
		checkFabFault(t, "Steps", fab(0, lotBook(n)), impl.ErrRange*bit(n < 1 || n > 40))
		checkFabFault(t, "Most", withTanks(tank("a", n, 40, 29)), impl.ErrRange*bit(n < 11 || n > 1000000))
		checkFabFault(t, "Filled", withTanks(tank("a", 999991, n, 9)), impl.ErrRange*bit(n < 9 || n > 1000000))
		checkFabFault(t, "Filled, at its end", withTanks(tank("a", 5, n, latest-1)), impl.ErrRange*bit(n < latest-1 || n > latest))
		checkFabFault(t, "Used", withTanks(tank("a", 100, 450, n)), impl.ErrRange*bit(n < 360 || n > 450))
		checkFabFault(t, "Filled and Used", withTanks(tank("a", 1, n, n)), impl.ErrRange*bit(n < 0 || n > latest))
	}
}

func TestSomeFabFaults(t *testing.T) {
	chance, met := rand.New(rand.NewSource(300)), map[int64]int{}
	for range 2500 {
		right := someFab(chance)
		checkFabFault(t, "right", right, impl.OK)
		wrong := spoiledFab(chance, right)
		code := fabFaultWant(wrong)
		checkFabFault(t, "spoiled", wrong, code)
		met[code]++
	}
	for _, code := range numbers(impl.OK, impl.ErrForm, impl.ErrMany, impl.ErrRange, impl.ErrNone, impl.ErrTaken) {
		if met[code] < 30 {
			t.Errorf("the codes are %v", met)
		}
	}
}
