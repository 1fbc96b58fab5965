package tests

import (
	"math/rand"
	"slices"
	"testing"

	"loop.example/g00057/impl"
)

// etchRates are those of the first materials; the others are not etched.
func etchRates(list ...int64) []int64 {
	return append(list, make([]int64, 12-len(list))...)
}

func bare(columns int) []bool {
	return make([]bool, columns)
}

// etchCase is one column and what is left of it and gone, by material and thickness in turn.
type etchCase struct {
	name  string
	films []impl.Film
	rates []int64
	time  int64
	left  []impl.Film
	gone  []int64
}

func etchCases() []etchCase {
	two := pile(1, 10, 2, 6)
	return []etchCase{
		{"no time", two, etchRates(1, 1), 0, two, nil},
		{"the top is less", two, etchRates(1, 2), 2, pile(1, 10, 2, 2), numbers(2, 4)},
		{"one of it is left", two, etchRates(1, 1), 5, pile(1, 10, 2, 1), numbers(2, 5)},
		{"through in just the time", two, etchRates(1, 2), 3, pile(1, 10), numbers(2, 6)},
		{"through, and one unit is left", two, etchRates(1, 2), 4, pile(1, 9), numbers(1, 1, 2, 6)},
		{"through at a rate that does not divide", two, etchRates(1, 4), 2, pile(1, 10), numbers(2, 6)},
		{"what is left of its last unit is lost", two, etchRates(1, 4), 3, pile(1, 9), numbers(1, 1, 2, 6)},
		{"just not through", two, etchRates(1, 5), 1, pile(1, 10, 2, 1), numbers(2, 5)},
		{"through at once", two, etchRates(1, 6), 1, pile(1, 10), numbers(2, 6)},
		{"through at once and more", two, etchRates(1, 1000), 1, pile(1, 10), numbers(2, 6)},
		{"at the same rate", two, etchRates(3, 3), 4, pile(1, 4), numbers(1, 6, 2, 6)},
		{"all in just the time", two, etchRates(3, 3), 6, nil, numbers(1, 10, 2, 6)},
		{"one less than all", two, etchRates(3, 3), 5, pile(1, 1), numbers(1, 9, 2, 6)},
		{"all, and time is left", two, etchRates(1, 1), mostThick, nil, numbers(1, 10, 2, 6)},
		{"nothing of the top", two, etchRates(1, 0), mostThick, two, nil},
		{"nothing below the top", two, etchRates(0, 1), mostThick, pile(1, 10), numbers(2, 6)},
		{"nothing in the middle", pile(1, 3, 3, 4, 2, 5), etchRates(1, 1, 0), 100, pile(1, 3, 3, 4), numbers(2, 5)},
		{"no rates at all", two, etchRates(), 9, two, nil},
		{"one material twice", pile(1, 3, 2, 4, 1, 5), etchRates(2, 1), 8, pile(1, 1), numbers(1, 7, 2, 4)},
		{"nothing there", nil, etchRates(1, 1), 9, nil, nil},
		{"MaxThick at the rate 1", pile(1, mostThick), etchRates(1), mostThick, nil, numbers(1, mostThick)},
		{"all but one of MaxThick", pile(1, mostThick), etchRates(1), mostThick - 1, pile(1, 1), numbers(1, mostThick-1)},
		{"MaxThick at the rate 1000", pile(1, mostThick), etchRates(1000), 100, nil, numbers(1, mostThick)},
		{"a unit less", pile(1, mostThick), etchRates(1000), 99, pile(1, 1000), numbers(1, 99000)},
		{"MaxThick at the rate 999", pile(1, mostThick), etchRates(999), 100, pile(1, 100), numbers(1, 99900)},
		{"MaxThick at the rate 999, through", pile(1, mostThick), etchRates(999), 101, nil, numbers(1, mostThick)},
		{"MaxStack in as many units", everyFilm(24, 1, 2, 3), etchRates(3, 3), 23, pile(1, 3), numbers(1, 33, 2, 36)},
		{"the last material", pile(1, 2, 12, 9), append(etchRates()[:11], 4), 2, pile(1, 2, 12, 1), numbers(12, 8)},
	}
}

func TestEtchBy(t *testing.T) {
	for _, c := range etchCases() {
		checkEtched(t, c.name, impl.EtchBy(section(c.films), c.rates, c.time, bare(1)), etchedTo(section(c.left), c.gone...))
		checkEtched(t, c.name+", told plainly", etchWant(section(c.films), c.rates, c.time, bare(1)), etchedTo(section(c.left), c.gone...))
		checkEtched(t, c.name+", masked", impl.EtchBy(section(c.films), c.rates, c.time, []bool{true}), etchedTo(section(c.films)))
	}
}

// Each column has all the time for itself; what is gone of them stands in one book.
func TestEtchByColumns(t *testing.T) {
	s := section(pile(1, 10, 2, 6), pile(2, 7), nil, pile(2, 3, 1, 4))
	all := impl.EtchBy(s, etchRates(1, 2), 5, bare(4))
	checkEtched(t, "four columns", all, etchedTo(section(pile(1, 8), nil, nil, pile(2, 1)), 1, 6, 2, 15))
	some := impl.EtchBy(s, etchRates(1, 2), 5, []bool{true, false, true, false})
	checkEtched(t, "two of four", some, etchedTo(section(pile(1, 10, 2, 6), nil, nil, pile(2, 1)), 1, 4, 2, 9))
	none := impl.EtchBy(s, etchRates(1, 2), 5, []bool{true, true, true, true})
	checkEtched(t, "all masked", none, etchedTo(s))
	most := section(longer([][]impl.Film{pile(6, mostThick)}, 16)...)
	checkEtched(t, "the most there is", impl.EtchBy(most, slices.Repeat(numbers(1000), 12), mostThick, bare(16)), etchedTo(section(make([][]impl.Film, 16)...), 6, 16*mostThick))
}

func TestWrongEtches(t *testing.T) {
	good, s := slices.Repeat(numbers(5), 12), section(pile(1, 5), pile(2, 5))
	for _, c := range []struct {
		name  string
		s     impl.Section
		rates []int64
		time  int64
		mask  []bool
		code  int64
	}{
		{"right", s, good, 0, bare(2), impl.OK},
		{"no rates", s, nil, 0, bare(2), impl.ErrForm},
		{"one rate less", s, good[:11], 0, bare(2), impl.ErrForm},
		{"one rate more", s, append(good, 5), 0, bare(2), impl.ErrForm},
		{"far too many rates", s, make([]int64, 100000), 0, bare(2), impl.ErrForm},
		{"no mask", s, good, 0, nil, impl.ErrForm},
		{"one column less", s, good, 0, bare(1), impl.ErrForm},
		{"one column more", s, good, 0, bare(3), impl.ErrForm},
		{"as many as there may be columns", s, good, 0, bare(16), impl.ErrForm},
		{"rates from 0 to 1000", s, append(numbers(0, 1000, 1, 999), good[4:]...), 0, bare(2), impl.OK},
		{"the first rate below 0", s, append(numbers(-1), good[1:]...), 0, bare(2), impl.ErrRange},
		{"the last rate below 0", s, append(good[:11:11], -1), 0, bare(2), impl.ErrRange},
		{"the first rate above 1000", s, append(numbers(1001), good[1:]...), 0, bare(2), impl.ErrRange},
		{"the last rate above 1000", s, append(good[:11:11], 1001), 0, bare(2), impl.ErrRange},
		{"time below 0", s, good, -1, bare(2), impl.ErrRange},
		{"MaxThick of time", s, good, mostThick, bare(2), impl.OK},
		{"one more", s, good, mostThick + 1, bare(2), impl.ErrRange},

		{"one rate less, a rate below 0", s, append(good[:10:10], -1), 0, bare(2), impl.ErrForm},
		{"one column more, time below 0", s, good, -1, bare(3), impl.ErrForm},
		{"a wrong film, no rates", section(pile(1, 0)), nil, -1, nil, impl.ErrRange},
		{"too many columns, a rate below 0", section(make([][]impl.Film, 17)...), append(numbers(-1), good[1:]...), 0, bare(17), impl.ErrMany},
		{"no columns, no mask", section(), good, 0, nil, impl.ErrForm},
		{"all masked, time below 0", s, good, -1, []bool{true, true}, impl.ErrRange},
	} {
		got := impl.EtchBy(c.s, c.rates, c.time, c.mask)
		if got.Code != c.code {
			t.Errorf("%s: %s, want %d", c.name, brief(got), c.code)
		}
		checkEtched(t, c.name, got, etchWant(c.s, c.rates, c.time, c.mask))
	}
}

func TestEtchOfWrongSections(t *testing.T) {
	for _, c := range stackCases() {
		mask := bare(len(c.s.Columns))
		checkEtched(t, c.name, impl.EtchBy(c.s, etchRates(1, 2), 3, mask), etchWant(c.s, etchRates(1, 2), 3, mask))
		checkEtched(t, c.name+", no rates", impl.EtchBy(c.s, nil, -1, nil), etchWant(c.s, nil, -1, nil))
	}
}

func TestEveryEndOfAnEtch(t *testing.T) {
	s := section(pile(1, 40, 2, 50, 1, 7), pile(2, 3000), nil)
	for _, n := range stackEnds() {
		for i := range 12 {
			rates := slices.Repeat(numbers(5), 12)
			rates[i] = n
			checkEtched(t, "a rate", impl.EtchBy(s, rates, 11, bare(3)), etchWant(s, rates, 11, bare(3)))
		}
		checkEtched(t, "the time", impl.EtchBy(s, etchRates(2, 3), n, bare(3)), etchWant(s, etchRates(2, 3), n, bare(3)))
	}
}

func TestEtchOfAllSmallColumns(t *testing.T) {
	for _, films := range allPiles(3, 2, 1, 2, 3, 5) {
		for rates := range int64(25) {
			for time := range int64(13) {
				list := etchRates(rates%5, rates/5)
				got, want := impl.EtchBy(section(films), list, time, bare(1)), etchWant(section(films), list, time, bare(1))
				if !sameEtched(got, want) {
					t.Fatalf("%v by %v in %d: %v, want %v", films, list, time, got, want)
				}
			}
		}
	}
}

// What was there is what is there and what is told as gone; of what is masked nothing is gone.
func TestBooksOfEtches(t *testing.T) {
	chance, taken := rand.New(rand.NewSource(137)), 0
	for i := range 1500 {
		s := someSection(chance, 1+chance.Intn(16), 24, numbers(4, 40, 4000)[i%3])
		rates, mask := someEtch(chance, len(s.Columns), numbers(3, 30, 1000)[i/3%3])
		time := chance.Int63n(numbers(10, 100, 1000)[i/9%3])
		got := impl.EtchBy(s, rates, time, mask)
		checkEtched(t, "some section", got, etchWant(s, rates, time, mask))
		checkBook(t, s, got)
		for k, masked := range mask {
			if masked && !slices.Equal(got.Section.Columns[k], s.Columns[k]) {
				t.Fatalf("a masked column of %s has become %s", brief(s), brief(got))
			}
		}
		taken += len(got.Gone) - int(countWhere(got.Gone, 0))
	}
	if taken < 1500 {
		t.Errorf("only %d materials were taken of", taken)
	}
}

// At the rate 1 no film takes more time than it is thick, and so one etch is two, one after the other.
func TestEtchesOneAfterTheOther(t *testing.T) {
	chance := rand.New(rand.NewSource(138))
	for range 2000 {
		s := someSection(chance, 1+chance.Intn(4), 8, 20)
		rates := slices.Repeat(numbers(1), 12)
		first, second := chance.Int63n(60), chance.Int63n(60)
		half := impl.EtchBy(s, rates, first, bare(len(s.Columns)))
		rest := impl.EtchBy(half.Section, rates, second, bare(len(s.Columns)))
		for i := range rest.Gone {
			rest.Gone[i] += half.Gone[i]
		}
		checkEtched(t, "in two goes", rest, impl.EtchBy(s, rates, first+second, bare(len(s.Columns))))
	}
}

func countWhere(list []int64, n int64) int64 {
	met := int64(0)
	for _, m := range list {
		met += bit(m == n)
	}
	return met
}

// checkBook asks for a section without a fault, and for all that was there.
func checkBook(t *testing.T, before impl.Section, got impl.EtchResult) {
	t.Helper()
	book := impl.MatterOf(got.Section)
	for i, n := range got.Gone {
		if n < 0 || len(book.List) != len(got.Gone) {
			t.Fatalf("of %s is gone %v", brief(before), got.Gone)
		}
		book.List[i] += n
	}
	checkInts(t, "the book", book, impl.MatterOf(before))
}
