package tests

import (
	"math/rand"
	"testing"

	"loop.example/g00057/impl"
)

func TestPolishTo(t *testing.T) {
	s := section(pile(1, 5, 2, 3, 1, 4), pile(2, 6), nil)
	for _, c := range []struct {
		name  string
		level int64
		left  impl.Section
		gone  []int64
	}{
		{"above all", 13, s, nil},
		{"MaxThick", mostThick, s, nil},
		{"where the top ends", 12, s, nil},
		{"one below", 11, section(pile(1, 5, 2, 3, 1, 3), pile(2, 6), nil), numbers(1, 1)},
		{"one of the top", 9, section(pile(1, 5, 2, 3, 1, 1), pile(2, 6), nil), numbers(1, 3)},
		{"where the top begins", 8, section(pile(1, 5, 2, 3), pile(2, 6), nil), numbers(1, 4)},
		{"within the middle, where another ends", 6, section(pile(1, 5, 2, 1), pile(2, 6), nil), numbers(1, 4, 2, 2)},
		{"where the middle begins", 5, section(pile(1, 5), pile(2, 5), nil), numbers(1, 4, 2, 4)},
		{"within the lowest", 4, section(pile(1, 4), pile(2, 4), nil), numbers(1, 5, 2, 5)},
		{"1", 1, section(pile(1, 1), pile(2, 1), nil), numbers(1, 8, 2, 8)},
		{"0", 0, section(nil, nil, nil), numbers(1, 9, 2, 9)},
	} {
		checkEtched(t, c.name, impl.PolishTo(s, c.level), etchedTo(c.left, c.gone...))
		checkEtched(t, c.name+", told plainly", polishWant(s, c.level), etchedTo(c.left, c.gone...))
	}
	for _, level := range numbers(-1, mostThick+1, leastInt, greatestInt) {
		checkEtched(t, "a wrong level", impl.PolishTo(s, level), etchCode(impl.ErrRange))
		checkEtched(t, "a wrong level of nothing", impl.PolishTo(section(nil), level), etchCode(impl.ErrRange))
		checkEtched(t, "a wrong level, no columns", impl.PolishTo(section(), level), etchCode(impl.ErrForm))
	}
	most := section(longer([][]impl.Film{pile(6, mostThick)}, 16)...)
	checkEtched(t, "the most there is", impl.PolishTo(most, 0), etchedTo(section(make([][]impl.Film, 16)...), 6, 16*mostThick))
}

func TestStripMat(t *testing.T) {
	s := section(pile(1, 5, 2, 3, 1, 4), pile(2, 6), nil, pile(1, 1, 2, 2))
	for _, c := range []struct {
		name string
		mat  int64
		left impl.Section
		gone []int64
	}{
		{"on top and below the top", 1, section(pile(1, 5, 2, 3), pile(2, 6), nil, pile(1, 1, 2, 2)), numbers(1, 4)},
		{"on top of two", 2, section(pile(1, 5, 2, 3, 1, 4), nil, nil, pile(1, 1)), numbers(2, 8)},
		{"nowhere", 3, s, nil},
		{"the last material", 12, s, nil},
	} {
		checkEtched(t, c.name, impl.StripMat(s, c.mat), etchedTo(c.left, c.gone...))
		checkEtched(t, c.name+", told plainly", stripMatWant(s, c.mat), etchedTo(c.left, c.gone...))
	}
	below := section(pile(4, 3, 5, 1), pile(4, 3, 6, 1))
	checkEtched(t, "below the top alone", impl.StripMat(below, 4), etchedTo(below))
	checkEtched(t, "of nothing", impl.StripMat(section(nil), 4), etchedTo(section(nil)))
	checkEtched(t, "one at most", impl.StripMat(section(everyFilm(24, 7, 8, 1)), 8), etchedTo(section(everyFilm(23, 7, 8, 1)), 8, 1))
	for _, mat := range numbers(-1, 0, 13, leastInt, greatestInt, 1<<32+1) {
		checkEtched(t, "no material", impl.StripMat(s, mat), etchCode(impl.ErrForm))
		checkEtched(t, "no material, a wrong film", impl.StripMat(section(pile(1, 0)), mat), etchCode(impl.ErrRange))
	}
}

func TestTakingFromWrongSections(t *testing.T) {
	for _, c := range stackCases() {
		for _, n := range numbers(-1, 0, 1) {
			checkEtched(t, c.name, impl.PolishTo(c.s, n), polishWant(c.s, n))
			checkEtched(t, c.name, impl.StripMat(c.s, n), stripMatWant(c.s, n))
		}
	}
}

func TestEveryEndThatIsTaken(t *testing.T) {
	s := section(pile(1, 40, 2, 5000, 1, 7), pile(12, mostThick), nil)
	for _, n := range stackEnds() {
		checkEtched(t, "polished", impl.PolishTo(s, n), polishWant(s, n))
		checkEtched(t, "stripped", impl.StripMat(s, n), stripMatWant(s, n))
	}
}

func TestTakingFromAllSmallColumns(t *testing.T) {
	for _, films := range allPiles(4, 3, 1, 2) {
		for n := range int64(10) {
			checkEtched(t, "polished", impl.PolishTo(section(films), n), polishWant(section(films), n))
			checkEtched(t, "stripped", impl.StripMat(section(films), n), stripMatWant(section(films), n))
		}
	}
}

// What was there is what is there and what is told as gone.
func TestBooksOfWhatIsTaken(t *testing.T) {
	chance := rand.New(rand.NewSource(139))
	for i := range 1500 {
		s := someSection(chance, 1+chance.Intn(16), 24, numbers(4, 40, 4000)[i%3])
		level, mat := chance.Int63n(numbers(30, 300, 30000)[i%3]), 1+chance.Int63n(3)
		polished, stripped := impl.PolishTo(s, level), impl.StripMat(s, mat)
		checkEtched(t, "polished", polished, polishWant(s, level))
		checkEtched(t, "stripped", stripped, stripMatWant(s, mat))
		checkBook(t, s, polished)
		checkBook(t, s, stripped)
		checkEtched(t, "polished twice", impl.PolishTo(polished.Section, level), etchedTo(polished.Section))
		for k := range int64(len(s.Columns)) {
			top := impl.TopOf(s, k).Value
			checkValue(t, "the top", impl.TopOf(polished.Section, k), value(min(top, level)))
		}
	}
}
