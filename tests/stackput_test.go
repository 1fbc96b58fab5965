package tests

import (
	"math/rand"
	"testing"

	"loop.example/g00057/impl"
)

// putCase is what one step that puts on is given, and its answer.
type putCase struct {
	name   string
	s      impl.Section
	mat, n int64
	want   impl.SectionResult
}

func depositCases() []putCase {
	full := section(everyFilm(24, 1, 2, 10))
	return []putCase{
		{"upon another", section(pile(1, 5)), 2, 3, sectionOf(pile(1, 5, 2, 3))},
		{"upon the same", section(pile(1, 5)), 1, 3, sectionOf(pile(1, 8))},
		{"upon nothing", section(nil), 12, 3, sectionOf(pile(12, 3))},
		{"the same lies below", section(pile(1, 5, 2, 1)), 1, 3, sectionOf(pile(1, 5, 2, 1, 1, 3))},
		{"upon each column", section(pile(1, 5), pile(), pile(2, 1, 3, 1)), 3, 4, sectionOf(pile(1, 5, 3, 4), pile(3, 4), pile(2, 1, 3, 5))},
		{"the least", section(pile(1, 5)), 2, 1, sectionOf(pile(1, 5, 2, 1))},
		{"MaxThick upon nothing", section(nil), 2, mostThick, sectionOf(pile(2, mostThick))},
		{"just MaxThick together", section(pile(1, 5)), 2, mostThick - 5, sectionOf(pile(1, 5, 2, mostThick-5))},
		{"just MaxThick as one", section(pile(1, 5)), 1, mostThick - 5, sectionOf(pile(1, mostThick))},
		{"one above together", section(pile(1, 5)), 2, mostThick - 4, sectionCode(impl.ErrRange)},
		{"one above as one", section(pile(1, 5)), 1, mostThick - 4, sectionCode(impl.ErrRange)},
		{"upon what is full of thickness", section(pile(1, mostThick)), 1, 1, sectionCode(impl.ErrRange)},
		{"one column full of thickness", section(nil, pile(1, mostThick)), 2, 1, sectionCode(impl.ErrRange)},
		{"the last film but one", section(everyFilm(23, 1, 2, 10)), 3, 1, sectionOf(append(everyFilm(23, 1, 2, 10), pile(3, 1)...))},
		{"upon what is full of films", full, 3, 1, sectionCode(impl.ErrMany)},
		{"upon the same, full of films", full, 2, 7, sectionOf(append(everyFilm(23, 1, 2, 10), pile(2, 17)...))},
		{"full of films, too thick", full, 3, mostThick, sectionCode(impl.ErrMany)},
		{"full of films, too thick as one", full, 2, mostThick, sectionCode(impl.ErrRange)},
		{"full of thickness, then full of films", section(pile(1, mostThick), everyFilm(24, 1, 2, 1)), 3, 1, sectionCode(impl.ErrRange)},
		{"full of films, then full of thickness", section(everyFilm(24, 1, 2, 1), pile(1, mostThick)), 3, 1, sectionCode(impl.ErrMany)},

		{"no material", section(nil), 0, 1, sectionCode(impl.ErrForm)},
		{"beyond MaxMats", section(nil), 13, 1, sectionCode(impl.ErrForm)},
		{"no material and no thickness", section(nil), 0, 0, sectionCode(impl.ErrForm)},
		{"no thickness", section(nil), 1, 0, sectionCode(impl.ErrRange)},
		{"one above MaxThick", section(nil), 1, mostThick + 1, sectionCode(impl.ErrRange)},
		{"no columns, no material", section(), 0, 0, sectionCode(impl.ErrForm)},
		{"too many columns, no material", section(make([][]impl.Film, 17)...), 0, 0, sectionCode(impl.ErrMany)},
		{"a wrong film, no material", section(pile(1, 0)), 0, 0, sectionCode(impl.ErrRange)},
		{"full of films, no thickness", full, 3, 0, sectionCode(impl.ErrRange)},
	}
}

func fillCases() []putCase {
	full, flat := section(everyFilm(24, 1, 2, 10)), section(pile(1, 5), pile(1, 2, 2, 1), pile(3, 9), nil)
	return []putCase{
		{"to where some end", flat, 2, 5, sectionOf(pile(1, 5), pile(1, 2, 2, 3), pile(3, 9), pile(2, 5))},
		{"to one above", flat, 2, 6, sectionOf(pile(1, 5, 2, 1), pile(1, 2, 2, 4), pile(3, 9), pile(2, 6))},
		{"to one below", flat, 2, 4, sectionOf(pile(1, 5), pile(1, 2, 2, 2), pile(3, 9), pile(2, 4))},
		{"to above all", flat, 3, 10, sectionOf(pile(1, 5, 3, 5), pile(1, 2, 2, 1, 3, 7), pile(3, 10), pile(3, 10))},
		{"to 0", flat, 2, 0, sectionOf(flat.Columns...)},
		{"to 1", flat, 2, 1, sectionOf(pile(1, 5), pile(1, 2, 2, 1), pile(3, 9), pile(2, 1))},
		{"to MaxThick", section(pile(1, 5), nil), 12, mostThick, sectionOf(pile(1, 5, 12, mostThick-5), pile(12, mostThick))},
		{"to MaxThick, the same", section(pile(1, 5)), 1, mostThick, sectionOf(pile(1, mostThick))},
		{"to MaxThick, all there", section(pile(1, mostThick)), 2, mostThick, sectionOf(pile(1, mostThick))},
		{"full of films, below the level", full, 3, 241, sectionCode(impl.ErrMany)},
		{"full of films, at the level", full, 3, 240, sectionOf(full.Columns...)},
		{"full of films, the same", full, 2, 241, sectionOf(append(everyFilm(23, 1, 2, 10), pile(2, 11)...))},

		{"no material", section(nil), 0, 1, sectionCode(impl.ErrForm)},
		{"beyond MaxMats", section(nil), 13, 1, sectionCode(impl.ErrForm)},
		{"no material, below 0", section(nil), 0, -1, sectionCode(impl.ErrForm)},
		{"no material that would be needed", section(pile(1, 5)), 0, 5, sectionCode(impl.ErrForm)},
		{"below 0", section(nil), 1, -1, sectionCode(impl.ErrRange)},
		{"one above MaxThick", section(nil), 1, mostThick + 1, sectionCode(impl.ErrRange)},
		{"no columns, no material", section(), 0, 0, sectionCode(impl.ErrForm)},
		{"too many columns, no material", section(make([][]impl.Film, 17)...), 0, 0, sectionCode(impl.ErrMany)},
		{"a wrong film, no material", section(pile(1, 0)), 0, 0, sectionCode(impl.ErrRange)},
	}
}

func TestDeposit(t *testing.T) {
	for _, c := range depositCases() {
		checkGrown(t, c.name, impl.Deposit(c.s, c.mat, c.n), c.want)
		checkGrown(t, c.name+", told plainly", c.want, depositWant(c.s, c.mat, c.n))
	}
}

func TestFillTo(t *testing.T) {
	for _, c := range fillCases() {
		checkGrown(t, c.name, impl.FillTo(c.s, c.mat, c.n), c.want)
		checkGrown(t, c.name+", told plainly", c.want, fillToWant(c.s, c.mat, c.n))
	}
}

func TestPutUponWrongSections(t *testing.T) {
	for _, c := range stackCases() {
		for _, n := range numbers(-1, 0, 1) {
			checkGrown(t, c.name, impl.Deposit(c.s, n, n), depositWant(c.s, n, n))
			checkGrown(t, c.name, impl.FillTo(c.s, n, n), fillToWant(c.s, n, n))
		}
	}
}

func TestEveryEndThatIsPut(t *testing.T) {
	s := section(pile(1, 4, 2, 5), nil)
	for _, mat := range stackEnds() {
		for _, n := range stackEnds() {
			checkGrown(t, "put", impl.Deposit(s, mat, n), depositWant(s, mat, n))
			checkGrown(t, "filled", impl.FillTo(s, mat, n), fillToWant(s, mat, n))
		}
	}
}

func TestPutUponAllSmallColumns(t *testing.T) {
	for _, films := range allPiles(3, 3, 1, 3) {
		s := section(films)
		for mat := range int64(4) {
			for n := range int64(11) {
				checkGrown(t, "put", impl.Deposit(s, mat, n), depositWant(s, mat, n))
				checkGrown(t, "filled", impl.FillTo(s, mat, n), fillToWant(s, mat, n))
			}
		}
	}
}

// What is put on is as much as there is more, and of that material alone.
func TestBooksOfWhatIsPut(t *testing.T) {
	chance, grown := rand.New(rand.NewSource(136)), 0
	for range 2000 {
		s := someSection(chance, 1+chance.Intn(16), 24, 40)
		mat, n := 1+chance.Int63n(12), 1+chance.Int63n(600)
		put, filled := impl.Deposit(s, mat, n), impl.FillTo(s, mat, n)
		checkGrown(t, "put", put, depositWant(s, mat, n))
		checkGrown(t, "filled", filled, fillToWant(s, mat, n))
		missing := int64(0)
		for i := range int64(len(s.Columns)) {
			missing += max(0, n-topWant(s, i).Value)
		}
		if put.Code == impl.OK && filled.Code == impl.OK {
			checkMore(t, s, put.Section, mat, n*int64(len(s.Columns)))
			checkMore(t, s, filled.Section, mat, missing)
			grown++
		}
	}
	if grown < 500 {
		t.Errorf("only %d have grown", grown)
	}
}

// checkMore asks for a section without a fault that has n more of mat, and of all else as much.
func checkMore(t *testing.T, before impl.Section, after impl.Section, mat int64, n int64) {
	t.Helper()
	want := impl.MatterOf(before)
	want.List[mat-1] += n
	checkInts(t, "the book", impl.MatterOf(after), want)
}
