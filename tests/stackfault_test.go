package tests

import (
	"math/rand"
	"slices"
	"testing"

	"loop.example/g00057/impl"
)

// stackCase is a section and its fault.
type stackCase struct {
	name string
	s    impl.Section
	code int64
}

func columnCases() []stackCase {
	one := pile(1, 5)
	return []stackCase{
		{"nothing", impl.Section{}, impl.ErrForm},
		{"no column", section(), impl.ErrForm},
		{"one column", section(one), impl.OK},
		{"two of one list", section(one, one), impl.OK},
		{"a column of nil", section(nil), impl.OK},
		{"a column with no film", section(pile()), impl.OK},
		{"no film behind one", section(one, nil), impl.OK},
		{"one less than MaxColumns", section(longer([][]impl.Film{one}, 15)...), impl.OK},
		{"MaxColumns", section(longer([][]impl.Film{one}, 16)...), impl.OK},
		{"MaxColumns with no film", section(make([][]impl.Film, 16)...), impl.OK},
		{"one more", section(longer([][]impl.Film{one}, 17)...), impl.ErrMany},
		{"one more with no film", section(make([][]impl.Film, 17)...), impl.ErrMany},
		{"far too many", section(make([][]impl.Film, 100000)...), impl.ErrMany},
		{"one more, and a wrong film", section(longer([][]impl.Film{pile(0, 0)}, 17)...), impl.ErrMany},

		{"one less than MaxStack", section(everyFilm(23, 1, 2, 1)), impl.OK},
		{"MaxStack", section(everyFilm(24, 1, 2, 1)), impl.OK},
		{"one more film", section(everyFilm(25, 1, 2, 1)), impl.ErrMany},
		{"far too many films", section(everyFilm(100000, 1, 2, 1)), impl.ErrMany},
		{"MaxStack in each of two", section(everyFilm(24, 1, 2, 1), everyFilm(24, 2, 1, 1)), impl.OK},
		{"one more in the second", section(one, everyFilm(25, 1, 2, 1)), impl.ErrMany},
		{"one more film, wrong ones", section(everyFilm(25, 0, 0, 0)), impl.ErrMany},
		{"one more film, too thick together", section(everyFilm(25, 1, 2, 5000)), impl.ErrMany},
	}
}

func filmCases() []stackCase {
	return []stackCase{
		{"the first material", section(pile(1, 1)), impl.OK},
		{"MaxMats", section(pile(12, 1)), impl.OK},
		{"no material", section(pile(0, 1)), impl.ErrForm},
		{"below the first", section(pile(-1, 1)), impl.ErrForm},
		{"beyond MaxMats", section(pile(13, 1)), impl.ErrForm},
		{"the material of the film below", section(pile(3, 1, 3, 1)), impl.ErrForm},
		{"the material of the film two below", section(pile(3, 1, 4, 1, 3, 1)), impl.OK},
		{"of the last film of all below", section(pile(3, 1, 4, 1, 4, 1)), impl.ErrForm},
		{"the same in two columns", section(pile(3, 1), pile(3, 1)), impl.OK},
		{"the end of one, the beginning of the next", section(pile(3, 1, 4, 1), pile(4, 1, 3, 1)), impl.OK},

		{"Thick of 1", section(pile(1, 1)), impl.OK},
		{"Thick of 0", section(pile(1, 0)), impl.ErrRange},
		{"Thick below 0", section(pile(1, -1)), impl.ErrRange},
		{"MaxThick", section(pile(1, mostThick)), impl.OK},
		{"one more Thick", section(pile(1, mostThick+1)), impl.ErrRange},
		{"just MaxThick together", section(pile(1, mostThick-1, 2, 1)), impl.OK},
		{"one above together", section(pile(1, mostThick, 2, 1)), impl.ErrRange},
		{"one above, each half", section(pile(1, mostThick/2, 2, mostThick/2+1)), impl.ErrRange},
		{"just MaxThick of MaxStack", section(append(everyFilm(23, 1, 2, 4166), pile(2, 4182)...)), impl.OK},
		{"one above of MaxStack", section(append(everyFilm(23, 1, 2, 4166), pile(2, 4183)...)), impl.ErrRange},
		{"just MaxThick in each of two", section(pile(1, mostThick), pile(2, mostThick)), impl.OK},
		{"one above in the second", section(pile(1, 1), pile(2, mostThick, 1, 1)), impl.ErrRange},
		{"what wraps to little", section(pile(1, greatestInt, 2, greatestInt, 1, 3)), impl.ErrRange},
	}
}

// twoFaultCases have the one first that is told first: film by film, the sum behind them, column by column.
func twoFaultCases() []stackCase {
	return []stackCase{
		{"Mat and Thick of one film", section(pile(0, 0)), impl.ErrForm},
		{"that of the film below, and Thick", section(pile(1, 1, 1, 0)), impl.ErrForm},
		{"Thick, then Mat of the next", section(pile(1, 0, 0, 1)), impl.ErrRange},
		{"Mat, then Thick of the next", section(pile(0, 1, 1, 0)), impl.ErrForm},
		{"Thick, then that of the film below", section(pile(1, mostThick+1, 1, 1)), impl.ErrRange},
		{"too thick together, then Mat", section(pile(1, mostThick, 2, 1, 13, 1)), impl.ErrForm},
		{"too thick together, then the same Mat", section(pile(1, mostThick, 2, 1, 2, 1)), impl.ErrForm},
		{"too thick together, then a wrong column", section(pile(1, mostThick, 2, 1), pile(0, 1)), impl.ErrRange},
		{"Mat, then too many films in the next", section(pile(0, 1), everyFilm(25, 1, 2, 1)), impl.ErrForm},
		{"Thick, then too many films in the next", section(pile(1, 0), everyFilm(25, 1, 2, 1)), impl.ErrRange},
		{"too many films, then Mat in the next", section(everyFilm(25, 1, 2, 1), pile(0, 1)), impl.ErrMany},
		{"Thick, then Mat in the next", section(pile(1, 0), pile(0, 1)), impl.ErrRange},
		{"Mat, then Thick in the next", section(pile(0, 1), pile(1, 0)), impl.ErrForm},
		{"Thick at the end of one, Mat at the beginning of the next", section(pile(1, 1, 2, 0), pile(0, 1)), impl.ErrRange},
	}
}

func stackCases() []stackCase {
	return slices.Concat(columnCases(), filmCases(), twoFaultCases())
}

func TestSectionFault(t *testing.T) {
	for _, c := range stackCases() {
		if got := impl.SectionFault(c.s); got != c.code || got != sectionFaultWant(c.s) {
			t.Errorf("%s: %d, want %d", c.name, got, c.code)
		}
	}
}

// Every end stands in every film and field of a section once.
func TestEveryEndInASection(t *testing.T) {
	bare := section(pile(1, 4, 2, 5), pile(3, 6), pile(2, 1, 12, 2, 1, 3))
	for _, n := range stackEnds() {
		for i, films := range bare.Columns {
			for k := range films {
				mats, thicks := copySection(bare), copySection(bare)
				mats.Columns[i][k].Mat, thicks.Columns[i][k].Thick = n, n
				for _, s := range []impl.Section{mats, thicks} {
					if got, want := impl.SectionFault(s), sectionFaultWant(s); got != want {
						t.Errorf("the fault of %v is %d, want %d", s, got, want)
					}
				}
			}
		}
	}
}

func TestFaultsOfAllSmallColumns(t *testing.T) {
	films := []impl.Film{{}, {Mat: 1}, {Mat: 1, Thick: 1}, {Mat: 2, Thick: 1}, {Mat: 12, Thick: mostThick}, {Mat: 13, Thick: 1}, {Mat: 2, Thick: mostThick + 1}, {Mat: 2, Thick: mostThick - 1}}
	for i := range len(films) * len(films) * len(films) * 4 {
		one := pile()
		for k, at := 0, i/4; k < i%4; k, at = k+1, at/len(films) {
			one = append(one, films[at%len(films)])
		}
		for _, s := range []impl.Section{section(one), section(one, one), section(pile(1, 1), one), section(one, pile(13, 1)), section(one, pile(1, 0))} {
			if got, want := impl.SectionFault(s), sectionFaultWant(s); got != want {
				t.Fatalf("the fault of %v is %d, want %d", s, got, want)
			}
		}
	}
}

// Up to two ends stand anywhere in sections that may themselves be too great.
func TestFaultsOfSpoiledSections(t *testing.T) {
	chance, ends, met := rand.New(rand.NewSource(134)), stackEnds(), map[int64]int{}
	for range 20000 {
		s := someSection(chance, 1+chance.Intn(17), 25, 5000)
		for range chance.Intn(3) {
			if films := s.Columns[chance.Intn(len(s.Columns))]; len(films) > 0 {
				film, n := &films[chance.Intn(len(films))], ends[chance.Intn(len(ends))]
				*[]*int64{&film.Mat, &film.Thick}[chance.Intn(2)] = n
			}
		}
		got, want := impl.SectionFault(s), sectionFaultWant(s)
		if got != want {
			t.Fatalf("the fault of %s is %d, want %d", brief(s), got, want)
		}
		met[got]++
	}
	for _, code := range numbers(impl.OK, impl.ErrForm, impl.ErrMany, impl.ErrRange) {
		if met[code] < 100 {
			t.Errorf("the codes are %v", met)
		}
	}
}
