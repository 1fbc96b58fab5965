package tests

import (
	"math/rand"
	"slices"
	"testing"

	"loop.example/g00057/impl"
)

// oxideCase is one column that is oxidised, and what comes of it.
type oxideCase struct {
	name   string
	films  []impl.Film
	amount int64
	want   impl.SectionResult
}

func oxideCases() []oxideCase {
	return []oxideCase{
		{"silicon", pile(1, 50), 25, sectionOf(pile(1, 39, 2, 25))},
		{"oxide over silicon", pile(1, 50, 2, 7), 25, sectionOf(pile(1, 39, 2, 32))},
		{"silicon over something else", pile(3, 4, 1, 50), 25, sectionOf(pile(3, 4, 1, 39, 2, 25))},
		{"silicon over oxide", pile(2, 4, 1, 50), 25, sectionOf(pile(2, 4, 1, 39, 2, 25))},
		{"oxide over silicon over oxide", pile(2, 4, 1, 50, 2, 3), 25, sectionOf(pile(2, 4, 1, 39, 2, 28))},
		{"oxide over something else", pile(1, 9, 3, 50, 2, 7), 25, sectionOf(pile(1, 9, 3, 50, 2, 7))},
		{"oxide alone", pile(2, 7), 25, sectionOf(pile(2, 7))},
		{"something else", pile(1, 50, 3, 7), 25, sectionOf(pile(1, 50, 3, 7))},
		{"something else over oxide over silicon", pile(1, 50, 2, 7, 3, 1), 25, sectionOf(pile(1, 50, 2, 7, 3, 1))},
		{"nothing", nil, 25, sectionOf(nil)},

		{"so little that no silicon is less", pile(1, 50), 1, sectionOf(pile(1, 50, 2, 1))},
		{"twice as little", pile(1, 50), 2, sectionOf(pile(1, 50, 2, 2))},
		{"so little upon oxide", pile(1, 50, 2, 9), 2, sectionOf(pile(1, 50, 2, 11))},
		{"the first silicon", pile(1, 50), 3, sectionOf(pile(1, 49, 2, 3))},
		{"one of silicon, none of it less", pile(1, 1), 2, sectionOf(pile(1, 1, 2, 2))},
		{"one of silicon, all of it", pile(1, 1), 3, sectionOf(pile(2, 3))},
		{"one of silicon, all that can be", pile(1, 1), 4, sectionOf(pile(2, 4))},
		{"one of silicon and no more", pile(1, 1), 5, sectionOf(pile(2, 2))},

		{"one of silicon is left", pile(1, 12), 25, sectionOf(pile(1, 1, 2, 25))},
		{"just the silicon", pile(1, 11), 25, sectionOf(pile(2, 25))},
		{"just the silicon, and a part", pile(1, 11), 27, sectionOf(pile(2, 27))},
		{"more than the silicon", pile(1, 11), 28, sectionOf(pile(2, 25))},
		{"far more than the silicon", pile(1, 11), mostThick, sectionOf(pile(2, 25))},
		{"rounded down from what is left", pile(1, 10), 1000, sectionOf(pile(2, 22))},
		{"nothing left upon something else", pile(3, 4, 1, 11), 25, sectionOf(pile(3, 4, 2, 25))},
		{"nothing left upon oxide", pile(2, 4, 1, 11), 25, sectionOf(pile(2, 29))},
		{"more than is there, upon oxide", pile(2, 4, 1, 11), 100, sectionOf(pile(2, 29))},
		{"nothing left between two oxides", pile(2, 4, 1, 11, 2, 3), 25, sectionOf(pile(2, 32))},
		{"more than is there, between two oxides", pile(3, 1, 2, 4, 1, 11, 2, 3), 100, sectionOf(pile(3, 1, 2, 32))},
		{"silicon further below stays", pile(1, 50, 2, 4, 1, 11), 25, sectionOf(pile(1, 50, 2, 29))},

		{"just MaxThick", pile(1, mostThick-14), 25, sectionOf(pile(1, mostThick-25, 2, 25))},
		{"one too thick", pile(1, mostThick-13), 25, sectionCode(impl.ErrRange)},
		{"so little and too thick", pile(1, mostThick), 1, sectionCode(impl.ErrRange)},
		{"oxide that is too thick", pile(1, 11, 2, mostThick-11), 25, sectionCode(impl.ErrRange)},
		{"the greatest amount", pile(1, mostThick), mostThick, sectionCode(impl.ErrRange)},
		{"just MaxThick of oxide", pile(1, 44000), mostThick, sectionOf(pile(2, mostThick))},
		{"one less of silicon", pile(1, 43999), mostThick, sectionOf(pile(2, 99997))},
		{"one more of silicon", pile(1, 44001), mostThick, sectionCode(impl.ErrRange)},
		{"the last film", append(everyFilm(22, 2, 3, 1), pile(1, 50)...), 25, sectionOf(append(everyFilm(22, 2, 3, 1), pile(1, 39, 2, 25)...))},
		{"one film too many", append(everyFilm(23, 2, 3, 1), pile(1, 50)...), 25, sectionCode(impl.ErrMany)},
		{"MaxStack, oxide on top", append(everyFilm(22, 2, 3, 1), pile(1, 50, 2, 9)...), 25, sectionOf(append(everyFilm(22, 2, 3, 1), pile(1, 39, 2, 34)...))},
		{"MaxStack, no silicon left", append(everyFilm(23, 3, 2, 1), pile(1, 11)...), 25, sectionOf(append(everyFilm(23, 3, 2, 1), pile(2, 25)...))},
		{"MaxStack, no silicon left upon oxide", append(everyFilm(23, 2, 3, 1), pile(1, 11)...), 25, sectionOf(append(everyFilm(22, 2, 3, 1), pile(2, 26)...))},
		{"one film too many, too thick", append(everyFilm(23, 2, 3, 1), pile(1, mostThick-23)...), 25, sectionCode(impl.ErrMany)},
		{"nothing grows on what is full", pile(1, mostThick-1, 3, 1), mostThick, sectionOf(pile(1, mostThick-1, 3, 1))},
	}
}

func TestOxidise(t *testing.T) {
	for _, c := range oxideCases() {
		checkGrown(t, c.name, impl.Oxidise(section(c.films), c.amount), c.want)
		checkGrown(t, c.name+", told plainly", oxidiseWant(section(c.films), c.amount), c.want)
	}
}

// Each column takes the amount for itself, and the first fault of what comes out is told.
func TestOxidiseColumns(t *testing.T) {
	s := section(pile(1, 50), pile(1, 11), nil, pile(1, 4, 3, 2), pile(2, 1, 1, 3, 2, 5))
	checkGrown(t, "five columns", impl.Oxidise(s, 50), sectionOf(pile(1, 28, 2, 50), pile(2, 25), nil, pile(1, 4, 3, 2), pile(2, 12)))
	many, thick := append(everyFilm(23, 2, 3, 1), pile(1, 50)...), pile(1, mostThick)
	checkGrown(t, "too many, too thick", impl.Oxidise(section(nil, many, thick), 25), sectionCode(impl.ErrMany))
	checkGrown(t, "too thick, too many", impl.Oxidise(section(nil, thick, many), 25), sectionCode(impl.ErrRange))
}

func TestWrongAmounts(t *testing.T) {
	for _, amount := range stackEnds() {
		for _, s := range []impl.Section{section(pile(1, 50)), section(nil), section(pile(3, 4), pile(1, 3000, 2, 8)), section(), section(pile(0, 1)), section(make([][]impl.Film, 17)...)} {
			checkGrown(t, "an end", impl.Oxidise(s, amount), oxidiseWant(s, amount))
		}
	}
	for _, amount := range numbers(leastInt, -1, 0, mostThick+1, greatestInt) {
		checkGrown(t, "a wrong amount", impl.Oxidise(section(pile(3, 1)), amount), sectionCode(impl.ErrRange))
		checkGrown(t, "a wrong amount, no columns", impl.Oxidise(section(), amount), sectionCode(impl.ErrForm))
	}
}

func TestOxidiseWrongSections(t *testing.T) {
	for _, c := range stackCases() {
		for _, amount := range numbers(0, 1, 100) {
			checkGrown(t, c.name, impl.Oxidise(c.s, amount), oxidiseWant(c.s, amount))
		}
	}
}

func TestOxidiseAllSmallColumns(t *testing.T) {
	for _, films := range allPiles(4, 3, 1, 2, 11) {
		for _, amount := range numbers(1, 2, 3, 4, 5, 7, 8, 25, 27, 28, 1000) {
			checkGrown(t, "a small column", impl.Oxidise(section(films), amount), oxidiseWant(section(films), amount))
		}
	}
}

// Every amount upon every little silicon: either all of the oxide grows, or all of the silicon is eaten.
func TestEveryAmount(t *testing.T) {
	for silicon := int64(1); silicon < 60; silicon++ {
		for amount := int64(1); amount < 150; amount++ {
			s := section(pile(1, silicon))
			got := impl.Oxidise(s, amount)
			checkGrown(t, "an amount", got, oxidiseWant(s, amount))
			book := impl.MatterOf(got.Section).List
			eaten, grown := silicon-book[0], book[1]
			asAsked := grown == amount && eaten <= silicon && 100*eaten <= 44*amount && 44*amount < 100*(eaten+1)
			allEaten := grown < amount && eaten == silicon && 44*grown <= 100*silicon && 100*silicon < 44*(grown+1)
			if !asAsked && !allEaten {
				t.Fatalf("of %d silicon %d is gone, and there is %d oxide of %d", silicon, eaten, grown, amount)
			}
		}
	}
}

// All but silicon and oxide stays; where nothing grows, the column stays.
func TestBooksOfOxide(t *testing.T) {
	chance, met := rand.New(rand.NewSource(140)), map[int64]int{}
	for i := range 2000 {
		s := someSection(chance, 1+chance.Intn(6), 24, numbers(4, 40, 4000)[i%3])
		if i%20 == 0 {
			s.Columns[0] = pile(3, 1+chance.Int63n(9), 1, mostThick-chance.Int63n(100)-9)
		}
		amount := 1 + chance.Int63n(numbers(20, 200, 20000)[i/3%3])
		got := impl.Oxidise(s, amount)
		checkGrown(t, "some section", got, oxidiseWant(s, amount))
		met[got.Code]++
		if got.Code != impl.OK {
			continue
		}
		before, after := impl.MatterOf(s), impl.MatterOf(got.Section)
		if after.Code != impl.OK || !slices.Equal(before.List[2:], after.List[2:]) || before.List[0] < after.List[0] || before.List[1] > after.List[1] {
			t.Fatalf("%s by %d becomes %s", brief(s), amount, brief(got))
		}
	}
	if met[impl.OK] < 500 || met[impl.ErrMany] < 20 || met[impl.ErrRange] < 20 {
		t.Errorf("the codes are %v", met)
	}
}
