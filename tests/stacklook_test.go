package tests

import (
	"math/rand"
	"testing"

	"loop.example/g00057/impl"
)

func threeColumns() impl.Section {
	return section(pile(1, 5, 2, 3), pile(), pile(3, 1, 1, 2, 3, 4))
}

func TestTopOf(t *testing.T) {
	for i, want := range numbers(8, 0, 7) {
		checkValue(t, "a column", impl.TopOf(threeColumns(), int64(i)), value(want))
	}
	full := section(pile(1, mostThick-1, 2, 1), everyFilm(24, 1, 2, 4000))
	checkValue(t, "of MaxThick", impl.TopOf(full, 0), value(mostThick))
	checkValue(t, "of MaxStack films", impl.TopOf(full, 1), value(96000))
	most := section(longer([][]impl.Film{pile(7, 9)}, 16)...)
	checkValue(t, "the last of MaxColumns", impl.TopOf(most, 15), value(9))
	checkValue(t, "one more", impl.TopOf(most, 16), valueCode(impl.ErrNone))
}

func TestNoSuchColumn(t *testing.T) {
	for _, column := range numbers(-1, 3, 4, 16, 1<<32, 1<<32+1, -1<<32, leastInt, leastInt+1, greatestInt-1, greatestInt) {
		checkValue(t, "the top", impl.TopOf(threeColumns(), column), valueCode(impl.ErrNone))
		checkValue(t, "at a height", impl.LookAt(threeColumns(), column, 0), valueCode(impl.ErrNone))
		checkValue(t, "below", impl.LookAt(threeColumns(), column, -1), valueCode(impl.ErrNone))
	}
}

func TestLookAt(t *testing.T) {
	one := section(pile(1, 5, 2, 3, 1, 1), pile())
	for height, mat := range numbers(1, 1, 1, 1, 1, 2, 2, 2, 1, 0, 0) {
		checkValue(t, "a height", impl.LookAt(one, 0, int64(height)), value(mat))
	}
	for _, height := range numbers(leastInt, leastInt+1, -1<<32, -1, 9, mostThick, 1<<32, greatestInt-1, greatestInt) {
		checkValue(t, "beside all", impl.LookAt(one, 0, height), value(0))
	}
	for _, height := range numbers(leastInt, -1, 0, 1, greatestInt) {
		checkValue(t, "with nothing", impl.LookAt(one, 1, height), value(0))
	}
	full := section(pile(12, 1, 1, mostThick-1))
	checkValue(t, "the lowest", impl.LookAt(full, 0, 0), value(12))
	checkValue(t, "the next", impl.LookAt(full, 0, 1), value(1))
	checkValue(t, "the highest", impl.LookAt(full, 0, mostThick-1), value(1))
	checkValue(t, "above all", impl.LookAt(full, 0, mostThick), value(0))
}

func TestMatterOf(t *testing.T) {
	checkInts(t, "three columns", impl.MatterOf(threeColumns()), ints(7, 3, 5, 0, 0, 0, 0, 0, 0, 0, 0, 0))
	checkInts(t, "nothing", impl.MatterOf(section(nil)), ints(make([]int64, 12)...))
	checkInts(t, "the last material", impl.MatterOf(section(pile(12, 7), pile(12, 8))), ints(0, 0, 0, 0, 0, 0, 0, 0, 0, 0, 0, 15))
	most := section(longer([][]impl.Film{pile(6, mostThick)}, 16)...)
	checkInts(t, "the most there is", impl.MatterOf(most), ints(0, 0, 0, 0, 0, 16*mostThick, 0, 0, 0, 0, 0, 0))
	checkInts(t, "in one column twice", impl.MatterOf(section(everyFilm(24, 4, 5, 10))), ints(0, 0, 0, 120, 120, 0, 0, 0, 0, 0, 0, 0))
}

// A fault of the section comes ahead of all that is asked of it.
func TestLooksAtWrongSections(t *testing.T) {
	for _, c := range stackCases() {
		checkInts(t, c.name, impl.MatterOf(c.s), matterWant(c.s))
		for _, column := range numbers(-1, 0, 1, 17, leastInt, greatestInt) {
			checkValue(t, c.name, impl.TopOf(c.s, column), topWant(c.s, column))
			checkValue(t, c.name, impl.LookAt(c.s, column, 1), lookWant(c.s, column, 1))
		}
	}
}

// At each height just one film is found; the films found together are the books.
func TestEveryHeightOfSections(t *testing.T) {
	chance := rand.New(rand.NewSource(135))
	for range 200 {
		s := someSection(chance, 1+chance.Intn(5), 9, 12)
		met, matter := make([]int64, 13), int64(0)
		for i := range int64(len(s.Columns)) {
			top := impl.TopOf(s, i)
			checkValue(t, "the top", top, topWant(s, i))
			matter += top.Value
			for height := int64(-2); height < top.Value+3; height++ {
				got := impl.LookAt(s, i, height)
				checkValue(t, "a height", got, lookWant(s, i, height))
				met[got.Value]++
			}
		}
		checkInts(t, "all heights", impl.MatterOf(s), ints(met[1:]...))
		if met[0] != 5*int64(len(s.Columns)) || totalOf(grid(met[1:])) != matter {
			t.Fatalf("of %s there is %v", brief(s), met)
		}
	}
}
