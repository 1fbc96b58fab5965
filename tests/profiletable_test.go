package tests

import (
	"math/rand"
	"slices"
	"testing"

	"loop.example/g00057/impl"
)

// tableCase is what is implanted by a table, and what comes of it.
type tableCase struct {
	name   string
	p      impl.Profile
	dose   int64
	shares []int64
	from   int64
	want   impl.ProfileResult
}

func tableCases() []tableCase {
	two := profile(0, 0, 0)
	return []tableCase{
		{"three shares for two cells", two, 1000, numbers(500, 300, 100), 0, profileOf(200, 500, 300)},
		{"upon what is there", profile(7, 1, 2), 1000, numbers(500, 300, 100), 0, profileOf(207, 501, 302)},
		{"from the second cell on", two, 1000, numbers(500, 300, 100), 1, profileOf(500, 0, 500)},
		{"from behind the last on", two, 1000, numbers(500, 300, 100), 2, profileOf(1000, 0, 0)},
		{"from far behind the last on", two, 1000, numbers(500, 300, 100), 40, profileOf(1000, 0, 0)},
		{"fewer shares than cells", level(0, 4, 1), 1000, numbers(500, 300), 1, profileOf(200, 1, 501, 301, 1)},
		{"one share, all of it", two, 1000, numbers(1000), 0, profileOf(0, 1000, 0)},
		{"one share, none of it", two, 1000, numbers(0), 0, profileOf(1000, 0, 0)},
		{"one share, all into the last cell", two, 77, numbers(1000), 1, profileOf(0, 0, 77)},
		{"no dose", profile(5, 3, 4), 0, numbers(500, 500), 0, profileOf(5, 3, 4)},
		{"a dose of 1, a share of 999", two, 1, numbers(999, 1), 0, profileOf(1, 0, 0)},
		{"a dose of 1, a share of 1000", two, 1, numbers(0, 1000), 0, profileOf(0, 0, 1)},
		{"shares that are not whole", two, 7, numbers(500, 500), 0, profileOf(1, 3, 3)},
		{"three that are not whole", level(0, 3, 0), 10, numbers(333, 333, 334), 0, profileOf(1, 3, 3, 3)},
		{"rounded one by one, not together", level(0, 3, 0), 999, numbers(1, 1, 1), 0, profileOf(999, 0, 0, 0)},
		{"behind the last, and not whole", two, 7, numbers(500, 0, 500), 0, profileOf(4, 3, 0)},
		{"the greatest dose", two, 1000000, numbers(1, 999), 0, profileOf(0, 1000, 999000)},
		{"MaxDepth shares for MaxDepth cells", level(0, 40, 0), 1000000, slices.Repeat(numbers(25), 40), 0, impl.ProfileResult{Profile: level(0, 40, 25000)}},
		{"MaxDepth shares from the last cell on", level(0, 40, 0), 1000000, slices.Repeat(numbers(25), 40), 39, impl.ProfileResult{Profile: withAtoms(level(975000, 40, 0), 39, 25000)}},
		{"MaxDepth shares from MaxDepth on", level(0, 40, 0), 1000000, slices.Repeat(numbers(25), 40), 40, impl.ProfileResult{Profile: level(1000000, 40, 0)}},

		{"a cell that comes to 10^9", profile(0, mostAtoms-500), 500, numbers(1000), 0, profileOf(0, mostAtoms)},
		{"a cell that comes to one above", profile(0, mostAtoms-500), 501, numbers(1000), 0, profileCode(impl.ErrRange)},
		{"the last cell comes to 10^9", profile(0, 1, mostAtoms-500), 1000, numbers(500, 500), 0, profileOf(0, 501, mostAtoms)},
		{"the last cell comes to one above", profile(0, 1, mostAtoms-500), 1000, numbers(499, 501), 0, profileCode(impl.ErrRange)},
		{"Out comes to 10^9 by a rest", profile(mostAtoms-1, 0), 7, numbers(999), 0, profileOf(mostAtoms, 6)},
		{"Out comes to one above by a rest", profile(mostAtoms, 0), 7, numbers(999), 0, profileCode(impl.ErrRange)},
		{"Out comes to 10^9 by what is behind the last", profile(mostAtoms-400, 0), 1000, numbers(600, 400), 0, profileOf(mostAtoms, 600)},
		{"Out comes to one above by what is behind the last", profile(mostAtoms-399, 0), 1000, numbers(600, 400), 0, profileCode(impl.ErrRange)},
		{"Out comes to 10^9 by both", profile(mostAtoms-5, 0), 9, numbers(500, 500), 0, profileOf(mostAtoms, 4)},
		{"Out comes to one above by both", profile(mostAtoms-4, 0), 9, numbers(500, 500), 0, profileCode(impl.ErrRange)},
		{"nothing comes to what is full", level(mostAtoms, 3, mostAtoms), 0, numbers(1000), 0, impl.ProfileResult{Profile: level(mostAtoms, 3, mostAtoms)}},
		{"a full cell beside the others", profile(0, mostAtoms, 0), 10, numbers(0, 1000), 0, profileOf(0, mostAtoms, 10)},
	}
}

func TestImplantTable(t *testing.T) {
	for _, c := range tableCases() {
		got := impl.ImplantTable(c.p, c.dose, c.shares, c.from)
		checkMade(t, c.name, got, c.want)
		checkMade(t, c.name+", told plainly", tableWant(c.p, c.dose, c.shares, c.from), c.want)
		checkAtoms(t, c.name, c.p, c.dose, got)
	}
}

func TestImplantTableFaults(t *testing.T) {
	two, one := profile(0, 1, 2), numbers(1000)
	for _, c := range []struct {
		name   string
		p      impl.Profile
		dose   int64
		shares []int64
		from   int64
		code   int64
	}{
		{"no shares", two, 1, nil, 0, impl.ErrForm},
		{"MaxDepth shares", two, 0, make([]int64, 40), 0, impl.OK},
		{"one share more", two, 1, make([]int64, 41), 0, impl.ErrMany},
		{"far too many shares", two, 1, make([]int64, 100000), 0, impl.ErrMany},
		{"a dose of -1", two, -1, one, 0, impl.ErrRange},
		{"a dose of 10^6", two, 1000000, one, 0, impl.OK},
		{"a dose of one more", two, 1000001, one, 0, impl.ErrRange},
		{"a share of -1", two, 1, numbers(-1), 0, impl.ErrRange},
		{"a share of 1001", two, 1, numbers(1001), 0, impl.ErrRange},
		{"a second share of -1", two, 1, numbers(500, -1), 0, impl.ErrRange},
		{"shares of 1001 and -1", two, 1, numbers(1001, -1), 0, impl.ErrRange},
		{"shares that are 1000 together", two, 1, numbers(999, 1), 0, impl.OK},
		{"shares that are 1001 together", two, 1, numbers(1000, 1), 0, impl.ErrRange},
		{"shares that are 1001 together, no dose", two, 0, numbers(1000, 1), 0, impl.ErrRange},
		{"shares that are 1001 together behind the last", two, 1, numbers(400, 300, 301), 0, impl.ErrRange},
		{"shares that wrap to little", two, 1, numbers(greatestInt, greatestInt, 3), 0, impl.ErrRange},
		{"MaxDepth shares of 1000", two, 1, slices.Repeat(one, 40), 0, impl.ErrRange},
		{"from -1", two, 1, one, -1, impl.ErrRange},
		{"from MaxDepth", two, 1, one, 40, impl.OK},
		{"from one more", two, 1, one, 41, impl.ErrRange},
		{"from the greatest", two, 1, one, greatestInt, impl.ErrRange},
		{"from the least", two, 1, one, leastInt, impl.ErrRange},

		{"no cells, no shares", profile(0), 1, nil, 0, impl.ErrForm},
		{"no cells, too many shares", profile(0), 1, make([]int64, 41), 0, impl.ErrForm},
		{"too many cells, no shares", level(0, 41, 0), 1, nil, 0, impl.ErrMany},
		{"a cell of -1, no shares", profile(0, -1), 1, nil, 0, impl.ErrRange},
		{"a cell of -1, too many shares", profile(0, -1), 1, make([]int64, 41), 0, impl.ErrRange},
		{"no shares, a dose of -1", two, -1, nil, 0, impl.ErrForm},
		{"no shares, from -1", two, 1, nil, -1, impl.ErrForm},
		{"too many shares, a dose of -1", two, -1, make([]int64, 41), 0, impl.ErrMany},
		{"too many shares of -1", two, 1, slices.Repeat(numbers(-1), 41), 0, impl.ErrMany},
		{"too many shares, from 41", two, 1, make([]int64, 41), 41, impl.ErrMany},
		{"no shares for what is full", level(mostAtoms, 2, mostAtoms), 1, nil, 0, impl.ErrForm},
		{"too many shares for what is full", level(mostAtoms, 2, mostAtoms), 1, make([]int64, 41), 0, impl.ErrMany},
	} {
		got, want := impl.ImplantTable(c.p, c.dose, c.shares, c.from), tableWant(c.p, c.dose, c.shares, c.from)
		if got.Code != c.code {
			t.Errorf("%s: the code is %d, want %d", c.name, got.Code, c.code)
		}
		checkMade(t, c.name, got, want)
	}
	for _, c := range profileCases() {
		checkMade(t, c.name, impl.ImplantTable(c.p, 10, numbers(300, 500), 0), tableWant(c.p, 10, numbers(300, 500), 0))
		checkMade(t, c.name+", no shares", impl.ImplantTable(c.p, 10, nil, 0), tableWant(c.p, 10, nil, 0))
	}
}

// Every from, every number of shares, and every number of cells meet.
func TestImplantTableEverywhere(t *testing.T) {
	for _, n := range []int{1, 2, 3, 20, 39, 40} {
		for _, many := range []int{1, 2, 3, 21, 39, 40} {
			for from := range int64(41) {
				p, shares := level(6, n, 5), slices.Repeat(numbers(25), many)
				got := impl.ImplantTable(p, 999, shares, from)
				checkMade(t, "everywhere", got, tableWant(p, 999, shares, from))
				checkAtoms(t, "everywhere", p, 999, got)
			}
		}
	}
}

// Every small dose is divided by every share, and no atom is lost by what is rounded.
func TestImplantTableIsRoundedDown(t *testing.T) {
	for share := range int64(1001) {
		for _, dose := range numbers(1, 2, 3, 7, 999, 1000, 1001, 999999, 1000000) {
			p, shares := profile(3, 0, 4), numbers(share, 1000-share)
			got := impl.ImplantTable(p, dose, shares, 0)
			checkMade(t, "two shares", got, tableWant(p, dose, shares, 0))
			checkAtoms(t, "two shares", p, dose, got)
		}
	}
}

func TestImplantTableOfSomeProfiles(t *testing.T) {
	chance, met := rand.New(rand.NewSource(151)), map[int64]int{}
	for i := range 4000 {
		p := someProfile(chance, 1+chance.Intn(40), numbers(9, 5000, mostAtoms)[i%3])
		dose, shares, from := chance.Int63n(numbers(30, 1000001)[i/3%2]), someShares(chance, 1+chance.Intn(40)), chance.Int63n(41)
		got := impl.ImplantTable(p, dose, shares, from)
		checkMade(t, "some table", got, tableWant(p, dose, shares, from))
		checkAtoms(t, "some table", p, dose, got)
		met[got.Code]++
	}
	if met[impl.OK] < 1000 || met[impl.ErrRange] < 100 {
		t.Errorf("the codes are %v", met)
	}
}
