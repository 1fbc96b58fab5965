package tests

import (
	"math/rand"
	"testing"

	"loop.example/g00057/impl"
)

// takeCase is what a profile is stripped or activated by, and what comes of it.
type takeCase struct {
	name string
	p    impl.Profile
	n    int64
	want impl.ProfileResult
}

func stripCases() []takeCase {
	three := profile(7, 100, 20, 3)
	return []takeCase{
		{"none", three, 0, profileOf(7, 100, 20, 3)},
		{"one", three, 1, profileOf(107, 20, 3)},
		{"all but one", three, 2, profileOf(127, 3)},
		{"all", three, 3, profileCode(impl.ErrRange)},
		{"one more than all", three, 4, profileCode(impl.ErrRange)},
		{"-1", three, -1, profileCode(impl.ErrRange)},
		{"none of one", profile(7, 100), 0, profileOf(7, 100)},
		{"one of one", profile(7, 100), 1, profileCode(impl.ErrRange)},
		{"-1 of one", profile(7, 100), -1, profileCode(impl.ErrRange)},
		{"39 of MaxDepth", level(0, 40, 2), 39, profileOf(78, 2)},
		{"MaxDepth of MaxDepth", level(0, 40, 2), 40, profileCode(impl.ErrRange)},
		{"the least", three, leastInt, profileCode(impl.ErrRange)},
		{"the greatest", three, greatestInt, profileCode(impl.ErrRange)},
		{"what wraps to one", three, 1<<32 + 1, profileCode(impl.ErrRange)},
		{"empty cells", profile(mostAtoms, 0, 0, 5), 2, profileOf(mostAtoms, 5)},

		{"Out comes to 10^9", profile(mostAtoms-120, 100, 20, 3), 2, profileOf(mostAtoms, 3)},
		{"Out comes to one above", profile(mostAtoms-119, 100, 20, 3), 2, profileCode(impl.ErrRange)},
		{"Out comes to 10^9 from 0", profile(0, mostAtoms, 3), 1, profileOf(mostAtoms, 3)},
		{"Out comes to one above from 0", profile(0, mostAtoms, 1, 3), 2, profileCode(impl.ErrRange)},
		{"all there may be, none gone", level(mostAtoms, 40, mostAtoms), 0, impl.ProfileResult{Profile: level(mostAtoms, 40, mostAtoms)}},
		{"all there may be", level(mostAtoms, 40, mostAtoms), 39, profileCode(impl.ErrRange)},
		{"no cells", profile(0), 0, profileCode(impl.ErrForm)},
		{"no cells, -1", profile(0), -1, profileCode(impl.ErrForm)},
		{"too many cells, -1", level(0, 41, 0), -1, profileCode(impl.ErrMany)},
		{"a cell of -1 that would be gone", profile(0, -1, 1), 1, profileCode(impl.ErrRange)},
	}
}

func TestStrip(t *testing.T) {
	for _, c := range stripCases() {
		got := impl.Strip(c.p, c.n)
		checkMade(t, c.name, got, c.want)
		checkMade(t, c.name+", told plainly", stripWant(c.p, c.n), c.want)
		checkAtoms(t, c.name, c.p, 0, got)
	}
	for _, c := range profileCases() {
		for _, cells := range numbers(-1, 0, 1, 39, 40, 41) {
			checkMade(t, c.name, impl.Strip(c.p, cells), stripWant(c.p, cells))
		}
	}
}

func TestStripEveryDepth(t *testing.T) {
	for n := 1; n <= 40; n++ {
		p := level(9, n, 0)
		for depth := range n {
			p.Cells[depth] = int64(depth*depth + 1)
		}
		for cells := int64(-1); cells <= int64(n)+1; cells++ {
			got := impl.Strip(p, cells)
			checkMade(t, "a depth", got, stripWant(p, cells))
			checkAtoms(t, "a depth", p, 0, got)
		}
		for _, end := range profileEnds() {
			checkMade(t, "an end", impl.Strip(p, end), stripWant(p, end))
		}
	}
}

func activeCases() []takeCase {
	three := profile(7, 100, 20, 3)
	return []takeCase{
		{"below one", three, 50, profileOf(57, 50, 20, 3)},
		{"below two", three, 10, profileOf(107, 10, 10, 3)},
		{"below all", three, 1, profileOf(127, 1, 1, 1)},
		{"none active", three, 0, profileOf(130, 0, 0, 0)},
		{"just the greatest", three, 100, profileOf(7, 100, 20, 3)},
		{"one less than it", three, 99, profileOf(8, 99, 20, 3)},
		{"one more than it", three, 101, profileOf(7, 100, 20, 3)},
		{"just one of them", three, 20, profileOf(87, 20, 20, 3)},
		{"10^9", profile(0, mostAtoms, 1), mostAtoms, profileOf(0, mostAtoms, 1)},
		{"one less than 10^9", profile(0, mostAtoms, 1), mostAtoms - 1, profileOf(1, mostAtoms-1, 1)},
		{"one above 10^9", three, mostAtoms + 1, profileCode(impl.ErrRange)},
		{"-1", three, -1, profileCode(impl.ErrRange)},
		{"the least", three, leastInt, profileCode(impl.ErrRange)},
		{"the greatest", three, greatestInt, profileCode(impl.ErrRange)},
		{"nothing there", level(0, 40, 0), 0, impl.ProfileResult{Profile: level(0, 40, 0)}},
		{"the last of MaxDepth", withAtoms(level(0, 40, 2), 39, 9), 2, impl.ProfileResult{Profile: level(7, 40, 2)}},

		{"Out comes to 10^9", profile(mostAtoms-100, 100, 20, 3), 10, profileOf(mostAtoms, 10, 10, 3)},
		{"Out comes to one above", profile(mostAtoms-99, 100, 20, 3), 10, profileCode(impl.ErrRange)},
		{"Out comes to 10^9 from 0", profile(0, mostAtoms, 0), 0, profileOf(mostAtoms, 0, 0)},
		{"Out comes to one above from 0", profile(0, mostAtoms, 1), 0, profileCode(impl.ErrRange)},
		{"Out is full and gets none", profile(mostAtoms, 5, 6), 6, profileOf(mostAtoms, 5, 6)},
		{"Out is full and gets one", profile(mostAtoms, 5, 6), 5, profileCode(impl.ErrRange)},
		{"all there may be", level(mostAtoms, 40, mostAtoms), mostAtoms, impl.ProfileResult{Profile: level(mostAtoms, 40, mostAtoms)}},
		{"all there may be, none active", level(mostAtoms, 40, mostAtoms), 0, profileCode(impl.ErrRange)},
		{"no cells", profile(0), 5, profileCode(impl.ErrForm)},
		{"no cells, -1", profile(0), -1, profileCode(impl.ErrForm)},
		{"too many cells, -1", level(0, 41, 0), -1, profileCode(impl.ErrMany)},
		{"a cell of one more, which would be cut", profile(0, mostAtoms+1), 5, profileCode(impl.ErrRange)},
	}
}

func TestActiveOf(t *testing.T) {
	for _, c := range activeCases() {
		got := impl.ActiveOf(c.p, c.n)
		checkMade(t, c.name, got, c.want)
		checkMade(t, c.name+", told plainly", activeWant(c.p, c.n), c.want)
		checkAtoms(t, c.name, c.p, 0, got)
	}
	for _, c := range profileCases() {
		for _, most := range profileEnds() {
			checkMade(t, c.name, impl.ActiveOf(c.p, most), activeWant(c.p, most))
		}
	}
}

func TestActiveOfAllSmallProfiles(t *testing.T) {
	for _, p := range allProfiles(5, 3, 0, 1, 2, 3) {
		for most := int64(-1); most <= 4; most++ {
			got := impl.ActiveOf(p, most)
			checkMade(t, "a small profile", got, activeWant(p, most))
			checkAtoms(t, "a small profile", p, 0, got)
		}
		for cells := int64(-1); cells <= 6; cells++ {
			got := impl.Strip(p, cells)
			checkMade(t, "a small profile", got, stripWant(p, cells))
			checkAtoms(t, "a small profile", p, 0, got)
		}
	}
}

func TestTakenOfSomeProfiles(t *testing.T) {
	chance, met := rand.New(rand.NewSource(155)), map[int64]int{}
	for i := range 4000 {
		p := someProfile(chance, 1+chance.Intn(numbersOf(3, 40)[i/3%2]), numbers(9, 5000, mostAtoms)[i%3])
		cells, most := chance.Int63n(int64(len(p.Cells))), chance.Int63n(numbers(9, 5000, mostAtoms)[i%3]+1)
		stripped, active := impl.Strip(p, cells), impl.ActiveOf(p, most)
		checkMade(t, "stripped", stripped, stripWant(p, cells))
		checkMade(t, "active", active, activeWant(p, most))
		checkAtoms(t, "stripped", p, 0, stripped)
		checkAtoms(t, "active", p, 0, active)
		met[stripped.Code]++
		met[active.Code]++
	}
	if met[impl.OK] < 2000 || met[impl.ErrRange] < 500 {
		t.Errorf("the codes are %v", met)
	}
}
