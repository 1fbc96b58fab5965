package tests

import (
	"math/rand"
	"slices"
	"testing"

	"loop.example/g00057/impl"
)

// profileCase is a profile and its fault.
type profileCase struct {
	name string
	p    impl.Profile
	code int64
}

func profileCases() []profileCase {
	return []profileCase{
		{"nothing", impl.Profile{}, impl.ErrForm},
		{"no cell", impl.Profile{Cells: []int64{}}, impl.ErrForm},
		{"no cell, but Out", profile(7), impl.ErrForm},
		{"one cell", profile(0, 0), impl.OK},
		{"two cells", profile(1, 2, 3), impl.OK},
		{"one less than MaxDepth", level(1, 39, 1), impl.OK},
		{"MaxDepth", level(1, 40, 1), impl.OK},
		{"one more", level(1, 41, 1), impl.ErrMany},
		{"far too many", level(1, 100000, 1), impl.ErrMany},

		{"a cell of -1", profile(0, -1), impl.ErrRange},
		{"a cell of 10^9", profile(0, mostAtoms), impl.OK},
		{"a cell of one more", profile(0, mostAtoms+1), impl.ErrRange},
		{"a cell of the least", profile(0, leastInt), impl.ErrRange},
		{"a cell of the greatest", profile(0, greatestInt), impl.ErrRange},
		{"the last cell of -1", profile(0, 1, 2, -1), impl.ErrRange},
		{"the last cell of one more", profile(0, 1, 2, mostAtoms+1), impl.ErrRange},
		{"a cell in the middle of -1", profile(0, 1, -1, 2), impl.ErrRange},
		{"two cells that are 0 together", profile(0, -5, 5), impl.ErrRange},
		{"Out of -1", profile(-1, 1), impl.ErrRange},
		{"Out of 10^9", profile(mostAtoms, 1), impl.OK},
		{"Out of one more", profile(mostAtoms+1, 1), impl.ErrRange},
		{"Out of the least", profile(leastInt, 1), impl.ErrRange},
		{"Out of the greatest", profile(greatestInt, 1), impl.ErrRange},
		{"all at 0", level(0, 40, 0), impl.OK},
		{"all at 10^9", level(mostAtoms, 40, mostAtoms), impl.OK},
		{"all at -1", level(-1, 40, -1), impl.ErrRange},
		{"all at one more", level(mostAtoms+1, 40, mostAtoms+1), impl.ErrRange},
		{"all at the least", level(leastInt, 40, leastInt), impl.ErrRange},
		{"all at the greatest", level(greatestInt, 40, greatestInt), impl.ErrRange},
		{"what wraps to little", profile(2, greatestInt, greatestInt), impl.ErrRange},

		{"no cell, Out of -1", profile(-1), impl.ErrForm},
		{"no cell, Out of one more", profile(mostAtoms + 1), impl.ErrForm},
		{"too many, the first of -1", withAtoms(level(0, 41, 0), 0, -1), impl.ErrMany},
		{"too many, the last of one more", withAtoms(level(0, 41, 0), 40, mostAtoms+1), impl.ErrMany},
		{"too many, Out of -1", level(-1, 41, 0), impl.ErrMany},
		{"too many, all at the greatest", level(greatestInt, 41, greatestInt), impl.ErrMany},
	}
}

func TestProfileFault(t *testing.T) {
	for _, c := range profileCases() {
		if got := impl.ProfileFault(c.p); got != c.code || got != profileFaultWant(c.p) {
			t.Errorf("%s: %d, want %d", c.name, got, c.code)
		}
	}
}

// Every end stands in each cell and in Out, of short and of long profiles.
func TestEveryEndInAProfile(t *testing.T) {
	for _, n := range []int{1, 2, 3, 39, 40, 41} {
		for depth := range n + 1 {
			for _, end := range profileEnds() {
				p := withAtoms(level(4, n, 5), depth, end)
				if got, want := impl.ProfileFault(p), profileFaultWant(p); got != want {
					t.Errorf("%d at depth %d of %d: %d, want %d", end, depth, n, got, want)
				}
			}
		}
	}
}

func TestFaultsOfAllSmallProfiles(t *testing.T) {
	for _, out := range numbers(leastInt, -1, 0, mostAtoms, mostAtoms+1, greatestInt) {
		for _, p := range append(allProfiles(4, out, leastInt, -1, 0, mostAtoms, mostAtoms+1, greatestInt), profile(out)) {
			if got, want := impl.ProfileFault(p), profileFaultWant(p); got != want {
				t.Fatalf("the fault of %v is %d, want %d", p, got, want)
			}
		}
	}
}

func TestDoseOf(t *testing.T) {
	checkValue(t, "one cell", impl.DoseOf(profile(0, 7)), value(7))
	checkValue(t, "Out alone", impl.DoseOf(profile(9, 0)), value(9))
	checkValue(t, "three cells and Out", impl.DoseOf(profile(1000, 1, 20, 300)), value(1321))
	checkValue(t, "nothing in it", impl.DoseOf(level(0, 40, 0)), value(0))
	checkValue(t, "all at their greatest", impl.DoseOf(level(mostAtoms, 40, mostAtoms)), value(41000000000))
	checkValue(t, "the last cell counts", impl.DoseOf(withAtoms(level(0, 40, 0), 39, 3)), value(3))
	for _, c := range profileCases() {
		checkValue(t, c.name, impl.DoseOf(c.p), doseWant(c.p))
	}
}

func TestDoseOfSomeProfiles(t *testing.T) {
	chance := rand.New(rand.NewSource(150))
	for i := range 500 {
		p := someProfile(chance, 1+chance.Intn(40), numbers(9, 5000, mostAtoms)[i%3])
		checkValue(t, "some profile", impl.DoseOf(p), doseWant(p))
		turned := profile(p.Out, slices.Clone(p.Cells)...)
		slices.Reverse(turned.Cells)
		checkValue(t, "turned round", impl.DoseOf(turned), doseWant(p))
	}
}
