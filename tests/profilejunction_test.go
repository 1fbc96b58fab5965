package tests

import (
	"math/rand"
	"testing"

	"loop.example/g00057/impl"
)

func TestJunctionOf(t *testing.T) {
	falling := profile(0, 100, 50, 20, 3)
	for _, c := range []struct {
		name    string
		p       impl.Profile
		against int64
		want    impl.ShapeInt
	}{
		{"between the first and the second", falling, 60, value(1)},
		{"just the second", falling, 50, value(2)},
		{"one above the second", falling, 51, value(1)},
		{"just the first", falling, 100, value(1)},
		{"one above the first", falling, 101, valueCode(impl.ErrNone)},
		{"between the last two", falling, 4, value(3)},
		{"just the last", falling, 3, valueCode(impl.ErrNone)},
		{"below all", falling, 1, valueCode(impl.ErrNone)},
		{"against 0", falling, 0, valueCode(impl.ErrNone)},
		{"against 0, empty cells", level(0, 40, 0), 0, valueCode(impl.ErrNone)},
		{"against 1, empty cells", level(0, 40, 0), 1, valueCode(impl.ErrNone)},
		{"rising", profile(0, 3, 20, 50), 10, valueCode(impl.ErrNone)},
		{"below it only ahead of the others", profile(0, 3, 4, 50, 60), 10, valueCode(impl.ErrNone)},
		{"rising and falling", profile(0, 3, 50, 4), 10, value(2)},
		{"twice", profile(0, 3, 50, 4, 50, 2), 10, value(2)},
		{"from the surface on, twice", profile(0, 50, 4, 50, 2), 10, value(1)},
		{"two below it", profile(0, 50, 4, 3), 10, value(1)},
		{"some that are not", profile(0, 50, 10, 10, 9), 10, value(3)},
		{"the last of MaxDepth", withAtoms(level(0, 40, 5), 39, 4), 5, value(39)},
		{"the first of MaxDepth is below", withAtoms(level(0, 40, 5), 0, 4), 5, valueCode(impl.ErrNone)},
		{"one cell", profile(0, 5), 5, valueCode(impl.ErrNone)},
		{"one cell below it", profile(0, 5), 6, valueCode(impl.ErrNone)},
		{"Out is no cell", profile(0, 5, 5), 5, valueCode(impl.ErrNone)},
		{"Out is not ahead of the first", profile(9, 1, 2), 5, valueCode(impl.ErrNone)},

		{"10^9", profile(0, mostAtoms, mostAtoms-1), mostAtoms, value(1)},
		{"10^9, none so great", profile(0, mostAtoms-1, 0), mostAtoms, valueCode(impl.ErrNone)},
		{"one above 10^9", profile(0, mostAtoms, 0), mostAtoms + 1, valueCode(impl.ErrRange)},
		{"-1", falling, -1, valueCode(impl.ErrRange)},
		{"the least", falling, leastInt, valueCode(impl.ErrRange)},
		{"the greatest", falling, greatestInt, valueCode(impl.ErrRange)},
		{"no cells", profile(0), 5, valueCode(impl.ErrForm)},
		{"no cells, -1", profile(0), -1, valueCode(impl.ErrForm)},
		{"too many cells, -1", level(0, 41, 0), -1, valueCode(impl.ErrMany)},
		{"a cell of -1 behind it", profile(0, 9, 1, -1), 5, valueCode(impl.ErrRange)},
	} {
		checkValue(t, c.name, impl.JunctionOf(c.p, c.against), c.want)
		checkValue(t, c.name+", told plainly", junctionWant(c.p, c.against), c.want)
	}
}

func TestJunctionOfWrongProfiles(t *testing.T) {
	for _, c := range profileCases() {
		for _, against := range profileEnds() {
			checkValue(t, c.name, impl.JunctionOf(c.p, against), junctionWant(c.p, against))
		}
	}
}

func TestJunctionOfAllSmallProfiles(t *testing.T) {
	for _, p := range allProfiles(6, 2, 0, 1, 2) {
		for against := int64(-1); against <= 3; against++ {
			checkValue(t, "a small profile", impl.JunctionOf(p, against), junctionWant(p, against))
		}
	}
}

// A junction may be at any depth but the first.
func TestJunctionAtEveryDepth(t *testing.T) {
	for n := 1; n <= 40; n++ {
		for depth := 1; depth < n; depth++ {
			p := level(0, n, 10)
			for k := depth; k < n; k++ {
				p.Cells[k] = 9
			}
			checkValue(t, "a depth", impl.JunctionOf(p, 10), value(int64(depth)))
		}
	}
}

func TestJunctionOfSomeProfiles(t *testing.T) {
	chance, met := rand.New(rand.NewSource(156)), map[int64]int{}
	for i := range 3000 {
		most := numbers(9, 5000, mostAtoms)[i%3]
		p, against := someProfile(chance, 1+chance.Intn(6), most), chance.Int63n(most+1)
		got := impl.JunctionOf(p, against)
		checkValue(t, "some profile", got, junctionWant(p, against))
		met[got.Code]++
	}
	if met[impl.OK] < 500 || met[impl.ErrNone] < 500 {
		t.Errorf("the codes are %v", met)
	}
}
