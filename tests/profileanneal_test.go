package tests

import (
	"math/rand"
	"testing"

	"loop.example/g00057/impl"
)

// heatCase is a profile that is annealed, and what comes of it.
type heatCase struct {
	name         string
	p            impl.Profile
	share, steps int64
	want         impl.ProfileResult
}

func heatCases() []heatCase {
	return []heatCase{
		{"once", profile(0, 64, 0), 16, 1, profileOf(0, 48, 16)},
		{"twice", profile(0, 64, 0), 16, 2, profileOf(4, 40, 20)},
		{"three times", profile(0, 64, 0, 0), 16, 3, profileOf(1, 35, 21, 7)},
		{"from the last", profile(0, 0, 64), 16, 1, profileOf(16, 16, 32)},
		{"from the middle", profile(0, 0, 64, 0), 16, 1, profileOf(0, 16, 32, 16)},
		{"upon what is out", profile(9, 0, 64), 16, 1, profileOf(25, 16, 32)},
		{"all at one time", profile(0, 64, 64, 64), 16, 1, profileOf(16, 64, 64, 48)},
		{"all at one time, both ways", profile(0, 64, 128, 0), 16, 1, profileOf(0, 80, 80, 32)},
		{"no step", profile(3, 64, 5), 16, 0, profileOf(3, 64, 5)},
		{"no share", profile(3, 64, 5), 0, 50, profileOf(3, 64, 5)},
		{"nothing to give", level(0, 40, 0), 32, 50, impl.ProfileResult{Profile: level(0, 40, 0)}},

		{"one cell", profile(0, 64), 16, 1, profileOf(16, 48)},
		{"one cell, twice", profile(0, 64), 16, 2, profileOf(28, 36)},
		{"one cell, half of it", profile(0, 64), 32, 1, profileOf(32, 32)},
		{"one cell, half of it each time", profile(0, 64), 32, 6, profileOf(63, 1)},
		{"one cell, half of it to the end", profile(0, 64), 32, 50, profileOf(63, 1)},
		{"two cells, half of the first", profile(0, 64, 0), 32, 1, profileOf(0, 32, 32)},
		{"two cells, half of the last", profile(0, 0, 64), 32, 1, profileOf(32, 32, 0)},
		{"three cells, half of the middle", profile(0, 0, 64, 0), 32, 1, profileOf(0, 32, 0, 32)},
		{"the first keeps its half", profile(0, 65, 0, 0), 32, 1, profileOf(0, 33, 32, 0)},
		{"the middle keeps what is not whole", profile(0, 0, 65, 0), 32, 1, profileOf(0, 32, 1, 32)},
		{"the last keeps what is not whole", profile(0, 0, 0, 65), 32, 1, profileOf(32, 0, 32, 1)},

		{"63 gives none of the least share", profile(0, 63, 63), 1, 50, profileOf(0, 63, 63)},
		{"64 gives 1 of it", profile(0, 64, 0), 1, 1, profileOf(0, 63, 1)},
		{"127 gives 1 of it", profile(0, 0, 127, 0), 1, 1, profileOf(0, 1, 125, 1)},
		{"128 gives 2 of it", profile(0, 0, 128, 0), 1, 1, profileOf(0, 2, 124, 2)},
		{"3 gives none of 16", profile(0, 3), 16, 50, profileOf(0, 3)},
		{"4 gives 1 of 16", profile(0, 4), 16, 50, profileOf(1, 3)},
		{"1 gives none of 32", profile(0, 1, 1, 1), 32, 50, profileOf(0, 1, 1, 1)},
		{"2 gives 1 of 32", profile(0, 0, 2, 0), 32, 1, profileOf(0, 1, 0, 1)},
		{"each way is rounded by itself", profile(0, 0, 3, 0), 32, 1, profileOf(0, 1, 1, 1)},
		{"a share that is not whole", profile(0, 63, 0), 31, 1, profileOf(0, 33, 30)},
	}
}

func TestAnneal(t *testing.T) {
	for _, c := range heatCases() {
		got := impl.Anneal(c.p, c.share, c.steps)
		checkMade(t, c.name, got, c.want)
		checkMade(t, c.name+", told plainly", annealWant(c.p, c.share, c.steps), c.want)
		checkAtoms(t, c.name, c.p, 0, got)
	}
}

func TestAnnealFaults(t *testing.T) {
	two := profile(0, 64, 0)
	for _, c := range []struct {
		name         string
		p            impl.Profile
		share, steps int64
		code         int64
	}{
		{"the share -1", two, -1, 1, impl.ErrRange},
		{"the share 32", two, 32, 1, impl.OK},
		{"the share 33", two, 33, 1, impl.ErrRange},
		{"the share 33, no steps", two, 33, 0, impl.ErrRange},
		{"-1 steps", two, 1, -1, impl.ErrRange},
		{"50 steps", two, 1, 50, impl.OK},
		{"51 steps", two, 1, 51, impl.ErrRange},
		{"51 steps, no share", two, 0, 51, impl.ErrRange},
		{"both", two, -1, -1, impl.ErrRange},
		{"the greatest of both", two, greatestInt, greatestInt, impl.ErrRange},
		{"the least of both", two, leastInt, leastInt, impl.ErrRange},
		{"no cells, the share -1", profile(0), -1, 1, impl.ErrForm},
		{"too many cells, 51 steps", level(0, 41, 0), 1, 51, impl.ErrMany},
		{"a cell of -1", profile(0, -1), 1, 1, impl.ErrRange},
		{"a cell of one more, no steps", profile(0, mostAtoms+1), 1, 0, impl.ErrRange},
	} {
		got := impl.Anneal(c.p, c.share, c.steps)
		if got.Code != c.code {
			t.Errorf("%s: the code is %d, want %d", c.name, got.Code, c.code)
		}
		checkMade(t, c.name, got, annealWant(c.p, c.share, c.steps))
	}
	for _, c := range profileCases() {
		for _, share := range numbers(-1, 0, 9) {
			checkMade(t, c.name, impl.Anneal(c.p, share, 2), annealWant(c.p, share, 2))
		}
	}
}

// What is given is rounded down, so that a cell between two others may come above 10^9; it is asked in the end alone.
func TestAnnealAboveTheMost(t *testing.T) {
	dip := profile(0, mostAtoms, mostAtoms-1, mostAtoms)
	for _, c := range []heatCase{
		{"a cell comes to one above", dip, 1, 1, profileCode(impl.ErrRange)},
		{"a cell comes to one above on the way", dip, 1, 2, profileOf(31005859, mostAtoms, 999755859, 969238281)},
		{"a cell that stays at 10^9", profile(0, mostAtoms, mostAtoms, mostAtoms), 1, 1, profileOf(15625000, mostAtoms, mostAtoms, 984375000)},
		{"a cell that comes to 10^9", profile(0, mostAtoms, 999999968, mostAtoms), 32, 1, profileOf(500000000, 999999984, mostAtoms, 499999984)},
		{"the first comes to 10^9", profile(0, mostAtoms-1, mostAtoms), 1, 1, profileOf(15625000, mostAtoms, 984374999)},
		{"no step", dip, 1, 0, impl.ProfileResult{Profile: dip}},

		{"Out comes to 10^9", profile(mostAtoms-1, 64), 1, 1, profileOf(mostAtoms, 63)},
		{"Out comes to one above", profile(mostAtoms, 64), 1, 1, profileCode(impl.ErrRange)},
		{"Out is full and gets none", profile(mostAtoms, 63), 1, 50, profileOf(mostAtoms, 63)},
		{"Out comes to one above in the second step", profile(mostAtoms-16, 0, 64), 16, 2, profileCode(impl.ErrRange)},
		{"Out comes to 10^9 in the second step", profile(mostAtoms-24, 0, 64), 16, 2, profileOf(mostAtoms, 20, 20)},
		{"all there may be", level(mostAtoms, 40, mostAtoms), 32, 50, profileCode(impl.ErrRange)},
		{"all there may be, no share", level(mostAtoms, 40, mostAtoms), 0, 50, impl.ProfileResult{Profile: level(mostAtoms, 40, mostAtoms)}},
	} {
		got := impl.Anneal(c.p, c.share, c.steps)
		checkMade(t, c.name, got, c.want)
		checkMade(t, c.name+", told plainly", annealWant(c.p, c.share, c.steps), c.want)
		checkAtoms(t, c.name, c.p, 0, got)
	}
	for depth := range 40 {
		p := withAtoms(level(0, 40, mostAtoms), depth, mostAtoms-1)
		for steps := range int64(4) {
			checkMade(t, "one less somewhere", impl.Anneal(p, 1, steps), annealWant(p, 1, steps))
		}
	}
}

func TestAnnealAllSmallProfiles(t *testing.T) {
	for _, p := range allProfiles(4, 7, 0, 1, 3, 63, 64, 130) {
		for _, share := range numbers(1, 16, 31, 32) {
			for _, steps := range numbers(1, 2, 5) {
				got := impl.Anneal(p, share, steps)
				checkMade(t, "a small profile", got, annealWant(p, share, steps))
				checkAtoms(t, "a small profile", p, 0, got)
			}
		}
	}
}

// Every share and every number of steps, for one cell, two, three, and as many as there may be.
func TestAnnealByEveryShare(t *testing.T) {
	long := level(0, 40, 1000)
	long.Cells[20] = 999983
	for _, p := range []impl.Profile{profile(1, 100003), profile(2, 0, 99991), profile(3, 100003, 1), profile(4, 1, 99991, 17), long} {
		for share := range int64(33) {
			for steps := range int64(51) {
				got := impl.Anneal(p, share, steps)
				checkMade(t, "every share", got, annealWant(p, share, steps))
				checkAtoms(t, "every share", p, 0, got)
			}
		}
	}
}

// What is annealed in two goes is what is annealed in one; by each step more no atom comes back from Out.
func TestAnnealInTwoGoes(t *testing.T) {
	chance := rand.New(rand.NewSource(153))
	for i := range 1000 {
		p := someProfile(chance, 1+chance.Intn(40), numbers(200, 100000, mostAtoms/100)[i%3])
		share, steps := chance.Int63n(33), chance.Int63n(51)
		first := chance.Int63n(steps + 1)
		half, whole := impl.Anneal(p, share, first), impl.Anneal(p, share, steps)
		checkMade(t, "two goes", impl.Anneal(half.Profile, share, steps-first), whole)
		checkMade(t, "one go", whole, annealWant(p, share, steps))
		checkAtoms(t, "one go", p, 0, whole)
		if half.Profile.Out < p.Out || whole.Profile.Out < half.Profile.Out {
			t.Fatalf("of %s comes %s, then %s", brief(p), brief(half), brief(whole))
		}
	}
}

func TestAnnealSomeGreatProfiles(t *testing.T) {
	chance, met := rand.New(rand.NewSource(154)), map[int64]int{}
	for i := range 4000 {
		p := someProfile(chance, 1+chance.Intn(6), mostAtoms)
		if i%2 == 0 {
			p = level(0, 3+chance.Intn(4), mostAtoms)
			p.Cells[1+chance.Intn(len(p.Cells)-2)] -= chance.Int63n(70)
		}
		share, steps := chance.Int63n(33), chance.Int63n(4)
		got := impl.Anneal(p, share, steps)
		checkMade(t, "a great profile", got, annealWant(p, share, steps))
		checkAtoms(t, "a great profile", p, 0, got)
		met[got.Code]++
	}
	if met[impl.OK] < 1000 || met[impl.ErrRange] < 200 {
		t.Errorf("the codes are %v", met)
	}
}
