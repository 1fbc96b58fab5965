package tests

import (
	"math/rand"
	"testing"

	"loop.example/g00057/impl"
)

// The first coins of 3 from the seed 1 on are 1 2 0 0 0 0 0 1 2 2 2 0.
func TestImplantCoinsByHand(t *testing.T) {
	for _, c := range []struct {
		name  string
		p     impl.Profile
		many  int64
		kicks int64
		want  impl.ProfileResult
	}{
		{"no atom", profile(7, 5, 6), 0, 1, profileOf(7, 5, 6)},
		{"one atom, one kick", profile(0, 0, 0, 0), 1, 1, profileOf(0, 0, 1, 0)},
		{"two atoms, one kick", profile(0, 0, 0, 0), 2, 1, profileOf(0, 0, 1, 1)},
		{"five atoms, one kick", profile(0, 0, 0, 0), 5, 1, profileOf(0, 3, 1, 1)},
		{"five atoms, one kick, one cell", profile(0, 0), 5, 1, profileOf(2, 3)},
		{"five atoms, one kick, two cells", profile(9, 1, 1), 5, 1, profileOf(10, 4, 2)},
		{"one atom, five kicks", profile(0, 0, 0, 0, 0), 1, 5, profileOf(0, 0, 0, 0, 1)},
		{"one atom, five kicks, three cells", profile(0, 0, 0, 0), 1, 5, profileOf(1, 0, 0, 0)},
		{"three atoms, two kicks", profile(0, 0, 0, 0, 0), 3, 2, profileOf(0, 2, 0, 0, 1)},
		{"two atoms, three kicks", profile(0, 0, 0, 0, 0), 2, 3, profileOf(0, 1, 0, 0, 1)},
		{"four atoms, three kicks", level(0, 5, 0), 4, 3, profileOf(0, 1, 0, 0, 2, 1)},
		{"four atoms, three kicks, four cells", level(0, 4, 0), 4, 3, profileOf(1, 1, 0, 0, 2)},
		{"three atoms, four kicks", level(0, 7, 0), 3, 4, profileOf(0, 0, 1, 0, 1, 0, 0, 1)},
		{"three atoms, four kicks, six cells", level(0, 6, 0), 3, 4, profileOf(1, 0, 1, 0, 1, 0, 0)},
		{"three atoms, four kicks, one cell", level(0, 1, 0), 3, 4, profileOf(3, 0)},
	} {
		got := impl.ImplantCoins(c.p, c.many, c.kicks, 1)
		checkMade(t, c.name, got, c.want)
		checkMade(t, c.name+", told plainly", coinsImplantWant(c.p, c.many, c.kicks, 1), c.want)
		checkAtoms(t, c.name, c.p, c.many, got)
	}
}

func TestImplantCoinsFaults(t *testing.T) {
	two := profile(0, 1, 2)
	for _, c := range []struct {
		name              string
		p                 impl.Profile
		many, kicks, seed int64
		code              int64
	}{
		{"the seed 0", two, 1, 1, 0, impl.ErrForm},
		{"the seed 1", two, 1, 1, 1, impl.OK},
		{"the last seed", two, 1, 1, impl.CoinPrime - 1, impl.OK},
		{"one seed more", two, 1, 1, impl.CoinPrime, impl.ErrForm},
		{"a seed below 0", two, 1, 1, -1, impl.ErrForm},
		{"the seed 0 for no atom", two, 0, 1, 0, impl.ErrForm},
		{"-1 atoms", two, -1, 1, 1, impl.ErrRange},
		{"200 atoms", two, 200, 1, 1, impl.OK},
		{"201 atoms", two, 201, 1, 1, impl.ErrRange},
		{"no kicks", two, 1, 0, 1, impl.ErrRange},
		{"no kicks for no atom", two, 0, 0, 1, impl.ErrRange},
		{"-1 kicks", two, 1, -1, 1, impl.ErrRange},
		{"-1 kicks of -1 atoms", two, -1, -1, 1, impl.ErrRange},
		{"20 kicks", two, 1, 20, 1, impl.OK},
		{"21 kicks", two, 1, 21, 1, impl.ErrRange},
		{"21 kicks for no atom", two, 0, 21, 1, impl.ErrRange},
		{"20 kicks of 200 atoms", two, 200, 20, 1, impl.OK},
		{"what wraps to little", two, 1 << 32, 1 << 32, 1, impl.ErrRange},

		{"no cells, the seed 1", profile(0), 1, 1, 1, impl.ErrForm},
		{"too many cells, the seed 0", level(0, 41, 0), 1, 1, 0, impl.ErrMany},
		{"a cell of -1, the seed 0", profile(0, -1), 1, 1, 0, impl.ErrRange},
		{"the seed 0, -1 atoms", two, -1, 1, 0, impl.ErrForm},
		{"one seed more, 21 kicks", two, 1, 21, impl.CoinPrime, impl.ErrForm},
		{"the seed 0 for what is full", level(mostAtoms, 2, mostAtoms), 1, 1, 0, impl.ErrForm},
	} {
		got := impl.ImplantCoins(c.p, c.many, c.kicks, c.seed)
		if got.Code != c.code {
			t.Errorf("%s: the code is %d, want %d", c.name, got.Code, c.code)
		}
		checkMade(t, c.name, got, coinsImplantWant(c.p, c.many, c.kicks, c.seed))
	}
	for _, c := range profileCases() {
		for _, seed := range numbers(0, 1) {
			checkMade(t, c.name, impl.ImplantCoins(c.p, 3, 2, seed), coinsImplantWant(c.p, 3, 2, seed))
		}
	}
}

// From the seed 1 on atoms of one kick come to the depths 1, 2, 0, 0, 0.
func TestImplantCoinsIntoFullCells(t *testing.T) {
	for _, c := range []struct {
		name string
		p    impl.Profile
		many int64
		want impl.ProfileResult
	}{
		{"no atom for what is full", level(mostAtoms, 3, mostAtoms), 0, impl.ProfileResult{Profile: level(mostAtoms, 3, mostAtoms)}},
		{"a full cell that gets none", profile(0, mostAtoms, 0, 0), 1, profileOf(0, mostAtoms, 1, 0)},
		{"a full cell that gets one", profile(0, 0, mostAtoms, 0), 1, profileCode(impl.ErrRange)},
		{"just 10^9 by one", profile(0, 0, mostAtoms-1, 0), 5, profileOf(0, 3, mostAtoms, 1)},
		{"just 10^9 by three", profile(0, mostAtoms-3, 0, 0), 5, profileOf(0, mostAtoms, 1, 1)},
		{"one above by three", profile(0, mostAtoms-2, 0, 0), 5, profileCode(impl.ErrRange)},
		{"just 10^9 in Out", profile(mostAtoms-1, 0, 0), 5, profileOf(mostAtoms, 3, 1)},
		{"one above in Out", profile(mostAtoms, 0, 0), 5, profileCode(impl.ErrRange)},
		{"Out is full and gets none", profile(mostAtoms, 0, 0), 1, profileOf(mostAtoms, 0, 1)},
	} {
		checkMade(t, c.name, impl.ImplantCoins(c.p, c.many, 1, 1), c.want)
	}
}

// All atoms that come so deep are counted, kick by kick, up to the most coins there may be.
func TestImplantCoinsOfAllKicks(t *testing.T) {
	for _, seed := range numbers(1, 2, 64, 48271, 1291394886, impl.CoinPrime-2, impl.CoinPrime-1) {
		for kicks := int64(1); kicks <= 20; kicks++ {
			for _, n := range []int{1, 2, 20, 40} {
				p := level(5, n, 3)
				for _, many := range numbers(1, 2, 200) {
					got := impl.ImplantCoins(p, many, kicks, seed)
					checkMade(t, "kicked", got, coinsImplantWant(p, many, kicks, seed))
					checkAtoms(t, "kicked", p, many, got)
				}
			}
		}
	}
}

// One atom more goes to the place that the coins behind those of all others tell.
func TestImplantCoinsAtomByAtom(t *testing.T) {
	const seed, kicks = 57, 7
	p := level(0, 12, 0)
	for many := range int64(200) {
		before, after := impl.ImplantCoins(p, many, kicks, seed), impl.ImplantCoins(p, many+1, kicks, seed)
		next := impl.Coins(seed, many*kicks, 3).Next
		depth := totalOf(grid(impl.Coins(next, kicks, 3).List))
		want := append(before.Profile.Cells, before.Profile.Out)
		want[min(depth, 12)]++
		checkMade(t, "one more", after, profileOf(want[12], want[:12]...))
	}
}

// Atoms that are implanted in two goes are those of one, where the second goes on with the coins.
func TestImplantCoinsInTwoGoes(t *testing.T) {
	chance := rand.New(rand.NewSource(152))
	for i := range 300 {
		p := someProfile(chance, 1+chance.Intn(40), 5000)
		many, kicks, seed := chance.Int63n(201), 1+chance.Int63n(20), 1+chance.Int63n(impl.CoinPrime-1)
		first := chance.Int63n(many + 1)
		half := impl.ImplantCoins(p, first, kicks, seed)
		next := impl.Coins(seed, first*kicks, 3).Next
		whole := impl.ImplantCoins(p, many, kicks, seed)
		checkMade(t, "two goes", impl.ImplantCoins(half.Profile, many-first, kicks, next), whole)
		if i < 60 {
			checkMade(t, "one go", whole, coinsImplantWant(p, many, kicks, seed))
		}
	}
}
