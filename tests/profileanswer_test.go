package tests

import (
	"math/rand"
	"slices"
	"testing"

	"loop.example/g00057/impl"
)

// profileAsk has what the calls of chapter 13 are given; each takes what it needs.
type profileAsk struct {
	p                 impl.Profile
	dose, from        int64
	shares            []int64
	many, kicks, seed int64
	share, steps      int64
	cells, n          int64
}

// profileAnswer has what a call answers, and else nothing.
type profileAnswer struct {
	value impl.ShapeInt
	made  impl.ProfileResult
}

type profileCall = callLike[profileAsk, profileAnswer]

// profileCalls stand beside what the plain reckoning answers.
func profileCalls() []profileCall {
	return []profileCall{
		{"ProfileFault",
			func(q profileAsk) profileAnswer { return profileAnswer{value: valueCode(impl.ProfileFault(q.p))} },
			func(q profileAsk) profileAnswer { return profileAnswer{value: valueCode(profileFaultWant(q.p))} }},
		{"DoseOf",
			func(q profileAsk) profileAnswer { return profileAnswer{value: impl.DoseOf(q.p)} },
			func(q profileAsk) profileAnswer { return profileAnswer{value: doseWant(q.p)} }},
		{"ImplantTable",
			func(q profileAsk) profileAnswer {
				return profileAnswer{made: impl.ImplantTable(q.p, q.dose, q.shares, q.from)}
			},
			func(q profileAsk) profileAnswer {
				return profileAnswer{made: tableWant(q.p, q.dose, q.shares, q.from)}
			}},
		{"ImplantCoins",
			func(q profileAsk) profileAnswer {
				return profileAnswer{made: impl.ImplantCoins(q.p, q.many, q.kicks, q.seed)}
			},
			func(q profileAsk) profileAnswer {
				return profileAnswer{made: coinsImplantWant(q.p, q.many, q.kicks, q.seed)}
			}},
		{"Anneal",
			func(q profileAsk) profileAnswer { return profileAnswer{made: impl.Anneal(q.p, q.share, q.steps)} },
			func(q profileAsk) profileAnswer { return profileAnswer{made: annealWant(q.p, q.share, q.steps)} }},
		{"Strip",
			func(q profileAsk) profileAnswer { return profileAnswer{made: impl.Strip(q.p, q.cells)} },
			func(q profileAsk) profileAnswer { return profileAnswer{made: stripWant(q.p, q.cells)} }},
		{"JunctionOf",
			func(q profileAsk) profileAnswer { return profileAnswer{value: impl.JunctionOf(q.p, q.n)} },
			func(q profileAsk) profileAnswer { return profileAnswer{value: junctionWant(q.p, q.n)} }},
		{"ActiveOf",
			func(q profileAsk) profileAnswer { return profileAnswer{made: impl.ActiveOf(q.p, q.n)} },
			func(q profileAsk) profileAnswer { return profileAnswer{made: activeWant(q.p, q.n)} }},
	}
}

// mapped has each list of an ask as the function answers it.
func (q profileAsk) mapped(of func([]int64) []int64) profileAsk {
	q.p.Cells, q.shares = of(q.p.Cells), of(q.shares)
	return q
}

func (q profileAsk) copied() profileAsk {
	return q.mapped(slices.Clone[[]int64])
}

// roomed has room behind each list, which no call may write into.
func (q profileAsk) roomed() profileAsk {
	return q.mapped(roomFor(int64(77)))
}

// wholly has what lies behind the ends of the lists, too; it is a copy.
func (q profileAsk) wholly() profileAsk {
	return q.mapped(wholeCopy[int64])
}

func (q profileAsk) same(p profileAsk) bool {
	return sameProfile(q.p, p.p) && slices.Equal(q.shares, p.shares)
}

func (q profileAsk) scribble() {
	scribbleAll(q.p.Cells, -7)
	scribbleAll(q.shares, -8)
}

func (a profileAnswer) same(b profileAnswer) bool {
	return a.value == b.value && sameMade(a.made, b.made)
}

func (a profileAnswer) scribble() {
	scribbleAll(a.made.Profile.Cells, -9)
}

func (a profileAnswer) code() int64 {
	return a.value.Code + a.made.Code
}

// zeroed tells whether there is nothing beside the code.
func (a profileAnswer) zeroed() bool {
	return a.value.Value == 0 && a.made.Profile.Out == 0 && len(a.made.Profile.Cells) == 0
}

// rightProfileAsk has no fault; what comes out may still be too much.
func rightProfileAsk(chance *rand.Rand, i int) profileAsk {
	q := profileAsk{p: someProfile(chance, 1+chance.Intn(40), numbers(9, 5000, mostAtoms)[i%3])}
	q.dose, q.shares, q.from = chance.Int63n(1000001), someShares(chance, 1+chance.Intn(40)), chance.Int63n(41)
	q.many, q.kicks, q.seed = chance.Int63n(201), 1+chance.Int63n(20), 1+chance.Int63n(impl.CoinPrime-1)
	q.share, q.steps = chance.Int63n(33), chance.Int63n(51)
	q.cells, q.n = chance.Int63n(int64(len(q.p.Cells))), chance.Int63n(numbers(9, 5000, mostAtoms)[i%3]+1)
	return q
}

// someProfileAsks are right and wrong ones, the same at every run.
func someProfileAsks(n int) []profileAsk {
	chance, ends := rand.New(rand.NewSource(157)), profileEnds()
	end := func() int64 { return ends[chance.Intn(len(ends))] }
	var asks []profileAsk
	for i := range n {
		q := rightProfileAsk(chance, i)
		switch i / 3 % 12 {
		case 1:
			q.p = withAtoms(q.p, chance.Intn(len(q.p.Cells)+1), end())
		case 2:
			q.p.Cells = longer(q.p.Cells, 38+chance.Intn(5))
		case 3:
			q.p.Cells = q.p.Cells[:0]
		case 4:
			q.dose, q.from = end(), end()
		case 5:
			q.shares[chance.Intn(len(q.shares))] = end()
		case 6:
			q.shares = longer(q.shares, numbersOf(0, 1, 40, 41)[chance.Intn(4)])
		case 7:
			q.many, q.kicks = end(), end()
		case 8:
			q.seed = end()
		case 9:
			q.share, q.steps = end(), end()
		case 10:
			q.cells, q.n = end(), end()
		}
		asks = append(asks, q)
	}
	return append(asks, profileAsk{}, greatProfile(), fullProfile(), oneListProfile())
}

// greatProfile has far too many of all.
func greatProfile() profileAsk {
	return profileAsk{p: level(1, 50000, 1), dose: 1, shares: make([]int64, 50000), many: 1, kicks: 1, seed: 1, share: 1, steps: 1}
}

// fullProfile has as much as there may be, but for Out.
func fullProfile() profileAsk {
	return profileAsk{p: level(0, 40, mostAtoms), dose: 1000000, shares: slices.Repeat(numbers(25), 40), from: 40,
		many: 200, kicks: 20, seed: impl.CoinPrime - 1, share: 32, steps: 50, cells: 39, n: mostAtoms}
}

// oneListProfile has one list for the cells and the shares.
func oneListProfile() profileAsk {
	list := numbers(300, 200, 100)
	return profileAsk{p: profile(5, list...), dose: 777, shares: list, from: 1, many: 9, kicks: 2, seed: 4, share: 9, steps: 3, cells: 1, n: 250}
}

func TestEveryProfileAskIsAnswered(t *testing.T) {
	checkSteady(t, someProfileAsks(1500), profileCalls())
}

func TestEveryProfileAskIsAnsweredRightly(t *testing.T) {
	answers := checkRightly(t, someProfileAsks(1500), profileCalls())
	left := func(a profileAnswer) bool { return a.made.Profile.Out > 0 }
	checkCodesMet(t, answers, left, impl.OK, impl.ErrForm, impl.ErrMany, impl.ErrRange, impl.ErrNone)
}

func TestZeroBesideACodeOfProfiles(t *testing.T) {
	checkZeroed(t, someProfileAsks(1500), profileCalls())
}

func TestProfilesAnswerNewMemory(t *testing.T) {
	checkNewMemory(t, someProfileAsks(600), profileCalls())
}

// Where a step takes and puts nothing, the answer is still new memory.
func TestProfilesThatStayAreNew(t *testing.T) {
	still := profileAsk{p: profile(3, 5, 6, 7), shares: numbers(0), kicks: 1, seed: 1, n: mostAtoms}
	checkNewMemory(t, []profileAsk{still}, profileCalls())
	checkRightly(t, []profileAsk{still}, profileCalls())
}

// Every end stands once in each place where a number is given.
func TestEveryEndOfProfiles(t *testing.T) {
	one := oneListProfile().copied()
	for _, n := range profileEnds() {
		var asks []profileAsk
		for i := range 15 {
			q := one.copied()
			*[]*int64{&q.p.Cells[0], &q.p.Cells[2], &q.p.Out, &q.dose, &q.shares[0], &q.shares[2], &q.from, &q.many, &q.kicks, &q.seed, &q.share, &q.steps, &q.cells, &q.n, &q.p.Cells[1]}[i] = n
			asks = append(asks, q)
		}
		checkRightly(t, asks, profileCalls())
	}
}

// All places have one end.
func TestOneEndInAllOfAProfile(t *testing.T) {
	for _, n := range profileEnds() {
		q := profileAsk{p: level(n, 40, n), dose: n, shares: slices.Repeat(numbers(n), 40), from: n, many: n, kicks: n, seed: n, share: n, steps: n, cells: n, n: n}
		many := q
		many.p, many.shares = level(n, 41, n), slices.Repeat(numbers(n), 41)
		checkRightly(t, []profileAsk{q, many}, profileCalls())
	}
}

func TestNoCellsAreNoCells(t *testing.T) {
	one := profileAsk{shares: numbers(10), dose: 5, kicks: 1, seed: 1}
	empty := one
	empty.p.Cells = []int64{}
	unshared, unsharedToo := one, one
	unshared.p, unsharedToo.p = profile(1, 2), profile(1, 2)
	unshared.shares, unsharedToo.shares = nil, []int64{}
	checkNoneIsNone(t, [][2]profileAsk{{one, empty}, {unshared, unsharedToo}}, profileCalls())
}
