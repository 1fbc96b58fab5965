package tests

import (
	"math/rand"
	"slices"
	"testing"

	"loop.example/g00057/impl"
)

// stackAsk has what the calls of chapter 12 are given; each takes what it needs.
type stackAsk struct {
	s              impl.Section
	column, height int64
	mat, n         int64
	rates          []int64
	time           int64
	mask           []bool
}

// stackAnswer has what a call answers, and else nothing.
type stackAnswer struct {
	value  impl.ShapeInt
	list   impl.IntsResult
	grown  impl.SectionResult
	etched impl.EtchResult
}

type stackCall = callLike[stackAsk, stackAnswer]

// stackCalls stand beside what the plain reckoning answers.
func stackCalls() []stackCall {
	return []stackCall{
		{"SectionFault",
			func(q stackAsk) stackAnswer { return stackAnswer{value: valueCode(impl.SectionFault(q.s))} },
			func(q stackAsk) stackAnswer { return stackAnswer{value: valueCode(sectionFaultWant(q.s))} }},
		{"TopOf",
			func(q stackAsk) stackAnswer { return stackAnswer{value: impl.TopOf(q.s, q.column)} },
			func(q stackAsk) stackAnswer { return stackAnswer{value: topWant(q.s, q.column)} }},
		{"MatterOf",
			func(q stackAsk) stackAnswer { return stackAnswer{list: impl.MatterOf(q.s)} },
			func(q stackAsk) stackAnswer { return stackAnswer{list: matterWant(q.s)} }},
		{"Deposit",
			func(q stackAsk) stackAnswer { return stackAnswer{grown: impl.Deposit(q.s, q.mat, q.n)} },
			func(q stackAsk) stackAnswer { return stackAnswer{grown: depositWant(q.s, q.mat, q.n)} }},
		{"FillTo",
			func(q stackAsk) stackAnswer { return stackAnswer{grown: impl.FillTo(q.s, q.mat, q.n)} },
			func(q stackAsk) stackAnswer { return stackAnswer{grown: fillToWant(q.s, q.mat, q.n)} }},
		{"EtchBy",
			func(q stackAsk) stackAnswer {
				return stackAnswer{etched: impl.EtchBy(q.s, q.rates, q.time, q.mask)}
			},
			func(q stackAsk) stackAnswer { return stackAnswer{etched: etchWant(q.s, q.rates, q.time, q.mask)} }},
		{"PolishTo",
			func(q stackAsk) stackAnswer { return stackAnswer{etched: impl.PolishTo(q.s, q.n)} },
			func(q stackAsk) stackAnswer { return stackAnswer{etched: polishWant(q.s, q.n)} }},
		{"Oxidise",
			func(q stackAsk) stackAnswer { return stackAnswer{grown: impl.Oxidise(q.s, q.n)} },
			func(q stackAsk) stackAnswer { return stackAnswer{grown: oxidiseWant(q.s, q.n)} }},
		{"StripMat",
			func(q stackAsk) stackAnswer { return stackAnswer{etched: impl.StripMat(q.s, q.mat)} },
			func(q stackAsk) stackAnswer { return stackAnswer{etched: stripMatWant(q.s, q.mat)} }},
		{"LookAt",
			func(q stackAsk) stackAnswer { return stackAnswer{value: impl.LookAt(q.s, q.column, q.height)} },
			func(q stackAsk) stackAnswer { return stackAnswer{value: lookWant(q.s, q.column, q.height)} }},
	}
}

// mapped has each list of an ask as the functions answer it.
func (q stackAsk) mapped(ofColumns func([][]impl.Film) [][]impl.Film, ofFilms func([]impl.Film) []impl.Film, ofNumbers func([]int64) []int64, ofBools func([]bool) []bool) stackAsk {
	q.s.Columns, q.rates, q.mask = ofColumns(q.s.Columns), ofNumbers(q.rates), ofBools(q.mask)
	for i := range q.s.Columns {
		q.s.Columns[i] = ofFilms(q.s.Columns[i])
	}
	return q
}

func (q stackAsk) copied() stackAsk {
	return q.mapped(slices.Clone[[][]impl.Film], slices.Clone[[]impl.Film], slices.Clone[[]int64], slices.Clone[[]bool])
}

// roomed has room behind each list, and each within it, which no call may write into.
func (q stackAsk) roomed() stackAsk {
	return q.mapped(roomFor(pile(77, 77)), roomFor(pile(77, 77)[0]), roomFor(int64(77)), roomFor(true))
}

// wholly has what lies behind the ends of the lists, too; it is a copy.
func (q stackAsk) wholly() stackAsk {
	return q.mapped(wholeCopy[[]impl.Film], wholeCopy[impl.Film], wholeCopy[int64], wholeCopy[bool])
}

func (q stackAsk) same(p stackAsk) bool {
	return sameSection(q.s, p.s) && slices.Equal(q.rates, p.rates) && slices.Equal(q.mask, p.mask)
}

func scribbleSection(s impl.Section) {
	for _, films := range s.Columns {
		scribbleAll(films, impl.Film{Mat: -5, Thick: -6})
	}
	scribbleAll(s.Columns, pile(-7, -8))
}

func (q stackAsk) scribble() {
	scribbleSection(q.s)
	scribbleAll(q.rates, -7)
	for i := range q.mask {
		q.mask[i] = !q.mask[i]
	}
}

func (a stackAnswer) same(b stackAnswer) bool {
	return a.value == b.value && sameInts(a.list, b.list) && sameGrown(a.grown, b.grown) && sameEtched(a.etched, b.etched)
}

func (a stackAnswer) scribble() {
	scribbleAll(a.list.List, -9)
	scribbleSection(a.grown.Section)
	scribbleSection(a.etched.Section)
	scribbleAll(a.etched.Gone, -9)
}

func (a stackAnswer) code() int64 {
	return a.value.Code + a.list.Code + a.grown.Code + a.etched.Code
}

// zeroed tells whether there is nothing beside the code.
func (a stackAnswer) zeroed() bool {
	return a.value.Value == 0 && len(a.list.List)+len(a.grown.Section.Columns)+len(a.etched.Section.Columns)+len(a.etched.Gone) == 0
}

// rightStackAsk has no fault; what comes out may still be too much.
func rightStackAsk(chance *rand.Rand, i int) stackAsk {
	q := stackAsk{s: someSection(chance, 1+chance.Intn(16), numbersOf(3, 24)[i%2], numbers(5, 60, 300)[i%3])}
	q.column, q.height = chance.Int63n(int64(len(q.s.Columns))), chance.Int63n(200)
	q.mat, q.n, q.time = 1+chance.Int63n(12), 1+chance.Int63n(numbers(30, 3000)[i/2%2]), chance.Int63n(60)
	q.rates, q.mask = someEtch(chance, len(q.s.Columns), numbers(3, 100)[i/4%2])
	return q
}

func numbersOf(list ...int) []int {
	return list
}

// someStackAsks are right and wrong ones, the same at every run.
func someStackAsks(n int) []stackAsk {
	chance, ends := rand.New(rand.NewSource(141)), stackEnds()
	end := func() int64 { return ends[chance.Intn(len(ends))] }
	var asks []stackAsk
	for i := range n {
		q := rightStackAsk(chance, i)
		at := chance.Intn(len(q.s.Columns))
		switch i % 10 {
		case 1:
			q.s.Columns[at] = append(q.s.Columns[at], pile(end(), end())...)
		case 2:
			q.s.Columns = longer(q.s.Columns, chance.Intn(19))
		case 3:
			q.s.Columns[at] = everyFilm(20+chance.Intn(8), 1, 2, 4000)
		case 4:
			q.column, q.height = end(), end()
		case 5:
			q.mat, q.time = end(), end()
		case 6:
			q.n = end()
		case 7:
			q.rates[chance.Intn(12)] = end()
		case 8:
			q.rates, q.mask = longer(q.rates, 10+chance.Intn(4)), longer(q.mask, chance.Intn(18))
		case 9:
			q.s.Columns[at] = slices.Repeat(q.s.Columns[at], 2)
		}
		asks = append(asks, q)
	}
	return append(asks, stackAsk{}, greatStack(), fullStack(), oneListStack())
}

// greatStack has far too many of all.
func greatStack() stackAsk {
	return stackAsk{s: section(longer([][]impl.Film{everyFilm(30, 1, 2, 1)}, 5000)...), mat: 1, n: 1, rates: make([]int64, 50000), mask: make([]bool, 50000)}
}

// fullStack has as much as there may be.
func fullStack() stackAsk {
	most := append(everyFilm(23, 2, 1, 4166), pile(1, 4182)...)
	return stackAsk{s: section(longer([][]impl.Film{most}, 16)...), column: 15, height: mostThick - 1, mat: 1, n: mostThick, rates: slices.Repeat(numbers(1000), 12), time: mostThick, mask: bare(16)}
}

// oneListStack has one list for all its columns, which the answer may not have.
func oneListStack() stackAsk {
	films := pile(3, 5, 1, 7, 2, 4)
	return stackAsk{s: section(films, films, films), column: 1, height: 5, mat: 2, n: 9, rates: slices.Repeat(numbers(2), 12), time: 3, mask: []bool{false, true, false}}
}

func TestEveryStackAskIsAnswered(t *testing.T) {
	checkSteady(t, someStackAsks(1000), stackCalls())
}

func TestEveryStackAskIsAnsweredRightly(t *testing.T) {
	answers := checkRightly(t, someStackAsks(1000), stackCalls())
	taken := func(a stackAnswer) bool { return slices.Max(append(a.etched.Gone, 0)) > 0 }
	checkCodesMet(t, answers, taken, impl.OK, impl.ErrForm, impl.ErrMany, impl.ErrRange, impl.ErrNone)
}

func TestZeroBesideACodeOfStacks(t *testing.T) {
	checkZeroed(t, someStackAsks(1000), stackCalls())
}

func TestStacksAnswerNewMemory(t *testing.T) {
	checkNewMemory(t, someStackAsks(400), stackCalls())
}

// What is done to one column of an answer, up to the end of its memory, turns no other one.
func TestColumnsOfAnAnswerAreApart(t *testing.T) {
	for _, q := range append(someStackAsks(300), oneListStack()) {
		for _, c := range stackCalls() {
			got, kept := c.call(q), c.call(q)
			ours := slices.Concat(got.grown.Section.Columns, got.etched.Section.Columns)
			theirs := slices.Concat(kept.grown.Section.Columns, kept.etched.Section.Columns)
			for i, films := range ours {
				scribbleAll(films, impl.Film{Mat: -5, Thick: -6})
				if !slices.EqualFunc(ours[i+1:], theirs[i+1:], slices.Equal[[]impl.Film]) {
					t.Fatalf("two columns of %s of %s share memory", c.name, brief(q))
				}
			}
		}
	}
}

// Every end stands once in each place where a number is given.
func TestEveryEndOfStacks(t *testing.T) {
	one := stackAsk{s: section(pile(1, 30, 2, 4), pile(3, 9)), column: 1, height: 3, mat: 2, n: 20, rates: slices.Repeat(numbers(2), 12), time: 3, mask: bare(2)}
	for _, n := range stackEnds() {
		var asks []stackAsk
		for i := range 9 {
			q := one.copied()
			*[]*int64{&q.s.Columns[0][1].Mat, &q.s.Columns[1][0].Thick, &q.column, &q.height, &q.mat, &q.n, &q.rates[0], &q.rates[11], &q.time}[i] = n
			asks = append(asks, q)
		}
		checkRightly(t, asks, stackCalls())
	}
}

func TestNoFilmsAreNoFilms(t *testing.T) {
	one := stackAsk{mat: 1, n: 1, rates: make([]int64, 12)}
	empty := one
	empty.s.Columns, empty.mask = [][]impl.Film{}, []bool{}
	hollow, hollowToo := one, one
	hollow.s, hollow.mask = section(nil), bare(1)
	hollowToo.s, hollowToo.mask = section([]impl.Film{}), bare(1)
	unrated, unratedToo := hollow, hollow
	unrated.rates, unrated.mask, unratedToo.rates, unratedToo.mask = nil, nil, []int64{}, []bool{}
	checkNoneIsNone(t, [][2]stackAsk{{one, empty}, {hollow, hollowToo}, {unrated, unratedToo}}, stackCalls())
}
