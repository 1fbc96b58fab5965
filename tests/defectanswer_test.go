package tests

import (
	"math/rand"
	"slices"
	"testing"

	"loop.example/g00057/impl"
)

// defectAsk has what the calls of chapter 15 are given; each takes what it needs.
type defectAsk struct {
	list              []impl.Defect
	near              int64
	d                 impl.Defect
	sorts             []impl.Class
	wide, high, pitch int64
}

// defectAnswer has what a call answers, and else nothing.
type defectAnswer struct {
	value impl.ShapeInt
	list  impl.IntsResult
	hits  impl.HitResult
	part  impl.FracResult
}

type defectCall = callLike[defectAsk, defectAnswer]

// defectCalls stand beside what the plain reckoning answers.
func defectCalls() []defectCall {
	return []defectCall{
		{"DefectsFault",
			func(q defectAsk) defectAnswer { return defectAnswer{value: valueCode(impl.DefectsFault(q.list))} },
			func(q defectAsk) defectAnswer { return defectAnswer{value: valueCode(defectsFaultWant(q.list))} }},
		{"ClustersOf",
			func(q defectAsk) defectAnswer { return defectAnswer{list: impl.ClustersOf(q.list, q.near)} },
			func(q defectAsk) defectAnswer { return defectAnswer{list: clustersWant(q.list, q.near)} }},
		{"ClassesFault",
			func(q defectAsk) defectAnswer { return defectAnswer{value: valueCode(impl.ClassesFault(q.sorts))} },
			func(q defectAsk) defectAnswer { return defectAnswer{value: valueCode(classesFaultWant(q.sorts))} }},
		{"ClassOf",
			func(q defectAsk) defectAnswer { return defectAnswer{value: impl.ClassOf(q.d, q.sorts)} },
			func(q defectAsk) defectAnswer { return defectAnswer{value: classWant(q.d, q.sorts)} }},
		{"ClassBook",
			func(q defectAsk) defectAnswer { return defectAnswer{list: impl.ClassBook(q.list, q.sorts)} },
			func(q defectAsk) defectAnswer { return defectAnswer{list: bookWant(q.list, q.sorts)} }},
		{"HitDice",
			func(q defectAsk) defectAnswer {
				return defectAnswer{hits: impl.HitDice(q.list, q.wide, q.high, q.pitch)}
			},
			func(q defectAsk) defectAnswer { return defectAnswer{hits: hitWant(q.list, q.wide, q.high, q.pitch)} }},
		{"SurviveOf",
			func(q defectAsk) defectAnswer { return defectAnswer{part: impl.SurviveOf(q.list, q.sorts)} },
			func(q defectAsk) defectAnswer { return defectAnswer{part: surviveWant(q.list, q.sorts)} }},
		{"YieldOf",
			func(q defectAsk) defectAnswer {
				return defectAnswer{part: impl.YieldOf(q.list, q.sorts, q.wide, q.high, q.pitch)}
			},
			func(q defectAsk) defectAnswer {
				return defectAnswer{part: yieldWant(q.list, q.sorts, q.wide, q.high, q.pitch)}
			}},
	}
}

// mapped has each list of an ask as the functions answer it.
func (q defectAsk) mapped(ofDefects func([]impl.Defect) []impl.Defect, ofClasses func([]impl.Class) []impl.Class) defectAsk {
	q.list, q.sorts = ofDefects(q.list), ofClasses(q.sorts)
	return q
}

func (q defectAsk) copied() defectAsk {
	return q.mapped(slices.Clone[[]impl.Defect], slices.Clone[[]impl.Class])
}

// roomed has room behind each list, which no call may write into.
func (q defectAsk) roomed() defectAsk {
	return q.mapped(roomFor(defect(77, 77, 77, 7)), roomFor(class(7, 7, 77, 77, ratio(7, 77))))
}

// wholly has what lies behind the ends of the lists, too; it is a copy.
func (q defectAsk) wholly() defectAsk {
	return q.mapped(wholeCopy[impl.Defect], wholeCopy[impl.Class])
}

func (q defectAsk) same(p defectAsk) bool {
	return slices.Equal(q.list, p.list) && slices.Equal(q.sorts, p.sorts)
}

func (q defectAsk) scribble() {
	scribbleAll(q.list, defect(-5, -6, -7, -8))
	scribbleAll(q.sorts, class(-5, -6, -7, -8, ratio(-9, -9)))
}

func (a defectAnswer) same(b defectAnswer) bool {
	return a.value == b.value && sameInts(a.list, b.list) && sameHits(a.hits, b.hits) && a.part == b.part
}

func (a defectAnswer) scribble() {
	scribbleAll(a.list.List, -5)
	scribbleGrid(a.hits.Rows)
}

func (a defectAnswer) code() int64 {
	return a.value.Code + a.list.Code + a.hits.Code + a.part.Code
}

// zeroed tells whether there is nothing beside the code.
func (a defectAnswer) zeroed() bool {
	return a.value.Value == 0 && len(a.list.List)+len(a.hits.Rows) == 0 && a.hits.Off == 0 && a.part.Frac == impl.Frac{}
}

// rightDefectAsk has no fault, but that what is left may be no right fraction.
func rightDefectAsk(chance *rand.Rand, i int) defectAsk {
	place, size := numbers(20, 100, 10001)[i%3], numbers(5, 1000)[i%2]
	q := defectAsk{list: someDefects(chance, chance.Intn(numbersOf(6, 20, 61)[i/2%3]), place, size), near: chance.Int63n(numbers(3, 12, 1001)[i%3])}
	q.d = defect(chance.Int63n(place), chance.Int63n(place), 1+chance.Int63n(size), chance.Int63n(10))
	q.sorts = someClasses(chance, chance.Intn(21), size, numbers(2, 6, 90, impl.MaxNum)[i/3%4])
	q.wide, q.high, q.pitch = 1+chance.Int63n(20), 1+chance.Int63n(20), 1+chance.Int63n(numbers(3, 30, 1000)[i%3])
	return q
}

// someDefectAsks are right and wrong ones, the same at every run.
func someDefectAsks(n int) []defectAsk {
	chance, ends := rand.New(rand.NewSource(168)), defectEnds()
	end := func() int64 { return ends[chance.Intn(len(ends))] }
	var asks []defectAsk
	for i := range n {
		q := rightDefectAsk(chance, i)
		switch i % 9 {
		case 1:
			q.list = slices.Insert(q.list, chance.Intn(len(q.list)+1), defect(end(), end(), 1, 0))
		case 2:
			q.list = slices.Insert(q.list, chance.Intn(len(q.list)+1), defect(0, 0, end(), end()))
		case 3:
			q.list = longer(append(q.list, q.d), 58+chance.Intn(5))
		case 4:
			q.near, q.d = end(), defect(end(), end(), end(), end())
		case 5:
			q.sorts = slices.Insert(q.sorts, chance.Intn(len(q.sorts)+1), class(end(), end(), end(), 1, asFrac(0)))
		case 6:
			q.sorts = slices.Insert(q.sorts, chance.Intn(len(q.sorts)+1), class(0, 1, 9, 1, ratio(end(), end())))
		case 7:
			q.sorts = longer(append(q.sorts, killsAll(asFrac(0))...), 18+chance.Intn(5))
		case 8:
			q.wide, q.high, q.pitch = end(), end(), end()
		}
		asks = append(asks, q)
	}
	return append(asks, defectAsk{}, greatDefects(), fullDefects())
}

// greatDefects have far too many of all.
func greatDefects() defectAsk {
	return defectAsk{list: make([]impl.Defect, 50000), sorts: make([]impl.Class, 50000), wide: 1, high: 1, pitch: 1}
}

// fullDefects have as much as there may be.
func fullDefects() defectAsk {
	list := slices.Concat(longer(defects(defect(10000, 10000, 1000, 9)), 20), spaced(20, 100), longer(defects(defect(9999, 9999, 1, 0)), 20))
	return defectAsk{list: list, near: 1000, d: list[0], sorts: longer(classes(class(9, 1, 1000, 99, ratio(1, 2)), class(-1, 2, 1000, 1, asFrac(1))), 20), wide: 20, high: 20, pitch: 1000}
}

func TestEveryDefectAskIsAnswered(t *testing.T) {
	checkSteady(t, someDefectAsks(1500), defectCalls())
}

func TestEveryDefectAskIsAnsweredRightly(t *testing.T) {
	answers := checkRightly(t, someDefectAsks(1500), defectCalls())
	less := func(a defectAnswer) bool { return a.part.Frac.Num > 0 && a.part.Frac.Den > 1 }
	checkCodesMet(t, answers, less, impl.OK, impl.ErrForm, impl.ErrMany, impl.ErrRange)
}

func TestZeroBesideACodeOfDefects(t *testing.T) {
	checkZeroed(t, someDefectAsks(1500), defectCalls())
}

func TestDefectsAnswerNewMemory(t *testing.T) {
	checkNewMemory(t, someDefectAsks(600), defectCalls())
}

// A map is gone through in another order each time: no answer may show it.
func TestDefectsAreToldAlikeEachTime(t *testing.T) {
	chance := rand.New(rand.NewSource(169))
	for i := range 60 {
		q := rightDefectAsk(chance, i)
		q.list = someDefects(chance, 60, numbers(30, 100)[i%2], 5)
		q.near, q.sorts = int64(i%6), someClasses(chance, 20, 5, 2)
		for _, c := range defectCalls() {
			first := c.call(q)
			for range 50 {
				if !c.call(q).same(first) {
					t.Fatalf("%s of %s has two answers", c.name, brief(q))
				}
			}
		}
	}
}

// Each row of an answer, and the room behind it, is its own.
func TestRowsOfDiceAreApart(t *testing.T) {
	for _, q := range append(someDefectAsks(300), fullDefects()) {
		checkApart(t, brief(q), impl.HitDice(q.list, q.wide, q.high, q.pitch).Rows, -77, slices.Equal[[]int64])
	}
}

// Every end stands once in each place where a number is given.
func TestEveryEndOfDefects(t *testing.T) {
	one := defectAsk{list: defects(defect(3, 4, 5, 6), defect(7, 8, 9, 0), defect(2, 2, 2, 2)), near: 4, d: defect(1, 1, 5, 6),
		sorts: classes(class(6, 1, 5, 7, ratio(1, 2)), class(-1, 2, 9, 8, ratio(2, 3))), wide: 2, high: 3, pitch: 4}
	for _, n := range defectEnds() {
		var asks []defectAsk
		for i := range 22 {
			q := one.copied()
			a, b, c := &q.list[0], &q.list[2], &q.sorts[1]
			*[]*int64{&a.X, &a.Y, &a.Size, &a.Kind, &b.X, &b.Y, &b.Size, &b.Kind, &q.near, &q.d.X, &q.d.Y, &q.d.Size, &q.d.Kind,
				&c.Kind, &c.Low, &c.High, &c.Name, &c.Kill.Num, &c.Kill.Den, &q.wide, &q.high, &q.pitch}[i] = n
			asks = append(asks, q)
		}
		all := defectAsk{list: defects(defect(n, n, n, n)), near: n, d: defect(n, n, n, n), sorts: classes(class(n, n, n, n, ratio(n, n))), wide: n, high: n, pitch: n}
		checkRightly(t, append(asks, all), defectCalls())
		checkSteady(t, append(asks, all), defectCalls())
	}
}

func TestNoDefectsAreNoDefects(t *testing.T) {
	bare := defectAsk{near: 1, d: defect(1, 1, 1, 1), wide: 2, high: 2, pitch: 2}
	empty := bare
	empty.list, empty.sorts = []impl.Defect{}, []impl.Class{}
	listed, listedToo := bare, bare
	listed.list, listedToo.list, listedToo.sorts = defectsOf(1, 2), defectsOf(1, 2), []impl.Class{}
	sorted, sortedToo := bare, bare
	sorted.sorts, sortedToo.sorts, sortedToo.list = killsAll(ratio(1, 2)), killsAll(ratio(1, 2)), []impl.Defect{}
	checkNoneIsNone(t, [][2]defectAsk{{bare, empty}, {listed, listedToo}, {sorted, sortedToo}}, defectCalls())
}
