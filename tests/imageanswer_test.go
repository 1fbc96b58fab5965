package tests

import (
	"math/rand"
	"slices"
	"testing"

	"loop.example/g00057/impl"
)

// imageAsk has what the calls of chapter 7 are given; each takes what it needs.
type imageAsk struct {
	a, b   impl.Z
	number int64
	mask   []impl.Z
	p      impl.Pupil
	source []impl.Spot
	forth  []int64
	back   []int64
	shifts []int64
}

// imageAnswer has what a call answers, and else nothing.
type imageAnswer struct {
	holds  bool
	number int64
	one    impl.Z
	wave   impl.WaveResult
	floats impl.FloatsResult
	ints   impl.IntsResult
}

type imageCall struct {
	name string
	call func(q imageAsk) imageAnswer
	want func(q imageAsk) imageAnswer
}

// imageCalls stand beside what the plain reckoning answers.
func imageCalls() []imageCall {
	return []imageCall{
		{"SameZ",
			func(q imageAsk) imageAnswer { return imageAnswer{holds: impl.SameZ(q.a, q.b)} },
			func(q imageAsk) imageAnswer { return imageAnswer{holds: q.a.Re == q.b.Re && q.a.Im == q.b.Im} }},
		{"MulZ",
			func(q imageAsk) imageAnswer { return imageAnswer{one: impl.MulZ(q.a, q.b)} },
			func(q imageAsk) imageAnswer { return imageAnswer{one: mulWant(q.a, q.b)} }},
		{"TurnZ",
			func(q imageAsk) imageAnswer { return imageAnswer{one: impl.TurnZ(q.number)} },
			func(q imageAsk) imageAnswer { return imageAnswer{one: turnPartsWant(q.number)} }},
		{"OrdersOf",
			func(q imageAsk) imageAnswer { return imageAnswer{wave: impl.OrdersOf(q.mask)} },
			func(q imageAsk) imageAnswer { return imageAnswer{wave: ordersWant(q.mask)} }},
		{"PupilFault",
			func(q imageAsk) imageAnswer { return imageAnswer{number: impl.PupilFault(q.p)} },
			func(q imageAsk) imageAnswer { return imageAnswer{number: pupilFaultWant(q.p)} }},
		{"PupilAt",
			func(q imageAsk) imageAnswer { return imageAnswer{one: impl.PupilAt(q.p, q.number)} },
			func(q imageAsk) imageAnswer { return imageAnswer{one: pupilAtWant(q.p, q.number)} }},
		{"FieldOf",
			func(q imageAsk) imageAnswer { return imageAnswer{wave: impl.FieldOf(q.mask, q.p, q.number)} },
			func(q imageAsk) imageAnswer { return imageAnswer{wave: fieldWant(q.mask, q.p, q.number)} }},
		{"ImageOf",
			func(q imageAsk) imageAnswer { return imageAnswer{floats: impl.ImageOf(q.mask, q.p, q.source)} },
			func(q imageAsk) imageAnswer { return imageAnswer{floats: imageWant(q.mask, q.p, q.source)} }},
		{"NarrowWave",
			func(q imageAsk) imageAnswer { return imageAnswer{wave: wave(impl.NarrowWave(q.mask)...)} },
			func(q imageAsk) imageAnswer { return imageAnswer{wave: wave(narrowWant(q.mask)...)} }},
		{"ModImage",
			func(q imageAsk) imageAnswer { return imageAnswer{ints: impl.ModImage(q.forth, q.back, q.shifts)} },
			func(q imageAsk) imageAnswer { return imageAnswer{ints: modImageWant(q.forth, q.back, q.shifts)} }},
		{"ModImage of one list",
			func(q imageAsk) imageAnswer { return imageAnswer{ints: impl.ModImage(q.forth, q.forth, q.forth)} },
			func(q imageAsk) imageAnswer { return imageAnswer{ints: modImageWant(q.forth, q.forth, q.forth)} }},
	}
}

// mapped has each list of an ask as the functions answer it.
func (q imageAsk) mapped(ofWaves func([]impl.Z) []impl.Z, ofSpots func([]impl.Spot) []impl.Spot, ofNumbers func([]int64) []int64) imageAsk {
	q.mask, q.source = ofWaves(q.mask), ofSpots(q.source)
	q.p.Parts, q.forth, q.back, q.shifts = ofNumbers(q.p.Parts), ofNumbers(q.forth), ofNumbers(q.back), ofNumbers(q.shifts)
	return q
}

func (q imageAsk) copied() imageAsk {
	return q.mapped(slices.Clone[[]impl.Z], slices.Clone[[]impl.Spot], slices.Clone[[]int64])
}

// roomed has room behind each list, which no call may write into.
func (q imageAsk) roomed() imageAsk {
	return q.mapped(roomFor(z(77, 77)), roomFor(spot(77, 77)), roomFor(int64(77)))
}

// wholly has what lies behind the ends of the lists, too; it is a copy.
func (q imageAsk) wholly() imageAsk {
	return q.mapped(wholeCopy[impl.Z], wholeCopy[impl.Spot], wholeCopy[int64])
}

func (q imageAsk) same(r imageAsk) bool {
	return slices.EqualFunc(q.mask, r.mask, sameBits) && slices.EqualFunc(q.source, r.source, sameSpot) && slices.Equal(q.p.Parts, r.p.Parts) &&
		slices.Equal(q.forth, r.forth) && slices.Equal(q.back, r.back) && slices.Equal(q.shifts, r.shifts)
}

func (q imageAsk) scribble() {
	scribbleAll(q.mask, z(-5, -6))
	scribbleAll(q.source, spot(-5, -6))
	for _, list := range [][]int64{q.p.Parts, q.forth, q.back, q.shifts} {
		scribbleAll(list, -5)
	}
}

func (a imageAnswer) same(b imageAnswer) bool {
	return a.holds == b.holds && a.number == b.number && sameBits(a.one, b.one) && sameWave(a.wave, b.wave) && sameFloats(a.floats, b.floats) && sameInts(a.ints, b.ints)
}

func (a imageAnswer) scribble() {
	scribbleAll(a.wave.List, z(-5, -6))
	scribbleAll(a.floats.List, -5)
	scribbleAll(a.ints.List, -5)
}

// code is what a call tells beside a list, or as its answer.
func (a imageAnswer) code() int64 {
	return a.number + a.wave.Code + a.floats.Code + a.ints.Code
}

// someImageAsks are right and wrong ones, the same at every run.
func someImageAsks(n int) []imageAsk {
	chance := rand.New(rand.NewSource(86))
	ends := imageEnds()
	end := func() int64 { return ends[chance.Intn(len(ends))] }
	var asks []imageAsk
	for i := range n {
		long := 1 << chance.Intn(6)
		q := imageAsk{a: z(someFloat(chance), someFloat(chance)), b: z(someFloat(chance), someFloat(chance)), number: chance.Int63n(25) - 12, p: somePupil(chance)}
		q.p.Cut %= 4
		q.mask, q.source = someMask(chance, 1+chance.Intn(5), i%2 == 0), someSource(chance, chance.Intn(4), i%2 == 1)
		q.forth, q.back, q.shifts = someResidues(chance, long), someResidues(chance, long), someResidues(chance, chance.Intn(4))
		switch i % 9 {
		case 1:
			q.number, q.b = end(), q.a
		case 2:
			q.p.Cut, q.p.Focus = end(), end()
		case 3:
			q.p.Parts = longer(numbers(end(), 3, end()), 11+chance.Intn(5))
		case 4:
			q.source = append(q.source, spot(end(), 1))
		case 5:
			q.mask, q.source = make([]impl.Z, 23+chance.Intn(4)), make([]impl.Spot, 11+chance.Intn(4))
			q.p.Cut = 0
		case 6:
			q.forth, q.back = someResidues(chance, chance.Intn(70)), someResidues(chance, chance.Intn(70))
		case 7:
			q.forth, q.back, q.shifts = make([]int64, 64), make([]int64, 64), make([]int64, 10+chance.Intn(5))
		}
		asks = append(asks, q)
	}
	return append(asks, imageAsk{}, greatImage())
}

// greatImage has far too many of all.
func greatImage() imageAsk {
	return imageAsk{mask: make([]impl.Z, 3000), p: pupil(12, 1, make([]int64, 3000)...), source: make([]impl.Spot, 3000), forth: make([]int64, 4096), back: make([]int64, 4096), shifts: make([]int64, 3000)}
}

func TestEveryImageAskIsAnswered(t *testing.T) {
	for _, q := range someImageAsks(1800) {
		roomed := q.roomed()
		kept := roomed.wholly()
		for _, c := range imageCalls() {
			got := c.call(roomed)
			if !got.same(c.call(roomed)) || !got.same(c.call(q.copied())) {
				t.Fatalf("%s of %s has two answers", c.name, brief(q))
			}
			if !roomed.wholly().same(kept) {
				t.Fatalf("%s changed what it was given, %s", c.name, brief(q))
			}
		}
	}
}

func TestEveryImageAskIsAnsweredRightly(t *testing.T) {
	met := map[int64]int{}
	for _, q := range someImageAsks(400) {
		for _, c := range imageCalls() {
			got, want := c.call(q), c.want(q)
			if !got.same(want) {
				t.Fatalf("%s of %s: %s, want %s", c.name, brief(q), brief(got), brief(want))
			}
			met[got.code()]++
		}
	}
	if min(met[impl.OK], met[impl.ErrForm], met[impl.ErrMany], met[impl.ErrRange]) < 50 {
		t.Errorf("the codes are %v", met)
	}
}

func TestZeroBesideACodeOfImages(t *testing.T) {
	for _, q := range someImageAsks(1800) {
		for _, c := range imageCalls() {
			if got := c.call(q); got.code() != impl.OK && len(got.wave.List)+len(got.floats.List)+len(got.ints.List) > 0 {
				t.Errorf("%s of %s has a code, and more", c.name, brief(q))
			}
		}
	}
}

func TestImagesAnswerNewMemory(t *testing.T) {
	for _, q := range someImageAsks(900) {
		for _, c := range imageCalls() {
			roomed := q.roomed()
			kept := roomed.wholly()
			first, second, third := c.call(roomed), c.call(roomed), c.call(q.copied())
			first.scribble()
			if !roomed.wholly().same(kept) {
				t.Fatalf("an answer of %s, %s, has memory of what was given", c.name, brief(q))
			}
			if !second.same(third) || !c.call(roomed).same(third) {
				t.Fatalf("two answers of %s, %s, share memory", c.name, brief(q))
			}
			roomed.scribble()
			if !second.same(third) {
				t.Fatalf("an answer of %s, %s, hangs on what was given", c.name, brief(q))
			}
		}
	}
}

// Every end stands once in each place where a number is given.
func TestEveryEndOfImages(t *testing.T) {
	for _, n := range imageEnds() {
		bare := imageAsk{mask: reals(1, 0, 2), p: pupil(1, 3, 5), source: spots(spot(1, 1)), forth: numbers(1, 2), back: numbers(3, 4), shifts: numbers(1)}
		asks := []imageAsk{bare, bare, bare, bare, bare, bare, bare, bare}
		asks[0].number = n
		asks[1].p.Cut = n
		asks[2].p.Focus = n
		asks[3].p.Parts = numbers(0, n)
		asks[4].source = spots(spot(0, 1), spot(n, 1))
		asks[5].forth = numbers(1, n)
		asks[6].back = numbers(n, 1)
		asks[7].shifts = numbers(n, 3)
		for _, q := range asks {
			for _, c := range imageCalls() {
				if got, want := c.call(q), c.want(q); !got.same(want) {
					t.Fatalf("%s of %s: %s, want %s", c.name, brief(q), brief(got), brief(want))
				}
			}
		}
	}
}

func TestNoImageIsNoImage(t *testing.T) {
	full := imageAsk{mask: reals(1, 0), p: pupil(1, 0), forth: numbers(1, 2), back: numbers(3, 4)}
	for _, bare := range []imageAsk{{}, full, {p: pupil(1, 5)}} {
		empty := bare
		if len(bare.mask) == 0 {
			empty.mask, empty.forth, empty.back = []impl.Z{}, []int64{}, []int64{}
		}
		empty.p.Parts, empty.source, empty.shifts = []int64{}, []impl.Spot{}, []int64{}
		for _, c := range imageCalls() {
			if !c.call(bare).same(c.call(empty)) || !c.call(bare).same(c.want(bare)) {
				t.Errorf("%s: nil and an empty list differ", c.name)
			}
		}
	}
}
