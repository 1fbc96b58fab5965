package tests

import (
	"math"
	"math/rand"
	"slices"
	"testing"

	"loop.example/g00057/impl"
)

// measureAsk has what the calls of chapter 14 are given; each takes what it needs.
type measureAsk struct {
	f            float64
	bits         uint64
	list         []float64
	frames       [][]float64
	radius, step int64
	library      [][]float64
	spectrum     []float64
	xs, ys       []float64
	x            float64
}

// measureAnswer has what a call answers, and else nothing.
type measureAnswer struct {
	bits    uint64
	float   float64
	mean    impl.MeanResult
	frames  impl.FramesResult
	floats  impl.FloatsResult
	sites   impl.SitesResult
	matched impl.MatchFloat
}

type measureCall = callLike[measureAsk, measureAnswer]

// measureCalls stand beside what the plain reckoning answers.
func measureCalls() []measureCall {
	return slices.Concat(floatCalls(), listCalls(), placeCalls())
}

func floatCalls() []measureCall {
	return []measureCall{
		{"BitsOf",
			func(q measureAsk) measureAnswer { return measureAnswer{bits: impl.BitsOf(q.f)} },
			func(q measureAsk) measureAnswer { return measureAnswer{bits: bitsWant(q.f)} }},
		{"FloatFrom",
			func(q measureAsk) measureAnswer { return measureAnswer{float: impl.FloatFrom(q.bits)} },
			func(q measureAsk) measureAnswer { return measureAnswer{float: floatWant(q.bits)} }},
	}
}

func listCalls() []measureCall {
	return []measureCall{
		{"MeanOf",
			func(q measureAsk) measureAnswer { return measureAnswer{mean: impl.MeanOf(q.list)} },
			func(q measureAsk) measureAnswer { return measureAnswer{mean: meanWant(q.list)} }},
		{"VarianceOf",
			func(q measureAsk) measureAnswer { return measureAnswer{mean: impl.VarianceOf(q.list)} },
			func(q measureAsk) measureAnswer { return measureAnswer{mean: varianceWant(q.list)} }},
		{"MedianOf",
			func(q measureAsk) measureAnswer { return measureAnswer{mean: impl.MedianOf(q.list)} },
			func(q measureAsk) measureAnswer { return measureAnswer{mean: medianWant(q.list)} }},
		{"FramesOf",
			func(q measureAsk) measureAnswer { return measureAnswer{frames: impl.FramesOf(q.list)} },
			func(q measureAsk) measureAnswer { return measureAnswer{frames: framesWant(q.list)} }},
		{"JoinFrames",
			func(q measureAsk) measureAnswer { return measureAnswer{floats: impl.JoinFrames(q.frames)} },
			func(q measureAsk) measureAnswer { return measureAnswer{floats: joinWant(q.frames)} }},
	}
}

func placeCalls() []measureCall {
	return []measureCall{
		{"SitesOf",
			func(q measureAsk) measureAnswer { return measureAnswer{sites: impl.SitesOf(q.radius, q.step)} },
			func(q measureAsk) measureAnswer { return measureAnswer{sites: sitesWant(q.radius, q.step)} }},
		{"MatchSpectrum",
			func(q measureAsk) measureAnswer {
				return measureAnswer{matched: impl.MatchSpectrum(q.library, q.spectrum)}
			},
			func(q measureAsk) measureAnswer {
				return measureAnswer{matched: spectrumWant(q.library, q.spectrum)}
			}},
		{"TraceAt",
			func(q measureAsk) measureAnswer { return measureAnswer{mean: impl.TraceAt(q.xs, q.ys, q.x)} },
			func(q measureAsk) measureAnswer { return measureAnswer{mean: traceWant(q.xs, q.ys, q.x)} }},
		{"TraceAt of one list",
			func(q measureAsk) measureAnswer { return measureAnswer{mean: impl.TraceAt(q.xs, q.xs, q.x)} },
			func(q measureAsk) measureAnswer { return measureAnswer{mean: traceWant(q.xs, q.xs, q.x)} }},
	}
}

// mapped has each list of an ask as the functions answer it.
func (q measureAsk) mapped(ofLists func([][]float64) [][]float64, ofFloats func([]float64) []float64) measureAsk {
	for _, lists := range []*[][]float64{&q.frames, &q.library} {
		out := ofLists(*lists)
		for i := range out {
			out[i] = ofFloats(out[i])
		}
		*lists = out
	}
	q.list, q.spectrum, q.xs, q.ys = ofFloats(q.list), ofFloats(q.spectrum), ofFloats(q.xs), ofFloats(q.ys)
	return q
}

func (q measureAsk) copied() measureAsk {
	return q.mapped(slices.Clone[[][]float64], slices.Clone[[]float64])
}

// roomed has room behind each list, and each within it, which no call may write into.
func (q measureAsk) roomed() measureAsk {
	return q.mapped(roomFor(reading(77, 77)), roomFor(77.0))
}

// wholly has what lies behind the ends of the lists, too; it is a copy.
func (q measureAsk) wholly() measureAsk {
	return q.mapped(wholeCopy[[]float64], wholeCopy[float64])
}

// same holds the very bits against each other: no list may be changed, not even from one NaN to another.
func (q measureAsk) same(p measureAsk) bool {
	sameList := func(a []float64, b []float64) bool {
		return slices.EqualFunc(a, b, func(x float64, y float64) bool { return math.Float64bits(x) == math.Float64bits(y) })
	}
	return sameList(q.list, p.list) && sameList(q.spectrum, p.spectrum) && sameList(q.xs, p.xs) && sameList(q.ys, p.ys) &&
		slices.EqualFunc(q.frames, p.frames, sameList) && slices.EqualFunc(q.library, p.library, sameList)
}

func scribbleReadings(lists [][]float64) {
	for _, list := range lists {
		scribbleAll(list, -5)
	}
	scribbleAll(lists, nil)
}

func (q measureAsk) scribble() {
	scribbleReadings(q.frames)
	scribbleReadings(q.library)
	scribbleReadings(spectra(q.list, q.spectrum, q.xs, q.ys))
}

func (a measureAnswer) same(b measureAnswer) bool {
	return a.bits == b.bits && sameFloat(a.float, b.float) && sameMean(a.mean, b.mean) && sameFrames(a.frames, b.frames) &&
		sameFloats(a.floats, b.floats) && sameSites(a.sites, b.sites) && sameMatched(a.matched, b.matched)
}

func (a measureAnswer) scribble() {
	scribbleReadings(a.frames.Frames)
	scribbleAll(a.floats.List, -6)
	scribbleAll(a.sites.Sites, site(-7, -7))
}

func (a measureAnswer) code() int64 {
	return a.mean.Code + a.frames.Code + a.floats.Code + a.sites.Code + a.matched.Code
}

// zeroed tells whether there is nothing beside the code; a float is +0.
func (a measureAnswer) zeroed() bool {
	return a.mean.Count == 0 && sameFloat(a.mean.Value, 0) && a.matched.At == 0 && sameFloat(a.matched.Miss, 0) &&
		len(a.frames.Frames)+len(a.floats.List)+len(a.sites.Sites) == 0
}

// rightMeasureAsk has no fault, but that there may be too many sites, and no numbers.
func rightMeasureAsk(chance *rand.Rand, i int) measureAsk {
	wild, n := i%3 == 0, chance.Intn(numbersOf(9, 40)[i%2])
	q := measureAsk{f: someFloat(chance), bits: chance.Uint64(), list: someReading(chance, n, wild), frames: someSpectra(chance, chance.Intn(26), 8, wild)}
	q.radius, q.step = chance.Int63n(51), 1+chance.Int63n(50)
	q.library, q.spectrum = someSpectra(chance, 1+chance.Intn(20), n/2, wild), someReading(chance, n/2, wild)
	q.xs = append(someRising(chance, 2+n/4, wild), inf)
	q.ys = someReading(chance, len(q.xs), wild)
	q.x = q.xs[chance.Intn(len(q.xs))]
	return q
}

// someMeasureAsks are right and wrong ones, the same at every run.
func someMeasureAsks(n int) []measureAsk {
	chance, ends := rand.New(rand.NewSource(155)), measureEnds()
	var asks []measureAsk
	for i := range n {
		q := rightMeasureAsk(chance, i)
		switch i / 3 % 10 {
		case 1:
			q.list = longer(append(q.list, someFloat(chance)), 198+chance.Intn(6))
		case 2:
			q.list = slices.Repeat(reading(nan), chance.Intn(6))
		case 3:
			q.frames = longer(append(q.frames, missing8()), 23+chance.Intn(6))
		case 4:
			q.frames = append(q.frames, someReading(chance, 6+chance.Intn(5), false))
		case 5:
			q.radius, q.step = ends[chance.Intn(len(ends))], ends[chance.Intn(len(ends))]
		case 6:
			q.library = append(q.library, someReading(chance, len(q.spectrum)+chance.Intn(3), false))
		case 7:
			q.library, q.spectrum = longer(q.library, 18+chance.Intn(5)), longer(append(q.spectrum, 1), 199+chance.Intn(4))
		case 8:
			q.xs, q.ys = append(q.xs, someFloat(chance)), append(q.ys, 1)
			q.library = q.library[:chance.Intn(2)]
		case 9:
			q.ys, q.x = longer(q.ys, numbersOf(0, 1, 2, 200, 201)[chance.Intn(5)]), someFloat(chance)
		}
		asks = append(asks, q)
	}
	return append(asks, measureAsk{}, greatMeasure(), fullMeasure(), oneListMeasure())
}

// greatMeasure has far too many of all.
func greatMeasure() measureAsk {
	long := make([]float64, 50000)
	lists := append(spectra(long), slices.Repeat(spectra(make([]float64, 8)), 3000)...)
	return measureAsk{list: long, frames: lists, radius: 50, step: 1, library: lists, spectrum: long, xs: long, ys: long}
}

// fullMeasure has as much as there may be.
func fullMeasure() measureAsk {
	rising := make([]float64, 200)
	for i := range rising {
		rising[i] = float64(i) / 3
	}
	return measureAsk{f: mostFloat, bits: math.MaxUint64, list: rising, frames: slices.Repeat(spectra(counted8(1)), 25), radius: 8, step: 1,
		library: slices.Repeat(spectra(rising), 20), spectrum: make([]float64, 200), xs: rising, ys: rising, x: 66}
}

// oneListMeasure has one list for all.
func oneListMeasure() measureAsk {
	list := reading(1, 2, 3, 5, 8, 13, 21, 34)
	return measureAsk{f: 1, bits: 1, list: list, frames: spectra(list, list), radius: 5, step: 2, library: spectra(list, list, list), spectrum: list, xs: list, ys: list, x: 4}
}

func TestEveryMeasureAskIsAnswered(t *testing.T) {
	checkSteady(t, someMeasureAsks(1200), measureCalls())
}

func TestEveryMeasureAskIsAnsweredRightly(t *testing.T) {
	answers := checkRightly(t, someMeasureAsks(1200), measureCalls())
	reckoned := func(a measureAnswer) bool { return a.mean.Count > 0 }
	checkCodesMet(t, answers, reckoned, impl.OK, impl.ErrForm, impl.ErrMany, impl.ErrRange, impl.ErrNone)
}

func TestZeroBesideACodeOfMeasures(t *testing.T) {
	checkZeroed(t, someMeasureAsks(1200), measureCalls())
}

func TestMeasuresAnswerNewMemory(t *testing.T) {
	checkNewMemory(t, someMeasureAsks(600), measureCalls())
}

// Each frame of an answer, and the room behind it, is its own.
func TestFramesOfOneAnswerAreApart(t *testing.T) {
	for _, q := range append(someMeasureAsks(200), fullMeasure()) {
		checkApart(t, brief(q.list), impl.FramesOf(q.list).Frames, 77777, sameReading)
	}
}

// An answer that is whole, and has nothing cut off or filled up, is still new memory.
func TestMeasuresThatStayAreNew(t *testing.T) {
	checkNewMemory(t, []measureAsk{fullMeasure(), oneListMeasure()}, measureCalls())
	checkRightly(t, []measureAsk{fullMeasure(), oneListMeasure()}, measureCalls())
}

// Every hard float stands once in each place where one is given.
func TestEveryHardFloatOfMeasures(t *testing.T) {
	hard := append(hardFloats(), greatestSubnormal, -greatestSubnormal, math.Float64frombits(0x7FF0000000000001), math.Float64frombits(0xFFFFFFFFFFFFFFFF))
	for _, f := range hard {
		var asks []measureAsk
		for i := range 14 {
			q := oneListMeasure().copied()
			*[]*float64{&q.f, &q.x, &q.list[0], &q.list[7], &q.frames[0][0], &q.frames[0][7], &q.frames[1][7], &q.library[0][3], &q.library[2][7],
				&q.spectrum[0], &q.xs[0], &q.xs[7], &q.ys[2], &q.ys[3]}[i] = f
			q.bits = math.Float64bits(f)
			asks = append(asks, q)
		}
		checkRightly(t, asks, measureCalls())
		checkSteady(t, asks, measureCalls())
	}
}

// All places have one float.
func TestOneFloatInAllOfAMeasure(t *testing.T) {
	for _, f := range hardFloats() {
		for _, n := range numbersOf(0, 1, 2, 7, 8, 9, 200, 201) {
			list := slices.Repeat(reading(f), n)
			q := measureAsk{f: f, bits: math.Float64bits(f), list: list, frames: spectra(list), library: spectra(list, list), spectrum: list, xs: list, ys: list, x: f}
			checkRightly(t, []measureAsk{q}, measureCalls())
		}
	}
}

func TestNoMeasureIsNoMeasure(t *testing.T) {
	bare := measureAsk{radius: 1, step: 1}
	empty := bare
	empty.list, empty.frames, empty.library, empty.spectrum, empty.xs, empty.ys = reading(), spectra(), spectra(), reading(), reading(), reading()
	hollow, hollowToo := bare, bare
	hollow.frames, hollow.library = spectra(nil), spectra(nil, nil)
	hollowToo.frames, hollowToo.library, hollowToo.spectrum = spectra(reading()), spectra(reading(), reading()), reading()
	checkNoneIsNone(t, [][2]measureAsk{{bare, empty}, {hollow, hollowToo}}, measureCalls())
}
