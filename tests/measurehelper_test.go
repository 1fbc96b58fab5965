package tests

import (
	"math"
	"math/big"
	"math/rand"
	"slices"
	"testing"

	"loop.example/g00057/impl"
)

const (
	leastSubnormal    = 0x1p-1074
	greatestSubnormal = 0x0.fffffffffffffp-1022
	leastNormal       = 0x1p-1022
	mostFloat         = math.MaxFloat64
	nanBits           = 0x7FF8000000000000
)

var (
	nan = math.NaN()
	inf = math.Inf(1)
)

// reading has what a tool measured; where it is nan, nothing.
func reading(list ...float64) []float64 {
	return list
}

func spectra(list ...[]float64) [][]float64 {
	return list
}

func mean(count int64, value float64) impl.MeanResult {
	return impl.MeanResult{Count: count, Value: value}
}

func meanCode(code int64) impl.MeanResult {
	return impl.MeanResult{Code: code}
}

func frames(list ...[]float64) impl.FramesResult {
	return impl.FramesResult{Frames: list}
}

func framesCode(code int64) impl.FramesResult {
	return impl.FramesResult{Code: code}
}

func sites(list ...impl.Site) impl.SitesResult {
	return impl.SitesResult{Sites: list}
}

func sitesCode(code int64) impl.SitesResult {
	return impl.SitesResult{Code: code}
}

func match(at int64, miss float64) impl.MatchFloat {
	return impl.MatchFloat{At: at, Miss: miss}
}

func matchCode(code int64) impl.MatchFloat {
	return impl.MatchFloat{Code: code}
}

func sameReading(a []float64, b []float64) bool {
	return slices.EqualFunc(a, b, sameFloat)
}

func sameReadings(a [][]float64, b [][]float64) bool {
	return slices.EqualFunc(a, b, sameReading)
}

func sameMean(a impl.MeanResult, b impl.MeanResult) bool {
	return a.Code == b.Code && a.Count == b.Count && sameFloat(a.Value, b.Value)
}

func sameFrames(a impl.FramesResult, b impl.FramesResult) bool {
	return a.Code == b.Code && sameReadings(a.Frames, b.Frames)
}

func sameSites(a impl.SitesResult, b impl.SitesResult) bool {
	return a.Code == b.Code && slices.Equal(a.Sites, b.Sites)
}

func sameMatched(a impl.MatchFloat, b impl.MatchFloat) bool {
	return a.Code == b.Code && a.At == b.At && sameFloat(a.Miss, b.Miss)
}

func checkMean(t *testing.T, what string, got impl.MeanResult, want impl.MeanResult) {
	t.Helper()
	if !sameMean(got, want) {
		t.Errorf("%s: %x, want %x", what, got, want)
	}
}

func checkFrames(t *testing.T, what string, got impl.FramesResult, want impl.FramesResult) {
	t.Helper()
	if !sameFrames(got, want) {
		t.Errorf("%s: %s, want %s", what, brief(got), brief(want))
	}
}

func checkMatched(t *testing.T, what string, got impl.MatchFloat, want impl.MatchFloat) {
	t.Helper()
	if !sameMatched(got, want) {
		t.Errorf("%s: %x, want %x", what, got, want)
	}
}

// bitsWant doubles and halves until the exponent is known; it never looks at the bits.
func bitsWant(f float64) uint64 {
	if f != f {
		return nanBits
	}
	sign, size, exponent := uint64(0), f, uint64(1023)
	if f < 0 || f == 0 && 1/f < 0 {
		sign, size = 1<<63, -f
	}
	if size > mostFloat {
		return sign | 0x7FF<<52
	}
	for ; size >= 2; size /= 2 {
		exponent++
	}
	for ; size < 1 && exponent > 1; size *= 2 {
		exponent--
	}
	if size < 1 {
		return sign | uint64(size*0x1p52)
	}
	return sign | exponent<<52 | uint64((size-1)*0x1p52)
}

// floatWant reckons the number that the bits tell with numbers of any length.
func floatWant(bits uint64) float64 {
	exponent, fraction, size := int(bits>>52&0x7FF), bits&(1<<52-1), inf
	switch {
	case exponent == 0x7FF && fraction != 0:
		return nan
	case exponent > 0 && exponent < 0x7FF:
		fraction |= 1 << 52
	}
	if exponent < 0x7FF {
		whole := new(big.Float).SetUint64(fraction)
		size, _ = whole.SetMantExp(whole, max(exponent, 1)-1075).Float64()
	}
	if bits>>63 == 1 {
		return -size
	}
	return size
}

// thereWant are the numbers that are not missing.
func thereWant(list []float64) []float64 {
	return slices.DeleteFunc(slices.Clone(list), math.IsNaN)
}

func thereFaultWant(list []float64) int64 {
	var codes faults
	codes.wrong(impl.ErrMany, len(list) >= 201)
	codes.wrong(impl.ErrNone, len(thereWant(list)) == 0)
	return codes.first()
}

// sharedWant is the sum, one number after the other, by how many there are.
func sharedWant(list []float64) float64 {
	sum := 0.0
	for _, number := range list {
		sum = sumWant(sum, number)
	}
	return byWant(sum, float64(len(list)))
}

func meanWant(list []float64) impl.MeanResult {
	if code := thereFaultWant(list); code != impl.OK {
		return meanCode(code)
	}
	there := thereWant(list)
	return mean(int64(len(there)), sharedWant(there))
}

func varianceWant(list []float64) impl.MeanResult {
	middle := meanWant(list)
	if middle.Code != impl.OK {
		return middle
	}
	squares := thereWant(list)
	for i, number := range squares {
		off := lessWant(number, middle.Value)
		squares[i] = timesWant(off, off)
	}
	return mean(middle.Count, sharedWant(squares))
}

// medianWant asks of each number how many stand ahead of it: those that are less, and the equal ones that came first.
func medianWant(list []float64) impl.MeanResult {
	if code := thereFaultWant(list); code != impl.OK {
		return meanCode(code)
	}
	there := thereWant(list)
	for i, number := range there {
		ahead := 0
		for j, other := range there {
			if other < number || other == number && j < i {
				ahead++
			}
		}
		if ahead == (len(there)-1)/2 {
			return mean(int64(len(there)), number)
		}
	}
	return meanCode(-1)
}

// framesWant asks for each place of each frame.
func framesWant(list []float64) impl.FramesResult {
	if len(list) >= 201 {
		return framesCode(impl.ErrMany)
	}
	var out impl.FramesResult
	for from := 0; from < len(list); from += 8 {
		one := slices.Repeat(reading(nan), 8)
		for at := range one {
			if from+at < len(list) {
				one[at] = list[from+at]
			}
		}
		out.Frames = append(out.Frames, one)
	}
	return out
}

func joinWant(list [][]float64) impl.FloatsResult {
	var codes faults
	codes.wrong(impl.ErrMany, len(list) >= 26)
	for _, one := range list {
		codes.wrong(impl.ErrForm, len(one) <= 7, len(one) >= 9)
	}
	if code := codes.first(); code != impl.OK {
		return floatsCode(code)
	}
	return floats(withoutEnd(slices.Concat(list...))...)
}

// withoutEnd is a list but for the NaN at its end.
func withoutEnd(list []float64) []float64 {
	last := -1
	for at, number := range list {
		if number == number {
			last = at
		}
	}
	return slices.Clone(list[:last+1])
}

// sitesWant looks at every place that there may be, and tells whether it is one.
func sitesWant(radius int64, step int64) impl.SitesResult {
	if radius < 0 || radius > 50 || step < 1 || step > 50 {
		return sitesCode(impl.ErrRange)
	}
	var out impl.SitesResult
	for y := int64(-50); y <= 50; y++ {
		for x := int64(-50); x <= 50; x++ {
			if x%step == 0 && y%step == 0 && x*x+y*y <= radius*radius {
				out.Sites = append(out.Sites, impl.Site{X: x, Y: y})
			}
		}
	}
	if len(out.Sites) >= 201 {
		return sitesCode(impl.ErrMany)
	}
	return out
}

func spectrumMissWant(known []float64, spectrum []float64) float64 {
	sum := 0.0
	for i := range spectrum {
		if known[i] == known[i] && spectrum[i] == spectrum[i] {
			off := lessWant(known[i], spectrum[i])
			sum = sumWant(sum, timesWant(off, off))
		}
	}
	return sum
}

// spectrumWant takes the first of those that no other misses by less; a sum that is NaN is taken where there is nothing else.
func spectrumWant(library [][]float64, spectrum []float64) impl.MatchFloat {
	var codes faults
	codes.wrong(impl.ErrMany, len(library) >= 21, len(spectrum) >= 201)
	codes.wrong(impl.ErrNone, len(library) == 0)
	for _, known := range library {
		codes.wrong(impl.ErrForm, len(known) != len(spectrum))
	}
	if code := codes.first(); code != impl.OK {
		return matchCode(code)
	}
	var misses []float64
	for _, known := range library {
		misses = append(misses, spectrumMissWant(known, spectrum))
	}
	for at, miss := range misses {
		if miss == miss && miss == slices.Min(thereWant(misses)) {
			return match(int64(at), miss)
		}
	}
	return match(0, nan)
}

func traceFaultWant(xs []float64, ys []float64, x float64) int64 {
	var codes faults
	codes.wrong(impl.ErrMany, len(xs) >= 201, len(ys) >= 201)
	codes.wrong(impl.ErrForm, len(xs) != len(ys), len(xs) <= 1)
	for i := range xs {
		codes.wrong(impl.ErrRange, xs[i] != xs[i], i > 0 && xs[i] <= xs[max(i-1, 0)])
	}
	if len(xs) > 0 {
		codes.wrong(impl.ErrRange, x != x, x < xs[0], x > xs[len(xs)-1])
	}
	return codes.first()
}

// traceWant goes from the last place but one down to the first.
func traceWant(xs []float64, ys []float64, x float64) impl.MeanResult {
	if code := traceFaultWant(xs, ys, x); code != impl.OK {
		return meanCode(code)
	}
	i := len(xs) - 2
	for x < xs[i] {
		i--
	}
	part := byWant(lessWant(x, xs[i]), lessWant(xs[i+1], xs[i]))
	return mean(int64(i), sumWant(ys[i], timesWant(lessWant(ys[i+1], ys[i]), part)))
}

// someReading has n numbers, about one in five of them missing; where it is wild, any float may be there.
func someReading(chance *rand.Rand, n int, wild bool) []float64 {
	var list []float64
	for range n {
		number := chance.NormFloat64() * 100
		if wild {
			number = someFloat(chance)
		}
		if chance.Intn(5) == 0 {
			number = nan
		}
		list = append(list, number)
	}
	return list
}

// someRising has n numbers of which each is greater than the one ahead.
func someRising(chance *rand.Rand, n int, wild bool) []float64 {
	list := thereWant(someReading(chance, 2*n, wild))
	slices.Sort(list)
	list = slices.Compact(list)
	return list[:min(n, len(list))]
}

// someSpectra has n spectra of that length; those that are wild have noughts, infinities and the like.
func someSpectra(chance *rand.Rand, n int, long int, wild bool) [][]float64 {
	var list [][]float64
	for range n {
		list = append(list, someReading(chance, long, wild))
	}
	return list
}

// allReadings are all lists of at most n of these numbers.
func allReadings(n int, of ...float64) [][]float64 {
	list := spectra(nil)
	last := spectra(nil)
	for range n {
		var next [][]float64
		for _, ahead := range last {
			for _, number := range of {
				next = append(next, append(slices.Clone(ahead), number))
			}
		}
		list, last = append(list, next...), next
	}
	return list
}

// measureEnds are the bounds of chapter 14 and what lies beside them.
func measureEnds() []int64 {
	list := numbers(0, 1, 2, 7, 8, 9, 49, 50, 51, 199, 200, 201, 1<<31, 1<<32, greatestInt-1, greatestInt)
	for _, n := range list {
		list = append(list, -n)
	}
	return append(list, leastInt)
}
