package tests

import (
	"math"
	"math/rand"
	"slices"
	"testing"

	"loop.example/g00057/impl"
)

type matchCase struct {
	what     string
	library  [][]float64
	spectrum []float64
	want     impl.MatchFloat
}

func checkMatches(t *testing.T, list []matchCase) {
	t.Helper()
	for _, c := range list {
		got := impl.MatchSpectrum(c.library, c.spectrum)
		checkMatched(t, c.what, got, c.want)
		checkMatched(t, c.what+", reckoned", got, spectrumWant(c.library, c.spectrum))
	}
}

func TestMatchSpectrumByHand(t *testing.T) {
	checkMatches(t, []matchCase{
		{"one that is it", spectra(reading(1, 2)), reading(1, 2), match(0, 0)},
		{"one that is not", spectra(reading(1, 2)), reading(4, 6), match(0, 25)},
		{"the second", spectra(reading(1, 2), reading(1, 3)), reading(1, 3), match(1, 0)},
		{"the last", spectra(reading(9, 9), reading(0, 9), reading(1, 3)), reading(1, 2), match(2, 1)},
		{"the first", spectra(reading(1, 3), reading(9, 9), reading(0, 9)), reading(1, 2), match(0, 1)},
		{"below and above", spectra(reading(5), reading(-2)), reading(1), match(1, 9)},
		{"a tie of two", spectra(reading(3), reading(1), reading(3)), reading(2), match(0, 1)},
		{"a tie behind a greater one", spectra(reading(9), reading(1), reading(3)), reading(2), match(1, 1)},
		{"all alike", spectra(reading(4, 4), reading(4, 4), reading(4, 4)), reading(4, 4), match(0, 0)},
		{"a tie by other places", spectra(reading(0, 1), reading(1, 0)), reading(0, 0), match(0, 1)},
		{"no numbers", spectra(nil), nil, match(0, 0)},
		{"no numbers in three", spectra(nil, reading(), nil), reading(), match(0, 0)},
		{"noughts of both signs", spectra(reading(minus0), reading(0)), reading(0), match(0, 0)},
		{"noughts of both signs, the other way", spectra(reading(0), reading(minus0)), reading(minus0), match(0, 0)},
		{"a sum that hangs on its order", spectra(reading(1, 1, 1e8), reading(1e8, 1, 1)), reading(0, 0, 0), match(1, 1e16)},
		{"the same the other way", spectra(reading(1e8, 1, 1), reading(1, 1, 1e8)), reading(0, 0, 0), match(0, 1e16)},
		{"squares that vanish", spectra(reading(1e-100), reading(1e-200)), reading(0), match(1, 0)},
		{"squares that vanish are a tie", spectra(reading(1e-190), reading(leastSubnormal)), reading(0), match(0, 0)},
		{"squares that are subnormal", spectra(reading(0x1p-536), reading(0x1p-537)), reading(0), match(1, leastSubnormal)},
	})
}

func TestMatchSpectrumWithoutWhatIsMissing(t *testing.T) {
	checkMatches(t, []matchCase{
		{"missing in the one", spectra(reading(nan, 2), reading(1, 3)), reading(1, 2), match(0, 0)},
		{"missing in the other", spectra(reading(7, 3), reading(1, 2)), reading(nan, 2), match(1, 0)},
		{"missing in both", spectra(reading(nan, 3), reading(nan, 2)), reading(nan, 2), match(1, 0)},
		{"missing crosswise", spectra(reading(nan, 3), reading(5, 5)), reading(4, nan), match(0, 0)},
		{"all missing in one of them", spectra(reading(1, 1), reading(nan, nan)), reading(1, 2), match(1, 0)},
		{"all missing in what is asked", spectra(reading(1, 1), reading(2, 2)), reading(nan, nan), match(0, 0)},
		{"all missing", spectra(reading(nan), reading(nan)), reading(nan), match(0, 0)},
		{"missing beside an infinite number", spectra(reading(1), reading(nan)), reading(inf), match(1, 0)},
		{"an infinite number beside what is missing", spectra(reading(1), reading(inf)), reading(nan), match(0, 0)},
		{"missing ahead of and behind others", spectra(reading(nan, 1, nan, 1, nan), reading(3, 1, 3, 2, 3)), reading(3, 1, 3, 3, 3), match(1, 1)},
	})
}

func TestMatchSpectrumOfInfiniteNumbers(t *testing.T) {
	checkMatches(t, []matchCase{
		{"NaN ahead of infinite", spectra(reading(inf), reading(0)), reading(inf), match(1, inf)},
		{"infinite ahead of NaN", spectra(reading(0), reading(inf)), reading(inf), match(0, inf)},
		{"both infinite", spectra(reading(0), reading(1)), reading(inf), match(0, inf)},
		{"of both signs", spectra(reading(-inf), reading(inf)), reading(inf), match(0, inf)},
		{"all NaN", spectra(reading(inf), reading(inf), reading(inf)), reading(inf), match(0, nan)},
		{"one NaN", spectra(reading(-inf)), reading(-inf), match(0, nan)},
		{"NaN ahead of a number", spectra(reading(inf, 1), reading(5, 1)), reading(inf, 1), match(1, inf)},
		{"NaN, a number, NaN", spectra(reading(inf, 1), reading(nan, 1), reading(inf, 2)), reading(inf, 4), match(1, 9)},
		{"a number ahead of NaN", spectra(reading(nan, 1), reading(inf, 4)), reading(inf, 4), match(0, 9)},
		{"NaN, infinite, a number", spectra(reading(inf, 4), reading(0, 4), reading(nan, 1)), reading(inf, 4), match(2, 9)},
		{"NaN twice, and a number behind them", spectra(reading(inf, 4), reading(inf, 4), reading(nan, 9)), reading(inf, 4), match(2, 25)},
		{"sums that are too great", spectra(reading(1e200), reading(1e300), reading(0x1p500)), reading(0), match(2, 0x1p1000)},
		{"one sum that is too great", spectra(reading(mostFloat), reading(-mostFloat)), reading(-mostFloat), match(1, 0)},
		{"differences that are too great", spectra(reading(mostFloat), reading(1e200)), reading(-mostFloat), match(0, inf)},
		{"infinite within, NaN behind it", spectra(reading(0, inf), reading(0, 0)), reading(inf, inf), match(1, inf)},
	})
}

func TestMatchSpectrumOfFaults(t *testing.T) {
	full, form := make([]float64, 200), matchCode(impl.ErrForm)
	many, none := matchCode(impl.ErrMany), matchCode(impl.ErrNone)
	checkMatches(t, []matchCase{
		{"no spectra", nil, reading(1), none},
		{"no spectra and no numbers", nil, nil, none},
		{"an empty library", spectra(), reading(), none},
		{"no spectra, and as many numbers as there may be", nil, full, none},
		{"no spectra, and one number too many", nil, append(full, 0), many},
		{"no spectra, and far too many numbers", nil, make([]float64, 100000), many},
		{"as many as there may be", slices.Repeat(spectra(full), 20), full, match(0, 0)},
		{"one spectrum too many", slices.Repeat(spectra(full), 21), full, many},
		{"one too many, of no numbers", make([][]float64, 21), nil, many},
		{"one too many, of which one is too short", append(slices.Repeat(spectra(full), 20), nil), full, many},
		{"one too many, all too short", make([][]float64, 21), full, many},
		{"far too many", make([][]float64, 100000), reading(1), many},
		{"one number too many", spectra(append(full, 0)), append(full, 0), many},
		{"one number too many in what is asked", spectra(full), append(full, 0), many},
		{"one number too many in the library", spectra(append(full, 0)), full, form},
		{"far too many numbers in the library", spectra(make([]float64, 100000)), reading(1), form},
		{"one is too short", spectra(reading(1, 2), reading(1)), reading(1, 2), form},
		{"one is too long", spectra(reading(1, 2, 3), reading(1, 2)), reading(1, 2), form},
		{"one has no numbers", spectra(reading(1), nil), reading(1), form},
		{"what is asked has no numbers", spectra(reading(1)), nil, form},
		{"one is too short, and another the very one", spectra(reading(1, 2), reading(1, 2), reading(nan)), reading(1, 2), form},
	})
}

func TestMatchSpectrumOfTheLast(t *testing.T) {
	full := make([]float64, 200)
	other := slices.Clone(full)
	other[199] = 1
	for _, n := range numbersOf(1, 2, 19, 20) {
		library := append(slices.Repeat(spectra(other), n-1), full)
		checkMatches(t, []matchCase{{"the last of them", library, full, match(int64(n-1), 0)}, {"a tie", slices.Repeat(spectra(other), n), full, match(0, 1)}})
	}
}

func TestMatchSpectrumOfAllSmallSpectra(t *testing.T) {
	small := slices.DeleteFunc(allReadings(2, nan, 0, minus0, 1, inf, -inf), func(list []float64) bool { return len(list) != 2 })
	for _, spectrum := range small {
		for _, a := range small {
			for _, b := range small {
				got, want := impl.MatchSpectrum(spectra(a, b), spectrum), spectrumWant(spectra(a, b), spectrum)
				if !sameMatched(got, want) {
					t.Fatalf("%v, %v and %v: %x, want %x", spectrum, a, b, got, want)
				}
			}
		}
	}
}

// fusedMiss takes the squares into the sum without rounding them.
func fusedMiss(known []float64, spectrum []float64) float64 {
	sum := 0.0
	for i, number := range known {
		if off := number - spectrum[i]; off == off {
			sum = math.FMA(off, off, sum)
		}
	}
	return sum
}

func TestMatchSpectrumOfSomeSpectra(t *testing.T) {
	chance := rand.New(rand.NewSource(150))
	unfused, behind := 0, 0
	for i := range 1500 {
		long := chance.Intn(numbersOf(4, 30)[i%2])
		library, spectrum := someSpectra(chance, 1+chance.Intn(20), long, i%3 == 0), someReading(chance, long, i%3 == 0)
		want := spectrumWant(library, spectrum)
		checkMatches(t, []matchCase{{brief(library), library, spectrum, want}})
		if i%3 > 0 && fusedMiss(library[want.At], spectrum) != want.Miss {
			unfused++
		}
		behind += int(min(want.At, 1))
	}
	if unfused < 100 || behind < 500 {
		t.Errorf("%d have other bits when they are fused, and %d are not the first", unfused, behind)
	}
}

// No spectrum misses by less, asked one by one, and none ahead of it by as little.
func TestNoSpectrumMissesByLess(t *testing.T) {
	chance := rand.New(rand.NewSource(151))
	for range 500 {
		long := 1 + chance.Intn(5)
		library, spectrum := someSpectra(chance, 1+chance.Intn(20), long, false), someReading(chance, long, false)
		got := impl.MatchSpectrum(library, spectrum)
		for at, known := range library {
			alone := impl.MatchSpectrum(spectra(known), spectrum)
			if alone.Miss < got.Miss || int64(at) < got.At && alone.Miss == got.Miss || int64(at) == got.At && alone.Miss != got.Miss {
				t.Errorf("%s of %s: %v, but at %d %v", brief(spectrum), brief(library), got, at, alone)
			}
		}
	}
}

// A spectrum that stands in the library is found there, or one ahead of it that misses by nothing, too.
func TestMatchSpectrumFindsItsOwn(t *testing.T) {
	chance := rand.New(rand.NewSource(152))
	for range 300 {
		library := someSpectra(chance, 20, 1+chance.Intn(200), false)
		at := chance.Intn(20)
		if got := impl.MatchSpectrum(library, library[at]); got.Code != impl.OK || got.Miss != 0 || got.At > int64(at) {
			t.Errorf("%v, want %d", got, at)
		}
	}
}
