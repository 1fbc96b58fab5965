package tests

import (
	"math"
	"math/rand"
	"slices"
	"testing"

	"loop.example/g00057/impl"
)

// counted8 is the frame of eight numbers from that one on.
func counted8(from float64) []float64 {
	var list []float64
	for i := range 8 {
		list = append(list, from+float64(i))
	}
	return list
}

// missing8 is a frame in which all is missing.
func missing8() []float64 {
	return slices.Repeat(reading(nan), 8)
}

func TestFramesOfByHand(t *testing.T) {
	for _, c := range []struct {
		what string
		list []float64
		want impl.FramesResult
	}{
		{"none", nil, frames()},
		{"an empty list", reading(), frames()},
		{"one", reading(5), frames(reading(5, nan, nan, nan, nan, nan, nan, nan))},
		{"seven", counted8(1)[:7], frames(reading(1, 2, 3, 4, 5, 6, 7, nan))},
		{"eight", counted8(1), frames(counted8(1))},
		{"nine", append(counted8(1), 9), frames(counted8(1), reading(9, nan, nan, nan, nan, nan, nan, nan))},
		{"sixteen", append(counted8(1), counted8(9)...), frames(counted8(1), counted8(9))},
		{"a NaN within", reading(1, nan, 3), frames(reading(1, nan, 3, nan, nan, nan, nan, nan))},
		{"a NaN at the end", reading(1, 2, nan), frames(reading(1, 2, nan, nan, nan, nan, nan, nan))},
		{"a NaN ahead", reading(nan, 2), frames(reading(nan, 2, nan, nan, nan, nan, nan, nan))},
		{"a NaN alone", reading(nan), frames(missing8())},
		{"eight NaN", missing8(), frames(missing8())},
		{"nine NaN", append(missing8(), nan), frames(missing8(), missing8())},
		{"eight and a NaN", append(counted8(1), nan), frames(counted8(1), missing8())},
		{"a nought with a sign", reading(minus0, 0), frames(reading(minus0, 0, nan, nan, nan, nan, nan, nan))},
		{"infinite and small", reading(inf, -inf, leastSubnormal, -greatestSubnormal, mostFloat), frames(reading(inf, -inf, leastSubnormal, -greatestSubnormal, mostFloat, nan, nan, nan))},
		{"one too many", make([]float64, 201), framesCode(impl.ErrMany)},
		{"one NaN too many", slices.Repeat(reading(nan), 201), framesCode(impl.ErrMany)},
		{"far too many", make([]float64, 100000), framesCode(impl.ErrMany)},
	} {
		checkFrames(t, c.what, impl.FramesOf(c.list), c.want)
		checkFrames(t, c.what+", reckoned", impl.FramesOf(c.list), framesWant(c.list))
	}
}

func TestFramesOfEveryLength(t *testing.T) {
	for n := range 210 {
		list := make([]float64, n)
		for at := range list {
			list[at] = float64(at + 1)
		}
		got := impl.FramesOf(list)
		checkFrames(t, "counted", got, framesWant(list))
		checkFrames(t, "all missing", impl.FramesOf(slices.Repeat(reading(nan), n)), framesWant(slices.Repeat(reading(nan), n)))
		if n <= 200 && (got.Code != impl.OK || len(got.Frames) != (n+7)/8) {
			t.Errorf("%d numbers: code %d, %d frames", n, got.Code, len(got.Frames))
		}
	}
	if got := impl.FramesOf(make([]float64, 200)); len(got.Frames) != 25 {
		t.Errorf("200 numbers: %d frames", len(got.Frames))
	}
}

func TestFramesOfSomeReadings(t *testing.T) {
	chance := rand.New(rand.NewSource(147))
	for i := range 2000 {
		list := someReading(chance, chance.Intn(numbersOf(20, 203)[i%2]), i%3 > 0)
		checkFrames(t, brief(list), impl.FramesOf(list), framesWant(list))
	}
}

type joinCase struct {
	what string
	list [][]float64
	want impl.FloatsResult
}

func joinCases() []joinCase {
	quietly := math.Float64frombits(0xFFF0000000000001)
	return []joinCase{
		{"none", nil, floats()},
		{"an empty list", spectra(), floats()},
		{"one frame", spectra(counted8(1)), floats(counted8(1)...)},
		{"two frames", spectra(counted8(1), counted8(9)), floats(append(counted8(1), counted8(9)...)...)},
		{"two frames, the later one first", spectra(counted8(9), counted8(1)), floats(append(counted8(9), counted8(1)...)...)},
		{"a NaN at the end", spectra(reading(1, 2, 3, 4, 5, 6, 7, nan)), floats(1, 2, 3, 4, 5, 6, 7)},
		{"a NaN with a sign at the end", spectra(reading(1, 2, 3, 4, 5, 6, nan, quietly)), floats(1, 2, 3, 4, 5, 6)},
		{"one number and seven NaN", spectra(reading(5, nan, nan, nan, nan, nan, nan, nan)), floats(5)},
		{"eight NaN", spectra(missing8()), floats()},
		{"eight NaN twice", spectra(missing8(), missing8()), floats()},
		{"NaN of several kinds", spectra(slices.Repeat(reading(nan, quietly), 4)), floats()},
		{"a NaN in the midst", spectra(reading(1, nan, 3, nan, nan, 6, nan, nan)), floats(1, nan, 3, nan, nan, 6)},
		{"a NaN ahead", spectra(reading(nan, 2, 3, 4, 5, 6, 7, 8)), floats(nan, 2, 3, 4, 5, 6, 7, 8)},
		{"NaN ahead of the last number", spectra(append(missing8()[:7], 8)), floats(append(missing8()[:7], 8)...)},
		{"NaN through two frames", spectra(reading(1, 2, 3, 4, 5, nan, nan, nan), missing8()), floats(1, 2, 3, 4, 5)},
		{"NaN through three frames", spectra(counted8(1), reading(9, nan, nan, nan, nan, nan, nan, nan), missing8(), missing8()), floats(append(counted8(1), 9)...)},
		{"a whole frame and one of NaN", spectra(counted8(1), missing8()), floats(counted8(1)...)},
		{"a frame of NaN in the midst", spectra(counted8(1), missing8(), counted8(3)), floats(slices.Concat(counted8(1), missing8(), counted8(3))...)},
		{"a frame of NaN first", spectra(missing8(), counted8(3)), floats(append(missing8(), counted8(3)...)...)},
		{"NaN at the end of a frame that is not the last", spectra(reading(1, 2, nan, nan, nan, nan, nan, nan), reading(3, nan, nan, nan, nan, nan, nan, nan)), floats(1, 2, nan, nan, nan, nan, nan, nan, 3)},
		{"noughts at the end", spectra(reading(1, 0, 0, 0, 0, 0, 0, minus0)), floats(1, 0, 0, 0, 0, 0, 0, minus0)},
		{"a nought ahead of NaN", spectra(reading(1, minus0, nan, nan, nan, nan, nan, nan)), floats(1, minus0)},
		{"an infinite number ahead of NaN", spectra(reading(1, -inf, nan, nan, nan, nan, nan, nan)), floats(1, -inf)},
		{"a subnormal one ahead of NaN", spectra(reading(leastSubnormal, nan, nan, nan, nan, nan, nan, nan)), floats(leastSubnormal)},
	}
}

func joinFaultCases() []joinCase {
	long := func(n int, list []float64) [][]float64 { return slices.Repeat(spectra(list), n) }
	form, many := floatsCode(impl.ErrForm), floatsCode(impl.ErrMany)
	return []joinCase{
		{"seven numbers", spectra(counted8(1)[:7]), form},
		{"nine numbers", spectra(append(counted8(1), 9)), form},
		{"no numbers", spectra(nil), form},
		{"an empty frame", spectra(reading()), form},
		{"sixteen numbers", spectra(append(counted8(1), counted8(1)...)), form},
		{"seven NaN", spectra(missing8()[:7]), form},
		{"nine NaN", spectra(append(missing8(), nan)), form},
		{"the last one is too short", spectra(counted8(1), counted8(1), counted8(1)[:7]), form},
		{"the first one is too long", spectra(append(counted8(1), 9), counted8(1)), form},
		{"one is empty behind all", spectra(counted8(1), nil), form},
		{"25 frames, one too short", append(long(24, counted8(1)), counted8(1)[:7]), form},
		{"26 frames", long(26, counted8(1)), many},
		{"26 frames of NaN", long(26, missing8()), many},
		{"26 frames of seven numbers", long(26, counted8(1)[:7]), many},
		{"26 frames of nine numbers", long(26, append(counted8(1), 9)), many},
		{"26 frames, the first too short", append(spectra(nil), long(25, counted8(1))...), many},
		{"26 frames of none", make([][]float64, 26), many},
		{"far too many", make([][]float64, 100000), many},
		{"a frame far too long", spectra(make([]float64, 100000)), form},
	}
}

func TestJoinFramesByHand(t *testing.T) {
	for _, c := range append(joinCases(), joinFaultCases()...) {
		checkFloats(t, c.what, impl.JoinFrames(c.list), c.want)
		checkFloats(t, c.what+", reckoned", impl.JoinFrames(c.list), joinWant(c.list))
	}
}

func TestJoinFramesOfAsManyAsThereMayBe(t *testing.T) {
	for _, n := range numbersOf(24, 25) {
		got := impl.JoinFrames(slices.Repeat(spectra(counted8(1)), n))
		checkFloats(t, "all whole", got, floats(slices.Repeat(counted8(1), n)...))
		checkFloats(t, "all missing", impl.JoinFrames(slices.Repeat(spectra(missing8()), n)), floats())
		first := append(spectra(reading(4, nan, nan, nan, nan, nan, nan, nan)), slices.Repeat(spectra(missing8()), n-1)...)
		checkFloats(t, "all missing but the first", impl.JoinFrames(first), floats(4))
	}
}

// Every frame of some that are there and some that are missing, by itself and ahead of and behind others.
func TestJoinFramesOfEveryGap(t *testing.T) {
	for bits := range 256 {
		one := counted8(1)
		for at := range one {
			if bits>>at&1 == 0 {
				one[at] = nan
			}
		}
		for _, list := range [][][]float64{spectra(one), spectra(one, missing8()), spectra(missing8(), one), spectra(one, one), spectra(one, missing8(), one, missing8())} {
			checkFloats(t, brief(list), impl.JoinFrames(list), joinWant(list))
		}
	}
}

func TestJoinFramesOfSomeReadings(t *testing.T) {
	chance := rand.New(rand.NewSource(148))
	for i := range 2000 {
		list := someSpectra(chance, chance.Intn(numbersOf(4, 27)[i%2]), 8, i%3 > 0)
		if i%5 == 0 && len(list) > 0 {
			list[len(list)-1] = missing8()
		}
		if i%7 == 0 && len(list) > 0 {
			list[chance.Intn(len(list))] = someReading(chance, 7+chance.Intn(3), false)
		}
		checkFloats(t, brief(list), impl.JoinFrames(list), joinWant(list))
	}
}

// Frames come back: what was cut into frames is joined again, but for the NaN at the end.
func TestFramesComeBack(t *testing.T) {
	chance := rand.New(rand.NewSource(149))
	for n := range 201 {
		for round := range 6 {
			list := someReading(chance, n, round%2 == 0)
			if round > 3 {
				list = append(list[:n/2:n/2], slices.Repeat(reading(nan), n-n/2)...)
			}
			got := impl.JoinFrames(impl.FramesOf(list).Frames)
			checkFloats(t, brief(list), got, floats(withoutEnd(list)...))
			again := impl.FramesOf(got.List)
			checkFloats(t, brief(list), impl.JoinFrames(again.Frames), got)
		}
	}
}
