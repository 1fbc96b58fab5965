package tests

import (
	"math"
	"math/rand"
	"slices"
	"testing"

	"loop.example/g00057/impl"
)

type meanCase struct {
	what           string
	list           []float64
	mean, variance impl.MeanResult
}

func meanCases() []meanCase {
	return []meanCase{
		{"one number", reading(7), mean(1, 7), mean(1, 0)},
		{"two", reading(1, 2), mean(2, 1.5), mean(2, 0.25)},
		{"a NaN between two", reading(1, nan, 2), mean(2, 1.5), mean(2, 0.25)},
		{"a NaN ahead of two and one behind them", reading(nan, 1, 2, nan), mean(2, 1.5), mean(2, 0.25)},
		{"four", reading(1, 2, 3, 4), mean(4, 2.5), mean(4, 1.25)},
		{"below 0", reading(-3, -5, nan), mean(2, -4), mean(2, 1)},
		{"-0 alone", reading(minus0), mean(1, 0), mean(1, 0)},
		{"-0 alone, but for NaN", reading(nan, minus0, nan), mean(1, 0), mean(1, 0)},
		{"-0 twice", reading(minus0, minus0), mean(2, 0), mean(2, 0)},
		{"+0 alone", reading(0), mean(1, 0), mean(1, 0)},
		{"what is nought together", reading(5, -5), mean(2, 0), mean(2, 25)},
		{"an infinite number", reading(inf), mean(1, inf), mean(1, nan)},
		{"one below 0", reading(-inf, 3, nan), mean(2, -inf), mean(2, nan)},
		{"two infinite ones of one sign", reading(inf, inf), mean(2, inf), mean(2, nan)},
		{"two of both signs", reading(inf, -inf), mean(2, nan), mean(2, nan)},
		{"two of both signs, and others", reading(1, -inf, 2, inf, 3), mean(5, nan), mean(5, nan)},
		{"a sum that is too great", reading(mostFloat, mostFloat), mean(2, inf), mean(2, inf)},
		{"a sum that is too great below 0", reading(-mostFloat, -mostFloat, 1), mean(3, -inf), mean(3, inf)},
		{"a sum that is too great on the way", reading(mostFloat, mostFloat, -mostFloat), mean(3, inf), mean(3, inf)},
		{"the same in an order that is not", reading(mostFloat, -mostFloat, mostFloat), mean(3, mostFloat/3), mean(3, inf)},
		{"squares that are too great", reading(1e200, -1e200), mean(2, 0), mean(2, inf)},
		{"1 is lost", reading(1e16, 1, -1e16), mean(3, 0), mean(3, 2e32/3)},
		{"1 is not lost", reading(1e16, -1e16, 1), mean(3, 1.0/3), mean(3, 2e32/3)},
		{"1 twice is lost", reading(1e16, 1, 1), mean(3, 1e16/3), varianceWant(reading(1e16, 1, 1))},
		{"1 twice is not lost", reading(1, 1, 1e16), mean(3, (1e16+2)/3), varianceWant(reading(1, 1, 1e16))},
		{"the least subnormal", reading(leastSubnormal), mean(1, leastSubnormal), mean(1, 0)},
		{"half of it", reading(leastSubnormal, 0), mean(2, 0), mean(2, 0)},
		{"half of it below 0", reading(-leastSubnormal, 0), mean(2, minus0), mean(2, 0)},
		{"one and a half of it", reading(leastSubnormal, 2*leastSubnormal), mean(2, 2*leastSubnormal), mean(2, 0)},
		{"two and a half of it", reading(2*leastSubnormal, 3*leastSubnormal), mean(2, 2*leastSubnormal), mean(2, 0)},
		{"subnormal ones that make a normal one", reading(greatestSubnormal, leastSubnormal), mean(2, leastNormal/2), mean(2, 0)},
		{"normal ones that make a subnormal one", reading(leastNormal, -greatestSubnormal, nan), mean(2, 0), mean(2, 0)},
		{"squares that are subnormal", reading(0x1p-530, -0x1p-530), mean(2, 0), mean(2, 0x1p-1060)},
		{"a mean that is rounded", reading(0.1, 0.2, 0.3), mean(3, 0x1.999999999999bp-3), varianceWant(reading(0.1, 0.2, 0.3))},
	}
}

// bareCases have no number, or too many; all three answer alike.
func bareCases() []meanCase {
	none, many := meanCode(impl.ErrNone), meanCode(impl.ErrMany)
	full := slices.Repeat(reading(nan), 200)
	return []meanCase{
		{"no number", nil, none, none},
		{"an empty list", reading(), none, none},
		{"NaN alone", reading(nan), none, none},
		{"several NaN", reading(nan, -nan, math.Float64frombits(0x7FF0000000000001), math.Float64frombits(0xFFFFFFFFFFFFFFFF)), none, none},
		{"as many NaN as there may be", full, none, none},
		{"one NaN too many", append(full, nan), many, many},
		{"one number too many", slices.Repeat(reading(1), 201), many, many},
		{"one number behind too many NaN", append(full, 1), many, many},
		{"200 numbers and a NaN", append(slices.Repeat(reading(1), 200), nan), many, many},
		{"far too many", make([]float64, 100000), many, many},
	}
}

func checkMeans(t *testing.T, c meanCase) {
	t.Helper()
	checkMean(t, "the mean: "+c.what, impl.MeanOf(c.list), c.mean)
	checkMean(t, "the variance: "+c.what, impl.VarianceOf(c.list), c.variance)
}

func TestMeanOfByHand(t *testing.T) {
	for _, c := range append(meanCases(), bareCases()...) {
		checkMeans(t, c)
		checkMeans(t, meanCase{c.what + ", reckoned", c.list, meanWant(c.list), varianceWant(c.list)})
	}
}

func TestMeanOfAsManyAsThereMayBe(t *testing.T) {
	for _, n := range numbersOf(199, 200) {
		checkMeans(t, meanCase{"all alike", slices.Repeat(reading(3), n), mean(int64(n), 3), mean(int64(n), 0)})
		last := append(slices.Repeat(reading(nan), n-1), 9)
		checkMeans(t, meanCase{"the last alone", last, mean(1, 9), mean(1, 0)})
		slices.Reverse(last)
		checkMeans(t, meanCase{"the first alone", last, mean(1, 9), mean(1, 0)})
	}
}

func TestMeanOfAllSmallReadings(t *testing.T) {
	for _, list := range allReadings(4, nan, minus0, 0, 1, -3, inf, -inf) {
		checkMeans(t, meanCase{brief(list), list, meanWant(list), varianceWant(list)})
	}
	for _, list := range allReadings(3, nan, 1e16, -1e16, 1, mostFloat, -mostFloat, leastSubnormal, -leastNormal) {
		checkMeans(t, meanCase{brief(list), list, meanWant(list), varianceWant(list)})
	}
}

func TestMeanOfSomeReadings(t *testing.T) {
	chance := rand.New(rand.NewSource(142))
	turned := 0
	for i := range 1500 {
		list := someReading(chance, 1+chance.Intn(numbersOf(9, 200)[i%2]), i%3 == 0)
		checkMeans(t, meanCase{brief(list), list, meanWant(list), varianceWant(list)})
		back := slices.Clone(list)
		slices.Reverse(back)
		checkMeans(t, meanCase{brief(back), back, meanWant(back), varianceWant(back)})
		if !sameMean(meanWant(list), meanWant(back)) {
			turned++
		}
	}
	if turned < 200 {
		t.Errorf("only %d sums hang on the order", turned)
	}
}

// fusedVariance takes the squares into the sum without rounding them.
func fusedVariance(list []float64) float64 {
	middle, sum := meanWant(list).Value, 0.0
	for _, number := range list {
		sum = math.FMA(number-middle, number-middle, sum)
	}
	return sum / float64(len(list))
}

func TestVarianceRoundsEachSquare(t *testing.T) {
	chance := rand.New(rand.NewSource(143))
	unfused := 0
	for range 2000 {
		list := reading(chance.Float64(), chance.Float64(), chance.Float64())
		want := varianceWant(list)
		checkMean(t, brief(list), impl.VarianceOf(list), want)
		if fusedVariance(list) != want.Value {
			unfused++
		}
	}
	if unfused < 200 {
		t.Errorf("only %d of the variances have other bits when they are fused", unfused)
	}
}

// A variance that is reckoned otherwise, as the mean of the squares less the square of the mean, is another.
func TestVarianceIsOfWhatIsOff(t *testing.T) {
	checkMean(t, "far from 0", impl.VarianceOf(reading(1e9, 1e9+1, 1e9+2, nan)), mean(3, 2.0/3))
	checkMean(t, "alike, and far from 0", impl.VarianceOf(reading(1e200, 1e200)), mean(2, 0))
	checkMean(t, "alike, and below 0", impl.VarianceOf(reading(-1e-200, -1e-200)), mean(2, 0))
}

// sprinkled has a NaN here and there between the numbers.
func sprinkled(chance *rand.Rand, list []float64, n int) []float64 {
	list = slices.Clone(list)
	for range n {
		list = slices.Insert(list, chance.Intn(len(list)+1), math.Float64frombits(bitsOfNaN()[chance.Intn(len(bitsOfNaN()))]))
	}
	return list
}

// What is missing turns nothing.
func TestWhatIsMissingTurnsNoMean(t *testing.T) {
	chance := rand.New(rand.NewSource(144))
	for i := range 1000 {
		list := thereWant(someReading(chance, chance.Intn(100), i%2 == 0))
		more := sprinkled(chance, list, chance.Intn(101))
		checkMean(t, brief(more), impl.MeanOf(more), impl.MeanOf(list))
		checkMean(t, brief(more), impl.VarianceOf(more), impl.VarianceOf(list))
		checkMean(t, brief(more), impl.MedianOf(more), impl.MedianOf(list))
	}
}
