package tests

import (
	"math/rand"
	"slices"
	"testing"

	"loop.example/g00057/impl"
)

func TestMedianOfByHand(t *testing.T) {
	for _, c := range []struct {
		what string
		list []float64
		want impl.MeanResult
	}{
		{"an even count", reading(3, 1, 2, 4), mean(4, 2)},
		{"an odd count", reading(3, 1, 2), mean(3, 2)},
		{"one", reading(-7), mean(1, -7)},
		{"two", reading(9, 5), mean(2, 5)},
		{"two, in order", reading(5, 9), mean(2, 5)},
		{"NaN between them", reading(nan, 9, nan, nan, 5, nan, 7), mean(3, 7)},
		{"an even count with a NaN", reading(nan, 4, 3, 2, 1), mean(4, 2)},
		{"equal ones", reading(2, 2, 2, 2), mean(4, 2)},
		{"equal ones and one that is less", reading(2, 1, 2), mean(3, 2)},
		{"equal ones and two that are less", reading(2, 1, 1, 2), mean(4, 1)},
		{"-0 alone", reading(minus0), mean(1, minus0)},
		{"+0 alone", reading(0), mean(1, 0)},
		{"-0 and +0", reading(minus0, 0), mean(2, minus0)},
		{"+0 and -0", reading(0, minus0), mean(2, 0)},
		{"-0, +0, and one below", reading(minus0, 0, -1), mean(3, minus0)},
		{"+0, -0, and one below", reading(0, minus0, -1), mean(3, 0)},
		{"-0, +0, and one above", reading(1, minus0, 0), mean(3, 0)},
		{"+0, -0, and one above", reading(1, 0, minus0), mean(3, minus0)},
		{"four noughts", reading(0, minus0, 0, 0), mean(4, minus0)},
		{"four noughts the other way", reading(minus0, 0, minus0, minus0), mean(4, 0)},
		{"noughts with NaN between them", reading(nan, 0, nan, minus0, nan), mean(2, 0)},
		{"a nought and the least subnormal", reading(leastSubnormal, 0, minus0), mean(3, minus0)},
		{"subnormal ones", reading(2*leastSubnormal, leastSubnormal, greatestSubnormal), mean(3, 2*leastSubnormal)},
		{"subnormal ones below 0", reading(0, -leastSubnormal, minus0), mean(3, 0)},
		{"infinite ones", reading(inf, -inf), mean(2, -inf)},
		{"infinite ones and a number", reading(inf, 1, -inf), mean(3, 1)},
		{"infinite ones of one sign", reading(inf, inf, 3), mean(3, inf)},
		{"neighbours", reading(1+0x1p-52, 1, 1-0x1p-53), mean(3, 1)},
		{"the greatest", reading(mostFloat, inf, -mostFloat, -inf), mean(4, -mostFloat)},
	} {
		checkMean(t, c.what, impl.MedianOf(c.list), c.want)
		checkMean(t, c.what+", reckoned", impl.MedianOf(c.list), medianWant(c.list))
	}
	for _, c := range bareCases() {
		checkMean(t, c.what, impl.MedianOf(c.list), c.mean)
	}
}

func TestMedianOfAllSmallReadings(t *testing.T) {
	for _, list := range allReadings(5, nan, minus0, 0, 1, -1) {
		checkMean(t, brief(list), impl.MedianOf(list), medianWant(list))
	}
	for _, list := range allReadings(4, inf, -inf, nan, minus0, 0, leastSubnormal, 2) {
		checkMean(t, brief(list), impl.MedianOf(list), medianWant(list))
	}
}

// Of many noughts just one has the other sign: the median is that one only if it came in the middle.
func TestMedianOfManyNoughts(t *testing.T) {
	for _, n := range numbersOf(1, 2, 12, 13, 21, 50, 100, 199, 200) {
		for odd := range n {
			list := make([]float64, n)
			list[odd] = minus0
			want := 0.0
			if odd == (n-1)/2 {
				want = minus0
			}
			checkMean(t, brief(list), impl.MedianOf(list), mean(int64(n), want))
		}
	}
}

func TestMedianOfSomeReadings(t *testing.T) {
	chance := rand.New(rand.NewSource(145))
	few := reading(minus0, 0, minus0, 0, 1, -1, nan)
	for i := range 3000 {
		n := 1 + chance.Intn(numbersOf(9, 30, 200)[i%3])
		list := someReading(chance, n, i%2 == 0)
		ties := make([]float64, n)
		for at := range ties {
			ties[at] = few[chance.Intn(len(few))]
		}
		checkMean(t, brief(list), impl.MedianOf(list), medianWant(list))
		checkMean(t, brief(ties), impl.MedianOf(ties), medianWant(ties))
	}
}

// Without noughts of both signs the median hangs on no order, and half of the numbers lie on either side.
func TestMedianLiesBetween(t *testing.T) {
	chance := rand.New(rand.NewSource(146))
	for range 500 {
		list := someReading(chance, 1+chance.Intn(200), false)
		got := impl.MedianOf(list)
		below, above := 0, 0
		for _, number := range list {
			if number < got.Value {
				below++
			}
			if number > got.Value {
				above++
			}
		}
		if n := len(thereWant(list)); below > (n-1)/2 || above > n/2 {
			t.Errorf("%d below and %d above of %d", below, above, n)
		}
		chance.Shuffle(len(list), func(i int, j int) { list[i], list[j] = list[j], list[i] })
		checkMean(t, "shuffled", impl.MedianOf(list), got)
		slices.Sort(list)
		checkMean(t, "sorted", impl.MedianOf(list), got)
	}
}
