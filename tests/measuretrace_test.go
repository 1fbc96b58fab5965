package tests

import (
	"math"
	"math/rand"
	"slices"
	"testing"

	"loop.example/g00057/impl"
)

type traceCase struct {
	what   string
	xs, ys []float64
	x      float64
	want   impl.MeanResult
}

func checkTraces(t *testing.T, list []traceCase) {
	t.Helper()
	for _, c := range list {
		got := impl.TraceAt(c.xs, c.ys, c.x)
		checkMean(t, c.what, got, c.want)
		checkMean(t, c.what+", reckoned", got, traceWant(c.xs, c.ys, c.x))
	}
}

func TestTraceAtByHand(t *testing.T) {
	xs, ys := reading(0, 1, 3, 7), reading(10, 20, 0, 8)
	out := meanCode(impl.ErrRange)
	checkTraces(t, []traceCase{
		{"at the first", xs, ys, 0, mean(0, 10)},
		{"at the first, with a sign", xs, ys, minus0, mean(0, 10)},
		{"behind the first", xs, ys, 0.5, mean(0, 15)},
		{"just below the second", xs, ys, 1 - 0x1p-53, mean(0, 20)},
		{"at the second", xs, ys, 1, mean(1, 20)},
		{"just above the second", xs, ys, 1 + 0x1p-52, mean(1, 20-0x1p-48)},
		{"between the second and the third", xs, ys, 2, mean(1, 10)},
		{"at the third", xs, ys, 3, mean(2, 0)},
		{"behind the third", xs, ys, 4, mean(2, 2)},
		{"at the last", xs, ys, 7, mean(2, 8)},
		{"just above the last", xs, ys, math.Nextafter(7, 8), out},
		{"above the last", xs, ys, 8, out},
		{"just below the first", xs, ys, -leastSubnormal, out},
		{"below the first", xs, ys, -1, out},
		{"no number", xs, ys, nan, out},
		{"infinite", xs, ys, inf, out},
		{"infinite below 0", xs, ys, -inf, out},
		{"two at the first", xs[:2], ys[:2], 0, mean(0, 10)},
		{"two at the last", xs[:2], ys[:2], 1, mean(0, 20)},
		{"two between them", xs[:2], ys[:2], 0.25, mean(0, 12.5)},
		{"below 0", reading(-7, -3), reading(-1, -2), -4, mean(0, -1.75)},
	})
}

// Each operation stands by itself: one that is left out, or done in another order, has another answer.
func TestTraceAtStepByStep(t *testing.T) {
	checkTraces(t, []traceCase{
		{"at the last, what is there is not met", reading(0, 1), reading(1e16, 1), 1, mean(0, 0)},
		{"a product that would be too great", reading(0, 20), reading(0, 1e308), 10, mean(0, 0.5e308)},
		{"a difference that is too great", reading(0, 2), reading(-mostFloat, mostFloat), 1, mean(0, inf)},
		{"the same at the first", reading(0, 2), reading(-mostFloat, mostFloat), 0, mean(0, nan)},
		{"a width that is too great", reading(-mostFloat, mostFloat), reading(3, 5), 0, mean(0, 3)},
		{"a width that is too great at the last", reading(-mostFloat, mostFloat), reading(3, 5), mostFloat, mean(0, nan)},
		{"a third of the way", reading(0, 3), reading(0, 1), 1, mean(0, 1.0/3)},
		{"a tenth of the way", reading(0, 10), reading(1, 4), 1, mean(0, 1+3*(1.0/10))},
		{"the least width", reading(0, leastSubnormal), reading(5, 7), leastSubnormal, mean(0, 7)},
		{"subnormal ones", reading(-leastSubnormal, leastSubnormal), reading(5, 7), 0, mean(0, 6)},
		{"subnormal heights", reading(0, 2), reading(0, leastSubnormal), 1, mean(0, 0)},
		{"three of them", reading(0, 2), reading(0, 3*leastSubnormal), 1, mean(0, 2*leastSubnormal)},
		{"neighbours of 1", reading(1, 1+0x1p-52), reading(1, 2), 1 + 0x1p-52, mean(0, 2)},
		{"a nought with a sign stays", reading(0, 1), reading(minus0, -1), 0, mean(0, minus0)},
		{"a nought with a sign does not stay", reading(0, 1), reading(minus0, 1), 0, mean(0, 0)},
		{"both noughts", reading(0, 1), reading(minus0, minus0), 0.5, mean(0, 0)},
		{"x with a sign", reading(0, 1), reading(minus0, 1), minus0, mean(0, minus0)},
	})
}

func TestTraceAtOfInfiniteNumbers(t *testing.T) {
	checkTraces(t, []traceCase{
		{"from infinite on", reading(-inf, 0), reading(1, 2), -1, mean(0, nan)},
		{"at infinite", reading(-inf, 0), reading(1, 2), -inf, mean(0, nan)},
		{"behind infinite", reading(-inf, 0, 1), reading(1, 2, 4), 0.5, mean(1, 3)},
		{"to infinite", reading(0, inf), reading(1, 2), 5, mean(0, 1)},
		{"to infinite, below", reading(0, inf), reading(1, -2), mostFloat, mean(0, 1)},
		{"at infinite, at the last", reading(0, inf), reading(1, 2), inf, mean(0, nan)},
		{"all through", reading(-inf, inf), reading(1, 2), 0, mean(0, nan)},
		{"heights that are infinite", reading(0, 1), reading(0, inf), 0.5, mean(0, inf)},
		{"heights that are infinite, at the first", reading(0, 1), reading(0, inf), 0, mean(0, nan)},
		{"heights from infinite on", reading(0, 1), reading(inf, 0), 0.5, mean(0, nan)},
		{"heights that are all infinite", reading(0, 1), reading(inf, inf), 0.5, mean(0, nan)},
		{"a height that is missing", reading(0, 1, 2), reading(nan, 1, 2), 0.5, mean(0, nan)},
		{"a height that is missing behind it", reading(0, 1, 2), reading(0, nan, 2), 0, mean(0, nan)},
		{"a height that is missing elsewhere", reading(0, 1, 2), reading(nan, 1, 2), 1, mean(1, 1)},
		{"a height that is missing at the end", reading(0, 1, 2), reading(0, 1, nan), 0.5, mean(0, 0.5)},
	})
}

func TestTraceAtOfFaults(t *testing.T) {
	rising := make([]float64, 201)
	for i := range rising {
		rising[i] = float64(i)
	}
	full, two := rising[:200], reading(0, 1)
	many, form, out := meanCode(impl.ErrMany), meanCode(impl.ErrForm), meanCode(impl.ErrRange)
	checkTraces(t, []traceCase{
		{"as many as there may be", full, full, 199, mean(198, 199)},
		{"as many as there may be, at the first", full, full, 0, mean(0, 0)},
		{"one too many", rising, rising, 5, many},
		{"one x too many", rising, full, 5, many},
		{"one y too many", full, rising, 5, many},
		{"one y too many, and no x", nil, rising, 5, many},
		{"one x too many, and no y", rising, nil, 5, many},
		{"one x too many, that do not rise", make([]float64, 201), two, nan, many},
		{"far too many", make([]float64, 100000), make([]float64, 100000), 0, many},
		{"none", nil, nil, 0, form},
		{"empty ones", reading(), reading(), 0, form},
		{"one", reading(0), reading(5), 0, form},
		{"one, that is missing", reading(nan), reading(5), nan, form},
		{"one x", reading(0), two, 0, form},
		{"one y", two, reading(0), 0, form},
		{"no y", two, nil, 0, form},
		{"three and two", reading(0, 1, 2), two, 0, form},
		{"unequal ones that do not rise", reading(2, 1, 0), two, 9, form},
		{"equal xs", reading(1, 1), two, 1, out},
		{"noughts of both signs", reading(minus0, 0), two, 0, out},
		{"noughts of both signs, the other way", reading(0, minus0), two, 0, out},
		{"xs that fall", reading(1, 0), two, 0.5, out},
		{"xs that fall at the end", reading(0, 2, 1), reading(0, 1, 2), 0.5, out},
		{"xs that fall first", reading(1, 0, 2), reading(0, 1, 2), 1.5, out},
		{"equal ones at the end", reading(0, 1, 1), reading(0, 1, 2), 0.5, out},
		{"a NaN first", reading(nan, 1, 2), reading(0, 1, 2), 1.5, out},
		{"a NaN in the midst", reading(0, nan, 2), reading(0, 1, 2), 0.5, out},
		{"a NaN at the last", reading(0, 1, nan), reading(0, 1, 2), 0.5, out},
		{"all NaN", reading(nan, nan), two, nan, out},
		{"infinite twice", reading(0, inf, inf), reading(0, 1, 2), 0.5, out},
		{"infinite below 0 twice", reading(-inf, -inf, 0), reading(0, 1, 2), -1, out},
		{"infinite the wrong way", reading(inf, -inf), two, 0, out},
	})
}

func TestTraceAtOfAllSmallTraces(t *testing.T) {
	hard := reading(nan, minus0, 0, 1, 2, inf, -inf)
	for _, xs := range allReadings(3, hard...) {
		for _, ys := range [][]float64{nil, {5}, {5, 7}, {-1, 5, 7}, {nan, minus0, inf}} {
			for _, x := range append(hard, 0.5, 1.5, -3) {
				if got, want := impl.TraceAt(xs, ys, x), traceWant(xs, ys, x); !sameMean(got, want) {
					t.Fatalf("%v, %v at %v: %x, want %x", xs, ys, x, got, want)
				}
			}
		}
	}
}

// placesIn are the points of a trace, what lies just beside them, and between them.
func placesIn(xs []float64) []float64 {
	list := reading(nan, inf, -inf, 0)
	for i, x := range xs {
		list = append(list, x, math.Nextafter(x, inf), math.Nextafter(x, -inf))
		if i > 0 {
			list = append(list, (x+xs[i-1])/2, xs[i-1]+(x-xs[i-1])*0.3)
		}
	}
	return list
}

func TestTraceAtOfSomeTraces(t *testing.T) {
	chance := rand.New(rand.NewSource(153))
	unfused := 0
	for i := range 300 {
		xs := someRising(chance, chance.Intn(numbersOf(5, 12)[i%2]), i%3 == 0)
		ys := someReading(chance, len(xs), i%5 == 0)
		for _, x := range placesIn(xs) {
			got, want := impl.TraceAt(xs, ys, x), traceWant(xs, ys, x)
			if !sameMean(got, want) {
				t.Fatalf("%v, %v at %v: %x, want %x", xs, ys, x, got, want)
			}
			if at := want.Count; want.Code == impl.OK && want.Value == want.Value && math.FMA(ys[at+1]-ys[at], (x-xs[at])/(xs[at+1]-xs[at]), ys[at]) != want.Value {
				unfused++
			}
		}
	}
	if unfused < 200 {
		t.Errorf("only %d have other bits when they are fused", unfused)
	}
}

func TestTraceAtOfLongTraces(t *testing.T) {
	chance := rand.New(rand.NewSource(154))
	for _, n := range numbersOf(2, 3, 50, 199, 200, 201) {
		xs := make([]float64, n)
		for i := range xs {
			xs[i] = float64(i*i) / 7
		}
		ys := someReading(chance, n, false)
		for _, x := range placesIn(xs) {
			checkMean(t, brief(x), impl.TraceAt(xs, ys, x), traceWant(xs, ys, x))
		}
		slices.Reverse(xs)
		checkMean(t, "falling", impl.TraceAt(xs, ys, 1), traceWant(xs, ys, 1))
	}
}
