package tests

import (
	"math/rand"
	"slices"
	"testing"

	"loop.example/g00057/impl"
)

// manyLimits are so many that any measure from -9 to 9 keeps; they have the Bins from 2 on.
func manyLimits(n int) []impl.Limit {
	var list []impl.Limit
	for _, bin := range runOf(2, n) {
		list = append(list, limit(-9, 9, bin))
	}
	return list
}

func TestBinOfByHand(t *testing.T) {
	three := limits(limit(0, 5, 7), limit(-3, -3, 4), limit(10, 20, 99))
	for _, c := range []struct {
		name     string
		measures []int64
		list     []impl.Limit
		want     impl.ShapeInt
	}{
		{"no measures", nil, nil, value(1)},
		{"an empty list", numbers(), limits(), value(1)},
		{"all are within", numbers(3, -3, 15), three, value(1)},
		{"just at Low", numbers(0, -3, 10), three, value(1)},
		{"just at High", numbers(5, -3, 20), three, value(1)},
		{"the first is below Low", numbers(-1, -3, 15), three, value(7)},
		{"the first is above High", numbers(6, -3, 15), three, value(7)},
		{"the second is below Low", numbers(3, -4, 15), three, value(4)},
		{"the second is above High", numbers(3, -2, 15), three, value(4)},
		{"the last is below Low", numbers(3, -3, 9), three, value(99)},
		{"the last is above High", numbers(3, -3, 21), three, value(99)},
		{"all are outside", numbers(9, 9, 9), three, value(7)},
		{"the last two are outside", numbers(1, 9, 9), three, value(4)},
		{"the first and the last", numbers(9, -3, 9), three, value(7)},
		{"the greatest range", numbers(leastInt, greatestInt), limits(limit(leastInt, greatestInt, 2), limit(leastInt, greatestInt, 3)), value(1)},
		{"the ends alone", numbers(leastInt, greatestInt), limits(limit(leastInt, leastInt, 2), limit(greatestInt, greatestInt, 3)), value(1)},
		{"beside the ends", numbers(leastInt+1, greatestInt), limits(limit(leastInt, leastInt, 2), limit(greatestInt, greatestInt, 3)), value(2)},
		{"below the greatest", numbers(leastInt, greatestInt-1), limits(limit(leastInt, leastInt, 2), limit(greatestInt, greatestInt, 3)), value(3)},
		{"a Bin twice", numbers(9, 1), limits(limit(0, 1, 5), limit(2, 3, 5)), value(5)},
		{"40 measures", make([]int64, 40), manyLimits(40), value(1)},
		{"the last of 40", append(make([]int64, 39), 10), manyLimits(40), value(41)},

		{"41 measures", make([]int64, 41), manyLimits(41), valueCode(impl.ErrMany)},
		{"41 measures, no limits", make([]int64, 41), nil, valueCode(impl.ErrMany)},
		{"41 measures, the limits are wrong", make([]int64, 41), make([]impl.Limit, 41), valueCode(impl.ErrMany)},
		{"far too many", make([]int64, 10000), manyLimits(1), valueCode(impl.ErrMany)},
		{"fewer limits", numbers(3, -3, 15), three[:2], valueCode(impl.ErrForm)},
		{"more limits", numbers(3, -3), three, valueCode(impl.ErrForm)},
		{"no limits", numbers(3), nil, valueCode(impl.ErrForm)},
		{"no measures, one limit", nil, three[:1], valueCode(impl.ErrForm)},
		{"far too many limits", numbers(3), make([]impl.Limit, 10000), valueCode(impl.ErrForm)},
		{"Low below High", numbers(4), limits(limit(4, 5, 2)), value(1)},
		{"Low at High", numbers(4), limits(limit(4, 4, 2)), value(1)},
		{"Low above High", numbers(4), limits(limit(5, 4, 2)), valueCode(impl.ErrForm)},
		{"Low above High, far", numbers(4), limits(limit(greatestInt, leastInt, 2)), valueCode(impl.ErrForm)},
		{"the last Low above High, the first outside", numbers(9, 4), limits(limit(4, 5, 2), limit(5, 4, 2)), valueCode(impl.ErrForm)},
		{"a Bin of 1", numbers(9), limits(limit(4, 5, 1)), valueCode(impl.ErrForm)},
		{"a Bin of 2", numbers(9), limits(limit(4, 5, 2)), value(2)},
		{"a Bin of 99", numbers(9), limits(limit(4, 5, 99)), value(99)},
		{"a Bin of 100", numbers(9), limits(limit(4, 5, 100)), valueCode(impl.ErrForm)},
		{"the last Bin is 0, the first outside", numbers(9, 4), limits(limit(4, 5, 2), limit(4, 5, 0)), valueCode(impl.ErrForm)},
	} {
		checkBinned(t, c.name, c.measures, c.list, c.want)
	}
}

// A number at every end, as a measure, a Low, a High or a Bin, wherever it stands.
func TestBinOfAtEveryEnd(t *testing.T) {
	for _, n := range probeEnds() {
		for at := range 3 {
			measures, list := numbers(5, 50, -50), limits(limit(0, 9, 8), limit(40, 60, 9), limit(-60, -40, 10))
			l := list[at]
			measures[at] = n
			checkBinned(t, "a measure", measures, list, value(1+(l.Bin-1)*bit(n < l.Low || n > l.High)))
			measures[at] = l.High
			list[at].Low = n
			checkBinned(t, "a Low", measures, list, impl.ShapeInt{Code: impl.ErrForm * bit(n > l.High), Value: bit(n <= l.High)})
			list[at].Low, list[at].High = l.Low, n
			checkBinned(t, "a High", measures, list, binnedWant(measures, list))
			list[at].High, list[at].Bin = l.High, n
			checkBinned(t, "a Bin", measures, list, binnedWant(measures, list))
			measures[at]++
			checkBinned(t, "a Bin of one that is outside", measures, list, binnedWant(measures, list))
		}
		ends := limits(limit(n, n, 2))
		checkBinned(t, "at both", numbers(n), ends, value(1))
		if n > leastInt {
			checkBinned(t, "one below", numbers(n-1), ends, value(2))
		}
		if n < greatestInt {
			checkBinned(t, "one above", numbers(n+1), ends, value(2))
		}
	}
}

// Each place of each length, alone outside, and with all behind it.
func TestBinOfEachPlace(t *testing.T) {
	for n := 1; n <= 40; n++ {
		for at := range n {
			alone, rest := make([]int64, n), make([]int64, n)
			alone[at] = 10
			for i := at; i < n; i++ {
				rest[i] = -10
			}
			checkBinned(t, "alone", alone, manyLimits(n), value(int64(at)+2))
			checkBinned(t, "and all behind it", rest, manyLimits(n), value(int64(at)+2))
			wrong := manyLimits(n)
			wrong[at].Bin = 1
			checkBinned(t, "its Bin is wrong", alone, wrong, valueCode(impl.ErrForm))
			wrong[at] = limit(1, 0, 2)
			checkBinned(t, "its Low is above its High", make([]int64, n), wrong, valueCode(impl.ErrForm))
		}
	}
}

func TestSomeBins(t *testing.T) {
	chance := rand.New(rand.NewSource(288))
	good, bad := 0, 0
	for i := range 5000 {
		measures, list := someLimits(chance, chance.Intn(41), numbers(3, 100, wide)[i%3])
		got := impl.BinOf(measures, list)
		checkBinned(t, "some", measures, list, got)
		good, bad = good+int(bit(got == value(1))), bad+int(bit(got.Value > 1))
		// What stands behind the first that is outside turns nothing, and one that is outside ahead of all is told.
		checkBinned(t, "one that is outside ahead", slices.Concat(numbers(1), measures)[:min(40, len(measures)+1)], slices.Concat(limits(limit(2, 2, 77)), list)[:min(40, len(list)+1)], value(77))
		if got.Value == 1 && len(measures) < 40 {
			checkBinned(t, "one that is outside behind", append(slices.Clone(measures), 1), append(slices.Clone(list), limit(2, 2, 77)), value(77))
		}
	}
	if good < 300 || bad < 1000 {
		t.Errorf("%d are good, %d are not", good, bad)
	}
}
