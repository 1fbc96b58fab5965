package tests

import (
	"math/rand"
	"slices"
	"testing"

	"loop.example/g00057/impl"
)

func TestVerdictByHand(t *testing.T) {
	for _, c := range []struct {
		name string
		bins []int64
		want impl.ShapeInt
	}{
		{"no bins", nil, valueCode(impl.ErrNone)},
		{"an empty list", numbers(), valueCode(impl.ErrNone)},
		{"the given test's", numbers(1, 2, 1), value(1)},
		{"one that is good", numbers(1), value(1)},
		{"one that is not", numbers(2), value(2)},
		{"just half are 1", numbers(1, 2), value(2)},
		{"just half are 1, the others are apart", numbers(1, 1, 1, 9, 8, 7), value(7)},
		{"one more than half", numbers(1, 2, 2, 1, 1), value(1)},
		{"one fewer than half", numbers(1, 2, 2, 1, 3), value(2)},
		{"half of 20", append(longer(numbers(1), 10), longer(numbers(40), 10)...), value(40)},
		{"one more than half of 20", append(longer(numbers(1), 11), longer(numbers(40), 9)...), value(1)},
		{"1 is the most frequent, but not more than half", numbers(1, 1, 1, 2, 2, 3, 4), value(2)},
		{"none is 1", numbers(5, 3, 5), value(5)},
		{"all are alike", numbers(99, 99, 99), value(99)},
		{"a tie of two", numbers(9, 4), value(4)},
		{"a tie of two, the less behind", numbers(9, 9, 4, 4), value(4)},
		{"a tie of two, the less ahead", numbers(4, 4, 9, 9), value(4)},
		{"a tie of three, one less but not as often", numbers(8, 7, 2, 9, 8, 7, 9), value(7)},
		{"2 and 99 once each", numbers(99, 2), value(2)},
		{"99 twice, 2 once", numbers(99, 2, 99), value(99)},
		{"the last of the list", numbers(1, 1, 5, 6, 6), value(6)},
		{"20 bins", runOf(2, 20), value(2)},

		{"21 bins", runOf(2, 21), valueCode(impl.ErrMany)},
		{"21 bins, one of them 0", append(runOf(2, 20), 0), valueCode(impl.ErrMany)},
		{"far too many", make([]int64, 10000), valueCode(impl.ErrMany)},
		{"0", numbers(0), valueCode(impl.ErrRange)},
		{"99", numbers(99), value(99)},
		{"100", numbers(100), valueCode(impl.ErrRange)},
		{"-1", numbers(-1), valueCode(impl.ErrRange)},
		{"0 among those that are good", numbers(1, 1, 1, 0), valueCode(impl.ErrRange)},
		{"100 behind 19 others", append(runOf(2, 19), 100), valueCode(impl.ErrRange)},
	} {
		checkVerdict(t, c.name, c.bins, c.want)
	}
}

func TestVerdictAtEveryEnd(t *testing.T) {
	for _, n := range probeEnds() {
		wrong := n < 1 || n > 99
		for _, bins := range [][]int64{numbers(n), numbers(n, n, n), longer(numbers(n), 20)} {
			checkVerdict(t, "one bin", bins, impl.ShapeInt{Code: impl.ErrRange * bit(wrong), Value: n * bit(!wrong)})
		}
		for at := range 20 {
			bins := runOf(2, 20)
			bins[at] = n
			checkVerdict(t, "one of 20", bins, verdictWant(bins))
		}
		checkVerdict(t, "one of 21", append(runOf(2, 20), n), valueCode(impl.ErrMany))
	}
	for n := range 23 {
		good := longer(numbers(1), n)
		checkVerdict(t, "so many that are good", good, verdictWant(good))
	}
}

// So many that are good, and so many of two other bins.
func TestVerdictOfAllCounts(t *testing.T) {
	for ones := range 21 {
		for twos := range 21 - ones {
			for nines := range 21 - ones - twos {
				bins := slices.Concat(longer(numbers(9), nines), longer(numbers(1), ones), longer(numbers(2), twos))
				want := valueCode(impl.ErrNone)
				switch {
				case len(bins) == 0:
				case ones > twos+nines:
					want = value(1)
				case twos >= nines:
					want = value(2)
				default:
					want = value(9)
				}
				checkVerdict(t, "three bins", bins, want)
			}
		}
	}
}

// ordersOf are all orders of some numbers.
func ordersOf(list []int64) [][]int64 {
	if len(list) == 0 {
		return [][]int64{nil}
	}
	var orders [][]int64
	for i, first := range list {
		for _, rest := range ordersOf(slices.Concat(list[:i], list[i+1:])) {
			orders = append(orders, append(numbers(first), rest...))
		}
	}
	return orders
}

// Verdicts do not hang on the order of tests.
func TestVerdictOfEachOrder(t *testing.T) {
	for _, bins := range [][]int64{numbers(1, 2, 3), numbers(1, 1, 2), numbers(1, 1, 2, 2), numbers(7, 7, 5, 5, 3), numbers(1, 1, 1, 4, 6), numbers(1, 1, 1, 4, 6, 6), numbers(99, 2, 98, 3, 97, 4), numbers(1, 5, 0), numbers(1, 100, 1, 1)} {
		want := verdictWant(bins)
		for _, order := range ordersOf(bins) {
			checkVerdict(t, "an order", order, want)
		}
	}
	chance := rand.New(rand.NewSource(289))
	good, bad := 0, 0
	for range 3000 {
		bins := someBins(chance, 1+chance.Intn(20))
		want := impl.Verdict(bins)
		checkVerdict(t, "some", bins, want)
		for range 3 {
			chance.Shuffle(len(bins), func(i int, k int) { bins[i], bins[k] = bins[k], bins[i] })
			checkVerdict(t, "shuffled", bins, want)
		}
		good, bad = good+int(bit(want.Value == 1)), bad+int(bit(want.Value > 1))
	}
	if good < 500 || bad < 500 {
		t.Errorf("%d are good, %d are not", good, bad)
	}
}
