package tests

import (
	"math/rand"
	"testing"

	"loop.example/g00057/impl"
)

// capableCase is a list, held against what it may be.
type capableCase struct {
	name      string
	list      []int64
	low, high int64
	want      impl.FracResult
}

func checkCapable(t *testing.T, c capableCase) {
	t.Helper()
	if got := impl.CapableOf(c.list, c.low, c.high); got != c.want {
		t.Errorf("%s: %v, want %v", c.name, got, c.want)
	}
	if got := capableWant(c.list, c.low, c.high); got != c.want {
		t.Errorf("%s, plainly: %v, want %v", c.name, got, c.want)
	}
}

func TestCapableOfByHand(t *testing.T) {
	const most = mostCharted
	for _, c := range []capableCase{
		{"two numbers", numbers(4, 6), 0, 10, fracTold(asFrac(2))},
		{"two numbers, the greater first", numbers(6, 4), 0, 10, fracTold(asFrac(2))},
		{"the upper side is the lesser", numbers(4, 7), 0, 8, fracTold(ratio(1, 3))},
		{"the lower side is the lesser", numbers(1, 4), 0, 8, fracTold(ratio(1, 3))},
		{"both sides are alike", numbers(3, 5), 0, 8, fracTold(ratio(3, 2))},
		{"in lowest terms", numbers(2, 8), 0, 10, fracTold(ratio(1, 3))},
		{"all between the two", numbers(4, 5, 6, 5, 4), 0, 10, fracTold(asFrac(2))},
		{"the greatest in the middle", numbers(4, 9, 6), 0, 10, fracTold(ratio(1, 5))},
		{"the least in the middle", numbers(4, 1, 6), 0, 10, fracTold(ratio(1, 5))},
		{"just at high", numbers(5, 10), 0, 10, fracTold(asFrac(0))},
		{"just at low", numbers(0, 5), 0, 10, fracTold(asFrac(0))},
		{"at both", numbers(0, 10), 0, 10, fracTold(asFrac(0))},
		{"one beyond high", numbers(5, 11), 0, 10, fracTold(ratio(-1, 6))},
		{"one beyond low", numbers(-1, 5), 0, 10, fracTold(ratio(-1, 6))},
		{"beyond both, high by more", numbers(-1, 12), 0, 10, fracTold(ratio(-2, 13))},
		{"beyond both, low by more", numbers(-2, 11), 0, 10, fracTold(ratio(-2, 13))},
		{"all above high", numbers(20, 22), 0, 10, fracTold(asFrac(-6))},
		{"all below low", numbers(-20, -22), 0, 10, fracTold(asFrac(-11))},
		{"below 0, in lowest terms", numbers(8, 16), 0, 10, fracTold(ratio(-3, 4))},
		{"limits below 0", numbers(-6, -4), -10, 0, fracTold(asFrac(2))},
		{"limits one apart", numbers(0, 1), 0, 1, fracTold(asFrac(0))},
		{"the widest limits", numbers(0, 1), -most, most, fracTold(asFrac(most - 1))},
		{"the widest limits and numbers", numbers(-most, most), -most, most, fracTold(asFrac(0))},
		{"the furthest above", numbers(most-1, most), -most, 1 - most, fracTold(asFrac(1 - 2*most))},
		{"the furthest below", numbers(-most, 1-most), most - 1, most, fracTold(asFrac(1 - 2*most))},
		{"MaxChart numbers", append(longer(numbers(4), 199), 6), 0, 10, fracTold(asFrac(2))},
	} {
		checkCapable(t, c)
		upside := c
		upside.name, upside.list, upside.low, upside.high = c.name+", upside down", opposites(c.list), -c.high, -c.low
		checkCapable(t, upside)
	}
}

func TestCapableOfFaults(t *testing.T) {
	const most = mostCharted
	two, same := numbers(4, 6), numbers(5, 5)
	for _, c := range []capableCase{
		{"no list", nil, 0, 10, fracCode(impl.ErrNone)},
		{"no number", numbers(), 0, 10, fracCode(impl.ErrNone)},
		{"one number", numbers(5), 0, 10, fracCode(impl.ErrNone)},
		{"no number, low above high", nil, 10, 0, fracCode(impl.ErrNone)},
		{"one number, high one above", numbers(5), 0, most + 1, fracCode(impl.ErrNone)},
		{"one number beyond", numbers(most + 1), 0, 10, fracCode(impl.ErrRange)},
		{"low one below high", two, 9, 10, fracTold(ratio(-5, 2))},
		{"low at high", two, 10, 10, fracCode(impl.ErrRange)},
		{"low one above high", two, 11, 10, fracCode(impl.ErrRange)},
		{"the least low", two, -most, 10, fracTold(asFrac(2))},
		{"low one below", two, -most - 1, 10, fracCode(impl.ErrRange)},
		{"the greatest high", two, 0, most, fracTold(asFrac(2))},
		{"high one above", two, 0, most + 1, fracCode(impl.ErrRange)},
		{"both too small", two, -most - 2, -most - 1, fracCode(impl.ErrRange)},
		{"both too great", two, most + 1, most + 2, fracCode(impl.ErrRange)},
		{"both beyond", two, -most - 1, most + 1, fracCode(impl.ErrRange)},
		{"low too great", two, most + 1, 10, fracCode(impl.ErrRange)},
		{"high too small", two, 0, -most - 1, fracCode(impl.ErrRange)},
		{"all", two, leastInt, greatestInt, fracCode(impl.ErrRange)},
		{"none of all", two, greatestInt, leastInt, fracCode(impl.ErrRange)},
		{"both the least", two, leastInt, leastInt, fracCode(impl.ErrRange)},
		{"both the greatest", two, greatestInt, greatestInt, fracCode(impl.ErrRange)},
		{"all the same", same, 0, 10, fracCode(impl.ErrZero)},
		{"MaxChart that are the same", longer(numbers(5), 200), 0, 10, fracCode(impl.ErrZero)},
		{"noughts", numbers(0, 0), 0, 10, fracCode(impl.ErrZero)},
		{"all the same, at low", numbers(0, 0, 0), 0, 10, fracCode(impl.ErrZero)},
		{"all the same, beyond", numbers(50, 50), 0, 10, fracCode(impl.ErrZero)},
		{"all the same, low at high", same, 10, 10, fracCode(impl.ErrRange)},
		{"all the same, high one above", same, 0, most + 1, fracCode(impl.ErrRange)},
		{"the same beyond", longer(numbers(most+1), 3), 0, 10, fracCode(impl.ErrRange)},
		{"one more that are the same", longer(numbers(5), 201), 10, 10, fracCode(impl.ErrMany)},
	} {
		checkCapable(t, c)
	}
	for _, c := range chartCases() {
		for _, n := range chartEnds() {
			for _, m := range numbers(-mostCharted-1, -1, 0, 1, mostCharted, greatestInt) {
				want := capableWant(c.list, n, m)
				if c.code != impl.OK {
					want = fracCode(c.code)
				}
				checkCapable(t, capableCase{c.name, c.list, n, m, want})
			}
		}
	}
}

func TestCapableOfAllSmall(t *testing.T) {
	for _, list := range allCharts(4, -2, 0, 1, 3) {
		for low := int64(-4); low <= 4; low++ {
			for high := int64(-4); high <= 4; high++ {
				checkCapable(t, capableCase{"a small list", list, low, high, capableWant(list, low, high)})
			}
		}
	}
}

// Whatever the list, its capability is a right fraction: no number is great enough to leave the bounds.
func TestCapableOfSomeLists(t *testing.T) {
	chance, below, above := rand.New(rand.NewSource(180)), 0, 0
	for i := range 4000 {
		most := numbers(5, 700, mostCharted)[i%3]
		list, low := someChart(chance, 2+chance.Intn(60), numbers(most, 1+most/5)[i%2]), chance.Int63n(2*most)-most
		high := low + 1 + chance.Int63n(most-low)
		got := impl.CapableOf(list, low, high)
		checkCapable(t, capableCase{"some", list, low, high, capableWant(list, low, high)})
		if got.Code == impl.OK && impl.FracFault(got.Frac) != impl.OK {
			t.Errorf("%s: %v", brief(list), got)
		}
		below, above = below+int(bit(got.Frac.Num < 0)), above+int(bit(got.Frac.Num > 0))
	}
	if min(below, above) < 200 {
		t.Errorf("%d are below 0, %d above", below, above)
	}
}
