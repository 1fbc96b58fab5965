package tests

import (
	"math/rand"
	"slices"
	"testing"

	"loop.example/g00057/impl"
)

func TestShiftScanByHand(t *testing.T) {
	for _, c := range []struct {
		name            string
		state, taps, in []int64
		want            impl.IntsResult
	}{
		{"nothing is shifted in", numbers(1, 0, 1), numbers(2), nil, ints(1, 0, 1)},
		{"one bit, no taps", numbers(0, 1, 0), nil, numbers(1), ints(1, 0, 1)},
		{"the last is gone", numbers(0, 0, 1), nil, numbers(0), ints(0, 0, 0)},
		{"the first bit that is shifted in is the last in the end", numbers(0, 0, 0), nil, numbers(1, 0, 0), ints(0, 0, 1)},
		{"three bits through three places", numbers(1, 1, 1), nil, numbers(0, 1, 0), ints(0, 1, 0)},
		{"more bits than places", numbers(1, 1), nil, numbers(1, 1, 0, 1, 0), ints(0, 1)},
		{"a ring", numbers(1, 0, 0), numbers(2), numbers(0), ints(0, 1, 0)},
		{"a ring, three times", numbers(1, 1, 0), numbers(2), numbers(0, 0, 0), ints(1, 1, 0)},
		{"a tap at the first place", numbers(1, 0, 0), numbers(0), numbers(0, 0), ints(1, 1, 1)},
		{"a tap at the last place, added to 1", numbers(0, 0, 1), numbers(2), numbers(1), ints(0, 0, 0)},
		{"two taps that are both 1", numbers(1, 1, 0), numbers(0, 1), numbers(0), ints(0, 1, 1)},
		{"two taps of which one is 1", numbers(1, 0, 0), numbers(0, 1), numbers(0), ints(1, 1, 0)},
		{"a tap that stands twice", numbers(0, 0, 1), numbers(2, 2), numbers(0, 1), ints(1, 0, 0)},
		{"a tap that stands three times", numbers(0, 0, 1), numbers(2, 2, 2), numbers(0), ints(1, 0, 0)},
		{"a tap that stands twice beside another one", numbers(0, 1, 1), numbers(2, 1, 2), numbers(0), ints(1, 0, 1)},
		{"taps that do not rise", numbers(1, 0, 1, 1), numbers(3, 0), numbers(1, 0), ints(0, 1, 1, 0)},
		{"one place", numbers(1), nil, numbers(0), ints(0)},
		{"one place and its tap", numbers(1), numbers(0), numbers(1, 0, 1), ints(1)},
		{"all at one time: the tap sees what stood there ahead of the shift", numbers(1, 0), numbers(1), numbers(0, 0), ints(1, 0)},

		{"no state", nil, nil, numbers(1), intsCode(impl.ErrForm)},
		{"the state is an empty list", numbers(), numbers(0), nil, intsCode(impl.ErrForm)},
		{"no state, too many bits", nil, nil, make([]int64, 201), intsCode(impl.ErrForm)},
		{"no state, a wrong bit", nil, numbers(-1), numbers(2), intsCode(impl.ErrForm)},
		{"32 places", make([]int64, 32), numbers(31), numbers(1), ints(append(numbers(1), make([]int64, 31)...)...)},
		{"33 places", make([]int64, 33), nil, numbers(1), intsCode(impl.ErrMany)},
		{"33 places, a wrong one", append(make([]int64, 32), 2), nil, nil, intsCode(impl.ErrMany)},
		{"200 bits", numbers(0, 0), nil, make([]int64, 200), ints(0, 0)},
		{"201 bits", numbers(0, 0), nil, make([]int64, 201), intsCode(impl.ErrMany)},
		{"201 bits, a wrong tap", numbers(0, 0), numbers(2), make([]int64, 201), intsCode(impl.ErrMany)},
		{"a place of -1", numbers(0, -1), nil, nil, intsCode(impl.ErrRange)},
		{"a place of 2", numbers(2, 0), nil, nil, intsCode(impl.ErrRange)},
		{"a bit of -1", numbers(0), nil, numbers(0, -1), intsCode(impl.ErrRange)},
		{"a bit of 2", numbers(0), nil, numbers(2), intsCode(impl.ErrRange)},
		{"a tap of -1", numbers(0, 0, 0), numbers(-1), nil, intsCode(impl.ErrRange)},
		{"a tap of 0", numbers(0, 0, 0), numbers(0), nil, ints(0, 0, 0)},
		{"a tap at the last place", numbers(0, 0, 0), numbers(2), nil, ints(0, 0, 0)},
		{"a tap behind it", numbers(0, 0, 0), numbers(3), nil, intsCode(impl.ErrRange)},
		{"32 taps", numbers(1, 0), longer(numbers(0), 32), numbers(0), ints(0, 1)},
		{"33 taps", numbers(1, 0), longer(numbers(0), 33), numbers(0), intsCode(impl.ErrMany)},
		{"33 taps, the last wrong", numbers(1, 0), append(longer(numbers(0), 32), 2), numbers(0), intsCode(impl.ErrRange)},
		{"33 taps, a wrong place", numbers(1, 2), longer(numbers(0), 33), numbers(0), intsCode(impl.ErrRange)},
		{"33 taps, a wrong bit", numbers(1, 1), longer(numbers(0), 33), numbers(-1), intsCode(impl.ErrRange)},
		{"very many taps", numbers(1), make([]int64, 10000), numbers(0), intsCode(impl.ErrMany)},
	} {
		checkScanned(t, c.name, c.state, c.taps, c.in, c.want)
	}
}

func TestShiftScanOfEachLength(t *testing.T) {
	chance := rand.New(rand.NewSource(291))
	for n := range 35 {
		for _, bits := range numbersOf(0, 1, 2, 31, 32, 33, 199, 200, 201) {
			for _, taps := range numbersOf(0, 1, 2, 31, 32, 33) {
				state, in, at := someBelow(chance, n, 2), someBelow(chance, bits, 2), someBelow(chance, taps, int64(max(n, 1)))
				checkScanned(t, "of so many", state, at, in, scannedWant(state, at, in))
				if taps > 0 && n > 0 {
					at[taps-1] = int64(n)
					checkScanned(t, "the last tap is behind the last place", state, at, in, scannedWant(state, at, in))
				}
			}
		}
	}
}

// A number at every end, as a place, a bit or a tap, wherever it stands.
func TestShiftScanAtEveryEnd(t *testing.T) {
	for _, n := range probeEnds() {
		for at := range 3 {
			for which := range 3 {
				lists := [][]int64{numbers(1, 0, 1), numbers(0, 2, 1), numbers(1, 1, 0)}
				lists[which][at] = n
				wrong := n < 0 || n > numbers(1, 2, 1)[which]
				want := scannedWant(lists[0], lists[1], lists[2])
				if wrong != (want.Code == impl.ErrRange) {
					t.Errorf("%d: the code is %d", n, want.Code)
				}
				checkScanned(t, "an end", lists[0], lists[1], lists[2], want)
				signed := scannedWant(make([]int64, 16), lists[1], lists[2])
				checkSigned(t, "an end", lists[2], lists[1], signed)
			}
		}
	}
}

// All chains of three places, with all sets of taps and all lists of up to four bits.
func TestShiftScanOfAllSmall(t *testing.T) {
	for state := range 8 {
		for taps := range 8 {
			for n := range 5 {
				for in := range 1 << n {
					var at []int64
					for tap, is := range bitsOf(taps, 3) {
						if is == 1 {
							at = append(at, int64(tap))
						}
					}
					checkScanned(t, "small", bitsOf(state, 3), at, bitsOf(in, n), scannedWant(bitsOf(state, 3), at, bitsOf(in, n)))
				}
			}
		}
	}
}

func bitsOf(number int, n int) []int64 {
	var list []int64
	for place := range n {
		list = append(list, int64(number>>place&1))
	}
	return list
}

// Bits that are shifted in two goes end where those of one go do.
func TestShiftScanInTwoGoes(t *testing.T) {
	chance := rand.New(rand.NewSource(292))
	for range 3000 {
		n := 1 + chance.Intn(32)
		state, taps, in := someBelow(chance, n, 2), someBelow(chance, chance.Intn(33), int64(n)), someBelow(chance, chance.Intn(201), 2)
		whole := impl.ShiftScan(state, taps, in)
		checkScanned(t, "some", state, taps, in, whole)
		cut := chance.Intn(len(in) + 1)
		first := impl.ShiftScan(state, taps, in[:cut])
		checkScanned(t, "the second go", first.List, taps, in[cut:], whole)
		chance.Shuffle(len(taps), func(i int, k int) { taps[i], taps[k] = taps[k], taps[i] })
		checkScanned(t, "taps in another order", state, taps, in, whole)
	}
}

// bitSum adds two lists of bits, modulo 2; the shorter one has noughts ahead.
func bitSum(a []int64, b []int64) []int64 {
	n := max(len(a), len(b))
	var list []int64
	for i := range n {
		sum := int64(0)
		for _, other := range [][]int64{a, b} {
			if at := i - (n - len(other)); at >= 0 {
				sum += other[at]
			}
		}
		list = append(list, sum%2)
	}
	return list
}

// From the zero state the sum of two streams ends in the sum of their ends; noughts ahead turn nothing there.
func TestSumsOfStreams(t *testing.T) {
	chance := rand.New(rand.NewSource(293))
	for range 2000 {
		n := 1 + chance.Intn(32)
		zero, taps := make([]int64, n), someBelow(chance, chance.Intn(33), int64(n))
		a, b := someBelow(chance, chance.Intn(201), 2), someBelow(chance, chance.Intn(201), 2)
		one, other := impl.ShiftScan(zero, taps, a), impl.ShiftScan(zero, taps, b)
		checkScanned(t, "the sum of two", zero, taps, bitSum(a, b), ints(bitSum(one.List, other.List)...))
		checkScanned(t, "noughts ahead", zero, taps, slices.Concat(make([]int64, 200-len(a)), a), one)
		checkScanned(t, "nothing but noughts", zero, taps, make([]int64, len(a)), ints(zero...))
	}
}

func TestSignatureOfByHand(t *testing.T) {
	one := numbers(1)
	for _, c := range []struct {
		name     string
		in, taps []int64
		want     impl.IntsResult
	}{
		{"no bits", nil, numbers(3), ints(make([]int64, 16)...)},
		{"one bit", one, nil, ints(append(one, make([]int64, 15)...)...)},
		{"a bit that went to the last place", append(one, make([]int64, 15)...), nil, ints(append(make([]int64, 15), 1)...)},
		{"a bit that is gone", append(one, make([]int64, 16)...), nil, ints(make([]int64, 16)...)},
		{"a bit that came back", append(one, make([]int64, 16)...), numbers(15), ints(append(one, make([]int64, 15)...)...)},
		{"a tap at the first place", append(one, make([]int64, 15)...), numbers(0), ints(longer(one, 16)...)},
		{"a tap of 15", nil, numbers(15), ints(make([]int64, 16)...)},
		{"a tap of 16", nil, numbers(16), intsCode(impl.ErrRange)},
		{"a tap of -1", nil, numbers(-1), intsCode(impl.ErrRange)},
		{"200 bits", make([]int64, 200), nil, ints(make([]int64, 16)...)},
		{"201 bits", make([]int64, 201), nil, intsCode(impl.ErrMany)},
		{"201 bits, a tap of 16", make([]int64, 201), numbers(16), intsCode(impl.ErrMany)},
		{"a bit of 2", numbers(0, 2), nil, intsCode(impl.ErrRange)},
		{"32 taps", one, longer(numbers(1), 32), ints(append(one, make([]int64, 15)...)...)},
		{"33 taps", one, longer(numbers(1), 33), intsCode(impl.ErrMany)},
		{"33 taps, one of 16", one, append(longer(numbers(1), 32), 16), intsCode(impl.ErrRange)},
	} {
		checkSigned(t, c.name, c.in, c.taps, c.want)
	}
}

// One bit that is turned turns the signature, where the last place is tapped: nothing is gone then.
func TestSignaturesOfTurnedBits(t *testing.T) {
	chance := rand.New(rand.NewSource(294))
	for range 300 {
		in, taps := someBelow(chance, 1+chance.Intn(200), 2), append(someBelow(chance, chance.Intn(20), 15), 15)
		kept := impl.SignatureOf(in, taps)
		checkSigned(t, "some", in, taps, kept)
		in[chance.Intn(len(in))] ^= 1
		turned := impl.SignatureOf(in, taps)
		checkSigned(t, "one bit is turned", in, taps, turned)
		if slices.Equal(kept.List, turned.List) {
			t.Errorf("%v and %v: one bit is turned, and the signature is %v", in, taps, turned)
		}
	}
}
