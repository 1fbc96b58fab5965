package tests

import (
	"math"
	"math/rand"
	"testing"

	"loop.example/g00057/impl"
)

// bitsCases are the edges of floats, without a sign; those that are NaN stand apart.
func bitsCases() map[string]struct {
	f    float64
	bits uint64
} {
	return map[string]struct {
		f    float64
		bits uint64
	}{
		"nought":                   {0, 0},
		"the least subnormal":      {leastSubnormal, 1},
		"the next one":             {2 * leastSubnormal, 2},
		"half of the least normal": {0x1p-1023, 0x0008000000000000},
		"the greatest subnormal":   {greatestSubnormal, 0x000FFFFFFFFFFFFF},
		"the least normal":         {leastNormal, 0x0010000000000000},
		"just above it":            {leastNormal + leastSubnormal, 0x0010000000000001},
		"twice the least normal":   {2 * leastNormal, 0x0020000000000000},
		"just below 1":             {1 - 0x1p-53, 0x3FEFFFFFFFFFFFFF},
		"1":                        {1, 0x3FF0000000000000},
		"just above 1":             {1 + 0x1p-52, 0x3FF0000000000001},
		"a half":                   {0.5, 0x3FE0000000000000},
		"2":                        {2, 0x4000000000000000},
		"a tenth":                  {0.1, 0x3FB999999999999A},
		"2 to the 53rd less 1":     {1<<53 - 1, 0x433FFFFFFFFFFFFF},
		"just below the greatest":  {0x1.ffffffffffffep1023, 0x7FEFFFFFFFFFFFFE},
		"the greatest":             {mostFloat, 0x7FEFFFFFFFFFFFFF},
		"infinite":                 {inf, 0x7FF0000000000000},
	}
}

// bitsOfNaN are with and without the sign, quiet and not.
func bitsOfNaN() []uint64 {
	list := []uint64{0x7FF0000000000001, 0x7FF0000000000002, 0x7FF4000000000000, 0x7FF7FFFFFFFFFFFF, nanBits, nanBits + 1, 0x7FFC000000000000, 0x7FFFFFFFFFFFFFFE, 0x7FFFFFFFFFFFFFFF}
	for _, bits := range list {
		list = append(list, bits|1<<63)
	}
	return list
}

func checkBits(t *testing.T, what string, f float64, bits uint64) {
	t.Helper()
	if got := impl.BitsOf(f); got != bits {
		t.Errorf("%s, %x: the bits are %016X, want %016X", what, f, got, bits)
	}
}

func checkFloatFrom(t *testing.T, what string, bits uint64, f float64) {
	t.Helper()
	if got := impl.FloatFrom(bits); !sameFloat(got, f) {
		t.Errorf("%s, %016X: the float is %x, want %x", what, bits, got, f)
	}
}

func TestBitsByHand(t *testing.T) {
	for what, c := range bitsCases() {
		checkBits(t, what, c.f, c.bits)
		checkFloatFrom(t, what, c.bits, c.f)
		checkBits(t, what+", with a sign", math.Copysign(c.f, -1), c.bits|1<<63)
		checkFloatFrom(t, what+", with a sign", c.bits|1<<63, math.Copysign(c.f, -1))
	}
}

// The cases and the plain reckoning are held against each other, too.
func TestBitsReckonedPlainly(t *testing.T) {
	for what, c := range bitsCases() {
		if bitsWant(c.f) != c.bits || bitsWant(-c.f) != c.bits|1<<63 || !sameFloat(floatWant(c.bits), c.f) {
			t.Errorf("%s: %016X and %x are reckoned", what, bitsWant(c.f), floatWant(c.bits))
		}
	}
}

func TestEveryNaNHasTheSameBits(t *testing.T) {
	zero := 0.0
	for _, f := range reading(nan, -nan, math.Copysign(nan, -1), zero/zero, inf-inf, inf*zero, math.Sqrt(-1)) {
		checkBits(t, "no number", f, nanBits)
	}
	for _, bits := range bitsOfNaN() {
		if f := impl.FloatFrom(bits); f == f {
			t.Errorf("%016X is %x, and no NaN", bits, f)
		}
		checkBits(t, "no number", math.Float64frombits(bits), nanBits)
		checkBits(t, "no number, from its bits", impl.FloatFrom(bits), nanBits)
	}
}

// someBits has bits one by one, all but one, runs of them, and any.
func someBits() []uint64 {
	chance := rand.New(rand.NewSource(141))
	list := bitsOfNaN()
	for at := range 64 {
		list = append(list, 1<<at, ^uint64(1<<at), 1<<at-1, ^uint64(1<<at-1), 0x3FF0000000000000^1<<at, 0x7FF0000000000000^1<<at)
	}
	for exponent := range uint64(2048) {
		list = append(list, exponent<<52, exponent<<52|1, exponent<<52|1<<51, exponent<<52|(1<<52-1), exponent<<52|chance.Uint64()>>12, exponent<<52|1<<63)
	}
	for range 20000 {
		list = append(list, chance.Uint64(), chance.Uint64()>>12, chance.Uint64()>>chance.Intn(64))
	}
	return list
}

func TestBitsOneByOne(t *testing.T) {
	subnormal := 0
	for _, bits := range someBits() {
		f := floatWant(bits)
		checkFloatFrom(t, "some bits", bits, f)
		checkBits(t, "some bits", f, bitsWant(f))
		if f != 0 && math.Abs(f) < leastNormal {
			subnormal++
		}
	}
	if subnormal < 1000 {
		t.Errorf("only %d are subnormal", subnormal)
	}
}

// Floats and bits are told alike: the one leads back to the other, but that all NaNs are one.
func TestBitsBothWaysRound(t *testing.T) {
	for _, bits := range someBits() {
		f := impl.FloatFrom(bits)
		if f == f {
			checkBits(t, "there and back", f, bits)
		} else {
			checkBits(t, "there and back", f, nanBits)
		}
		if back := impl.FloatFrom(impl.BitsOf(f)); !sameFloat(back, f) {
			t.Errorf("%x comes back as %x", f, back)
		}
	}
	for _, f := range hardFloats() {
		checkFloatFrom(t, "there and back", impl.BitsOf(f), f)
	}
}

// Two floats have the same bits only if they are the same answer.
func TestBitsTellFloatsApart(t *testing.T) {
	list := append(hardFloats(), math.Float64frombits(0xFFF8000000000001), greatestSubnormal, leastNormal, 1-0x1p-53)
	for _, a := range list {
		for _, b := range list {
			if (impl.BitsOf(a) == impl.BitsOf(b)) != sameFloat(a, b) {
				t.Errorf("%x and %x: %016X and %016X", a, b, impl.BitsOf(a), impl.BitsOf(b))
			}
		}
	}
}
