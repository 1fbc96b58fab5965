package tests

import (
	"math"
	"math/rand"
	"testing"

	"loop.example/g00057/impl"
)

func TestSameZ(t *testing.T) {
	nan, inf := math.NaN(), math.Inf(1)
	for _, c := range []struct {
		a, b impl.Z
		want bool
	}{
		{z(1, 2), z(1, 2), true}, {z(1, 2), z(2, 1), false}, {z(1, 2), z(1, 3), false}, {z(1, 2), z(3, 2), false}, {z(0, 0), z(0, 0), true},
		{z(minus0, 0), z(0, 0), true}, {z(0, 0), z(0, minus0), true}, {z(minus0, 0), z(0, minus0), true}, {z(minus0, minus0), z(0, 0), true},
		{z(nan, 0), z(nan, 0), false}, {z(0, nan), z(0, nan), false}, {z(nan, nan), z(nan, nan), false}, {z(nan, 0), z(0, 0), false}, {z(0, 0), z(0, nan), false},
		{z(inf, -inf), z(inf, -inf), true}, {z(inf, 0), z(-inf, 0), false}, {z(0, inf), z(0, -inf), false}, {z(inf, nan), z(inf, nan), false},
		{z(1, 0), z(1+0x1p-52, 0), false}, {z(0, 0), z(0, math.SmallestNonzeroFloat64), false}, {z(0, math.MaxFloat64), z(0, inf), false},
	} {
		if got := impl.SameZ(c.a, c.b); got != c.want {
			t.Errorf("%v and %v: %v", c.a, c.b, got)
		}
	}
}

func TestSameZOfHardFloats(t *testing.T) {
	list := []float64{0, minus0, 1, -1, math.NaN(), math.Float64frombits(0xfff8000000000001), math.Inf(1), math.Inf(-1), math.SmallestNonzeroFloat64}
	for _, re := range list {
		for _, im := range list {
			for _, otherRe := range list {
				for _, otherIm := range list {
					a, b := z(re, im), z(otherRe, otherIm)
					if got := impl.SameZ(a, b); got != (re == otherRe && im == otherIm) {
						t.Errorf("%v and %v: %v", a, b, got)
					}
				}
			}
		}
	}
}

func checkMul(t *testing.T, a impl.Z, b impl.Z, want impl.Z) {
	t.Helper()
	if got := impl.MulZ(a, b); !sameBits(got, want) {
		t.Errorf("%x times %x: %x, want %x", a, b, got, want)
	}
}

func TestMulZByHand(t *testing.T) {
	nan, inf, small := math.NaN(), math.Inf(1), math.SmallestNonzeroFloat64
	for _, c := range []struct{ a, b, want impl.Z }{
		{z(1, 2), z(3, 4), z(-5, 10)}, {z(0, 1), z(0, 1), z(-1, 0)}, {z(1, 1), z(1, 1), z(0, 2)}, {z(1, 1), z(1, -1), z(2, 0)},
		{z(0, 0), z(0, 0), z(0, 0)}, {z(minus0, 0), z(1, 0), z(minus0, 0)}, {z(0, 0), z(-1, 0), z(minus0, 0)}, {z(minus0, minus0), z(1, 0), z(0, minus0)},
		{z(minus0, minus0), z(1, 1), z(0, minus0)}, {z(minus0, minus0), z(minus0, minus0), z(0, 0)}, {z(0, minus0), z(0, 1), z(0, 0)}, {z(minus0, 1), z(0, minus0), z(0, 0)},
		{z(inf, 0), z(1, 0), z(inf, nan)}, {z(inf, inf), z(1, 1), z(nan, inf)}, {z(inf, 1), z(inf, 1), z(inf, inf)}, {z(inf, 1), z(0, 1), z(nan, inf)}, {z(-inf, 0), z(1, 1), z(-inf, -inf)},
		{z(nan, 0), z(1, 0), z(nan, nan)}, {z(0, 0), z(0, nan), z(nan, nan)},
		{z(1e200, 0), z(1e200, 0), z(inf, 0)}, {z(1e200, 1e200), z(1e200, 1e200), z(nan, inf)}, {z(-1e200, 0), z(1e200, 1), z(-inf, -1e200)}, {z(1e308, 1e308), z(1, -1), z(inf, 0)}, {z(1e308, 1e308), z(1, 1), z(0, inf)},
		{z(small, 0), z(0.5, 0), z(0, 0)}, {z(-small, 0), z(0.5, 0), z(minus0, 0)}, {z(3*small, 0), z(0.5, 0), z(2*small, 0)}, {z(small, small), z(0.75, 0.25), z(small, small)}, {z(1e-200, 1e-200), z(1e-200, -1e-200), z(0, 0)},
		{z(0x1p-1022, 0), z(0.5, 0), z(0x1p-1023, 0)}, {z(1e16, 1), z(1, 0), z(1e16, 1)}, {z(1e16, 1), z(1, -1), z(1e16+1, 1-1e16)}, {z(1e16, 1e16), z(1, 1), z(0, 2e16)},
	} {
		checkMul(t, c.a, c.b, c.want)
	}
}

// At these numbers a product that is not rounded ahead of the sum gives other bits, as the test itself makes sure of.
func TestMulZRoundsEachProduct(t *testing.T) {
	near, square := 1+0x1p-30, 1+0x1p-29
	for _, c := range []struct{ a, b, want impl.Z }{
		{z(near, near), z(near, near), z(0, 2*square)},
		{z(near, -near), z(near, near), z(2*square, 0)},
		{z(near, near), z(-near, near), z(-2*square, 0)},
		{z(-near, near), z(near, -near), z(0, 2*square)},
		{z(near, 1), z(near, square), z(0, 2+0x1p-28)},
		{z(1, near), z(square, near), z(0, 2+0x1p-28)},
	} {
		first := z(math.FMA(c.a.Re, c.b.Re, -timesWant(c.a.Im, c.b.Im)), math.FMA(c.a.Re, c.b.Im, timesWant(c.a.Im, c.b.Re)))
		last := z(math.FMA(-c.a.Im, c.b.Im, timesWant(c.a.Re, c.b.Re)), math.FMA(c.a.Im, c.b.Re, timesWant(c.a.Re, c.b.Im)))
		if sameBits(first, c.want) && sameBits(last, c.want) {
			t.Errorf("%x times %x is the same when it is fused", c.a, c.b)
		}
		checkMul(t, c.a, c.b, c.want)
	}
}

func TestMulZOfHardFloats(t *testing.T) {
	list := []float64{0, minus0, 1, -1, 0.5, 1 + 0x1p-52, -1e200, 1e200, math.MaxFloat64, math.SmallestNonzeroFloat64, -0x1p-1022, math.Inf(1), math.Inf(-1), math.NaN()}
	for _, re := range list {
		for _, im := range list {
			for _, otherRe := range list {
				for _, otherIm := range list {
					a, b := z(re, im), z(otherRe, otherIm)
					checkMul(t, a, b, mulWant(a, b))
				}
			}
		}
	}
}

func TestMulZOfSomeFloats(t *testing.T) {
	chance := rand.New(rand.NewSource(71))
	for range 20000 {
		a, b := z(someFloat(chance), someFloat(chance)), z(someFloat(chance), someFloat(chance))
		checkMul(t, a, b, mulWant(a, b))
	}
	unfused := 0
	for range 5000 {
		a, b := z(chance.Float64(), chance.Float64()), z(chance.Float64(), chance.Float64())
		checkMul(t, a, b, mulWant(a, b))
		if math.FMA(a.Re, b.Im, timesWant(a.Im, b.Re)) != mulWant(a, b).Im {
			unfused++
		}
	}
	if unfused < 500 {
		t.Errorf("only %d of the products have other bits when they are fused", unfused)
	}
}

func TestTurnZByHand(t *testing.T) {
	const eighth, under = 0.7071067811865476, 0.7071067811865475
	whole := int64(impl.Turn)
	for _, c := range []struct {
		parts int64
		want  impl.Z
	}{
		{0, z(1, 0)}, {whole / 2, z(-1, 0)}, {whole / 4, z(0, 1)}, {3 * whole / 4, z(minus0, -1)},
		{whole / 8, z(eighth, under)}, {3 * whole / 8, z(-under, eighth)}, {5 * whole / 8, z(-eighth, -under)}, {7 * whole / 8, z(under, -eighth)},
		{whole, z(1, 0)}, {-whole, z(1, 0)}, {-whole / 4, z(minus0, -1)}, {-whole / 2, z(-1, 0)}, {-3 * whole / 4, z(0, 1)}, {5 * whole / 4, z(0, 1)},
		{math.MinInt64, z(1, 0)}, {math.MinInt64 + whole/4, z(0, 1)}, {math.MaxInt64 - whole/4 + 1, z(minus0, -1)},
	} {
		if got := impl.TurnZ(c.parts); !sameBits(got, c.want) {
			t.Errorf("turned by %d parts: %x, want %x", c.parts, got, c.want)
		}
	}
}

func TestTurnZOfEnds(t *testing.T) {
	const turn = int64(impl.Turn)
	list := append(imageEnds(), turn-1, 2*turn-1, 1-turn, -1, 0x55555, 0xaaaaa, 12345, -12345)
	for bit := range 63 {
		list = append(list, 1<<bit, -1<<bit, 1<<bit-1, 1<<bit+1)
	}
	for _, parts := range append(list, someNumbers(300)...) {
		if got, want := impl.TurnZ(parts), turnPartsWant(parts); !sameBits(got, want) {
			t.Errorf("turned by %d parts: %x, want %x", parts, got, want)
		}
	}
}

// Every turn is that of its bits but the lowest one, times the root of that one.
func TestEveryTurnZ(t *testing.T) {
	turns := make([]impl.Z, impl.Turn)
	turns[0] = z(1, 0)
	roots := map[int]impl.Z{}
	for bit, root := range rootsWant() {
		roots[1<<bit] = root
	}
	for parts := range turns {
		if parts > 0 {
			low := parts & -parts
			a, b := turns[parts-low], roots[low]
			turns[parts] = z(float64(a.Re*b.Re)-float64(a.Im*b.Im), float64(a.Re*b.Im)+float64(a.Im*b.Re))
		}
		if got := impl.TurnZ(int64(parts)); !sameBits(got, turns[parts]) {
			t.Fatalf("turned by %d parts: %x, want %x", parts, got, turns[parts])
		}
		if math.Abs(math.Hypot(turns[parts].Re, turns[parts].Im)-1) > 1e-14 {
			t.Fatalf("%d parts lead off the circle", parts)
		}
	}
}

func checkNarrow(t *testing.T, what string, x float64, want float64) {
	t.Helper()
	if got := impl.NarrowWave(waves(z(x, 1), z(1, x))); len(got) != 2 || !sameBits(got[0], z(want, 1)) || !sameBits(got[1], z(1, want)) {
		t.Errorf("%s, %x: %x, want %x", what, x, got, want)
	}
}

func TestNarrowWaveByHand(t *testing.T) {
	const least, normal, most = 0x1p-149, 0x1p-126, 0x1.fffffep127
	for _, c := range []struct {
		what    string
		x, want float64
	}{
		{"nought", 0, 0}, {"one", 1, 1}, {"a tenth", 0.1, 0x1.99999ap-4}, {"a third", 1.0 / 3, 0x1.555556p-2},
		{"half way, down to the even one", 1 + 0x1p-24, 1}, {"half way, up to the even one", 1 + 0x3p-24, 1 + 0x1p-22},
		{"just above the half", 1 + 0x1p-24 + 0x1p-52, 1 + 0x1p-23}, {"just below the half", 1 + 0x3p-24 - 0x1p-52, 1 + 0x1p-23},
		{"the greatest", most, most}, {"just below what is too great", 0x1.fffffefffffffp127, most}, {"half way to what is too great", 0x1.ffffffp127, math.Inf(1)},
		{"too great", 0x1p128, math.Inf(1)}, {"far too great", math.MaxFloat64, math.Inf(1)}, {"infinite", math.Inf(1), math.Inf(1)},
		{"the least", least, least}, {"half of the least", 0x1p-150, 0}, {"just more than half of it", 0x1.0000000000001p-150, least}, {"one and a half of it", 0x3p-150, 0x1p-148},
		{"two and a half of it", 0x5p-150, 0x1p-148}, {"far too small", math.SmallestNonzeroFloat64, 0}, {"a quarter of it", 0x1p-151, 0},
		{"the least that is normal", normal, normal}, {"just below it", normal - least, normal - least}, {"half way below it", normal - 0x1p-150, normal}, {"subnormal, down", 0x1.000001p-127, 0x1p-127},
	} {
		checkNarrow(t, c.what, c.x, c.want)
		checkNarrow(t, c.what+", below 0", -c.x, -c.want)
	}
	checkNarrow(t, "a nought with a sign", minus0, minus0)
	checkNarrow(t, "no number", math.NaN(), math.NaN())
	if got := impl.NarrowWave(nil); len(got) != 0 {
		t.Errorf("no numbers: %v", got)
	}
}

func TestNarrowWaveOfSomeFloats(t *testing.T) {
	chance := rand.New(rand.NewSource(72))
	list := waves()
	for _, x := range hardFloats() {
		list = append(list, z(x, -x))
	}
	for range 20000 {
		near := float64(math.Float32frombits(chance.Uint32()))
		half := math.Float64frombits(math.Float64bits(near) + 1<<28 + uint64(chance.Intn(3)) - 1)
		list = append(list, z(someFloat(chance), near), z(half, math.Float64frombits(chance.Uint64())), z(math.Ldexp(chance.NormFloat64(), -chance.Intn(300)), math.Ldexp(chance.NormFloat64(), chance.Intn(140))))
	}
	want := narrowWant(list)
	got := impl.NarrowWave(list)
	if len(got) != len(want) {
		t.Fatalf("%d numbers of %d", len(got), len(want))
	}
	for i := range want {
		if !sameBits(got[i], want[i]) {
			t.Fatalf("%x: %x, want %x", list[i], got[i], want[i])
		}
	}
	again := impl.NarrowWave(got)
	for i := range got {
		if !sameBits(again[i], got[i]) {
			t.Fatalf("%x, narrowed twice: %x", got[i], again[i])
		}
	}
}
