package tests

import (
	"math"
	"math/rand"
	"slices"
	"testing"

	"loop.example/g00057/impl"
)

func TestImageOfByHand(t *testing.T) {
	nan, inf := math.NaN(), math.Inf(1)
	half, three := reals(1, 1, 0, 0), pupil(1, 0)
	for _, c := range []struct {
		what   string
		mask   []impl.Z
		p      impl.Pupil
		source []impl.Spot
		want   impl.FloatsResult
	}{
		{"one spot", half, three, spots(spot(0, 1)), floats(16, 16, 0, 0)},
		{"no spots", half, three, nil, floats(0, 0, 0, 0)},
		{"half as bright", half, three, spots(spot(0, 0.5)), floats(8, 8, 0, 0)},
		{"two at one place", half, three, spots(spot(0, 1), spot(0, 0.5)), floats(24, 24, 0, 0)},
		{"the order 1 alone", half, pupil(0, 0), spots(spot(-1, 1)), floats(2, 2, 2, 2)},
		{"the order 2 alone", half, pupil(0, 0), spots(spot(2, 1)), floats(0, 0, 0, 0)},
		{"three shifts", half, pupil(0, 0), spots(spot(-1, 1), spot(0, 2), spot(1, 4)), floats(18, 18, 18, 18)},
		{"no weight", half, three, spots(spot(0, 0)), floats(0, 0, 0, 0)},
		{"a weight of a nought with a sign", half, three, spots(spot(0, minus0)), floats(0, 0, 0, 0)},
		{"below 0", half, three, spots(spot(0, -1)), floats(-16, -16, 0, 0)},
		{"one that is taken back", half, three, spots(spot(0, 1), spot(0, -1)), floats(0, 0, 0, 0)},
		{"no number", half, three, spots(spot(0, nan)), floats(nan, nan, nan, nan)},
		{"an infinite weight", half, three, spots(spot(0, inf)), floats(inf, inf, nan, nan)},
		{"infinite below 0", half, three, spots(spot(0, -inf)), floats(-inf, -inf, nan, nan)},
		{"too bright", reals(1e200), pupil(0, 0), spots(spot(0, 1)), floats(inf)},
		{"too bright, with no weight", reals(1e200), pupil(0, 0), spots(spot(0, 0)), floats(nan)},
		{"too dim", reals(1e-200), pupil(0, 0), spots(spot(0, 1e300)), floats(0)},
		{"too dim, below 0", reals(1e-200), pupil(0, 0), spots(spot(0, -1)), floats(0)},
		{"a great one, and one that is lost", reals(1), pupil(0, 0), spots(spot(0, 1e16), spot(0, 1), spot(0, -1e16)), floats(0)},
		{"the lost one last", reals(1), pupil(0, 0), spots(spot(0, 1e16), spot(0, -1e16), spot(0, 1)), floats(1)},
		{"a mask of no number", waves(z(nan, 0)), pupil(0, 0), spots(spot(0, 1)), floats(nan)},
		{"a mask of no number, no spots", waves(z(nan, inf)), pupil(0, 0), nil, floats(0)},
		{"an infinite mask", reals(inf), pupil(0, 0), spots(spot(0, 1)), floats(nan)},
	} {
		checkFloats(t, c.what, impl.ImageOf(c.mask, c.p, c.source), c.want)
		checkFloats(t, c.what+", reckoned", c.want, imageWant(c.mask, c.p, c.source))
	}
}

func TestFaultsOfSources(t *testing.T) {
	mask, p := reals(1, 0), pupil(1, 0)
	many := longer(spots(spot(0, 1)), 13)
	for _, c := range []struct {
		what   string
		source []impl.Spot
		want   int64
	}{
		{"as many as may be", many[:12], impl.OK}, {"one more", many, impl.ErrMany}, {"far too many", make([]impl.Spot, 4000), impl.ErrMany}, {"too many, and one off", append(spots(spot(13, 1)), many...), impl.ErrMany},
		{"at the ends", spots(spot(12, 1), spot(-12, 1)), impl.OK}, {"beyond", spots(spot(13, 1)), impl.ErrRange}, {"beyond, below 0", spots(spot(-13, 1)), impl.ErrRange},
		{"behind one that is within", spots(spot(0, 1), spot(13, 1)), impl.ErrRange}, {"the last of as many as may be", append(many[:11:11], spot(-13, 1)), impl.ErrRange}, {"ahead of one that is within", spots(spot(-13, 1), spot(0, 1)), impl.ErrRange},
		{"without weight", spots(spot(13, 0)), impl.ErrRange}, {"the least", spots(spot(math.MinInt64, 1)), impl.ErrRange}, {"the greatest", spots(spot(math.MaxInt64, 1)), impl.ErrRange},
	} {
		got := impl.ImageOf(mask, p, c.source)
		if got.Code != c.want || c.want != impl.OK && len(got.List) > 0 {
			t.Errorf("%s: %s, want %d", c.what, brief(got), c.want)
		}
		checkFloats(t, c.what, got, imageWant(mask, p, c.source))
		checkFloats(t, c.what+", no mask", impl.ImageOf(nil, p, c.source), floatsCode(impl.ErrForm))
		checkFloats(t, c.what+", too long a mask", impl.ImageOf(make([]impl.Z, 25), p, c.source), floatsCode(impl.ErrMany))
		checkFloats(t, c.what+", a wrong Cut", impl.ImageOf(mask, pupil(13, 0), c.source), floatsCode(impl.ErrRange))
		checkFloats(t, c.what+", too many Parts", impl.ImageOf(mask, pupil(0, 0, make([]int64, 14)...), c.source), floatsCode(impl.ErrMany))
		checkFloats(t, c.what+", a wrong Part", impl.ImageOf(mask, pupil(0, 0, impl.Turn+1), c.source), floatsCode(impl.ErrRange))
	}
}

func TestSomeImages(t *testing.T) {
	chance := rand.New(rand.NewSource(79))
	for i := range 40 {
		mask, p := someMask(chance, 1+chance.Intn(12), i%5 == 0), somePupil(chance)
		source := someSource(chance, chance.Intn(6), i%3 == 0)
		checkFloats(t, brief(mask)+brief(p)+brief(source), impl.ImageOf(mask, p, source), imageWant(mask, p, source))
	}
	mask, p := someMask(chance, 24, false), somePupil(chance)
	p.Cut = 12
	source := someSource(chance, 12, false)
	checkFloats(t, "the greatest image", impl.ImageOf(mask, p, source), imageWant(mask, p, source))
}

// An image is that of the first spots, and what the last one adds, bit by bit.
func TestImagesSpotBySpot(t *testing.T) {
	chance := rand.New(rand.NewSource(80))
	for i := range 200 {
		mask, p := someMask(chance, 1+chance.Intn(24), i%7 == 0), somePupil(chance)
		source := someSource(chance, 1+chance.Intn(12), i%5 == 0)
		last := len(source) - 1
		want := impl.ImageOf(mask, p, source[:last])
		for x, f := range impl.FieldOf(mask, p, source[last].At).List {
			bright := sumWant(timesWant(f.Re, f.Re), timesWant(f.Im, f.Im))
			want.List[x] = sumWant(want.List[x], timesWant(source[last].Weight, bright))
		}
		checkFloats(t, "with the last spot of "+brief(source), impl.ImageOf(mask, p, source), want)
	}
}

// Spots in another order are another sum: the same but for the last bits, which are often others.
func TestImagesOfSpotsInAnotherOrder(t *testing.T) {
	chance := rand.New(rand.NewSource(81))
	others := 0
	for range 60 {
		mask, p, source := someMask(chance, 1+chance.Intn(6), false), somePupil(chance), someSource(chance, 6, false)
		got := impl.ImageOf(mask, p, source)
		slices.Reverse(source)
		turned := impl.ImageOf(mask, p, source)
		for x, bright := range got.List {
			if math.Abs(bright-turned.List[x]) > 1e-9*(1+bright) {
				t.Errorf("%s: %v, turned %v", brief(source), bright, turned.List[x])
			}
		}
		if !sameFloats(got, turned) {
			others++
		}
	}
	if others < 10 {
		t.Errorf("the order of the spots is seen in %d only", others)
	}
}

// At these fields a square, a weight or a sum that is not rounded by itself gives other bits.
func TestImagesRoundEachProduct(t *testing.T) {
	chance := rand.New(rand.NewSource(82))
	squares, weights := 0, 0
	for range 100 {
		c, weight := z(chance.NormFloat64(), chance.NormFloat64()), chance.Float64()
		got := impl.ImageOf(waves(c), pupil(0, 0), spots(spot(0, 1), spot(0, weight)))
		first, last := timesWant(c.Re, c.Re), timesWant(c.Im, c.Im)
		bright := sumWant(first, last)
		checkFloats(t, brief(c), got, floats(sumWant(bright, timesWant(weight, bright))))
		if math.FMA(c.Re, c.Re, last) != bright || math.FMA(c.Im, c.Im, first) != bright {
			squares++
		}
		if math.FMA(weight, bright, bright) != got.List[0] {
			weights++
		}
	}
	if squares < 10 || weights < 10 {
		t.Errorf("fused squares are seen in %d, fused weights in %d only", squares, weights)
	}
}

// Light of one spot goes all through a pupil that is wide enough, but is never made more by turning it.
func TestImagesOfTurnedPupils(t *testing.T) {
	mask := reals(1, 1, 0, 0)
	for parts := range int64(8) {
		turned := pupil(1, 0, longer(numbers(parts*impl.Turn/8), 2)...)
		for x, bright := range impl.ImageOf(mask, turned, spots(spot(0, 1))).List {
			if want := numbers(16, 16, 0, 0)[x]; math.Abs(bright-float64(want)) > 1e-12 {
				t.Errorf("turned by %d eighths, at %d: %v", parts, x, bright)
			}
		}
	}
}
