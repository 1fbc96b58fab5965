package tests

import (
	"math"
	"math/rand"
	"slices"
	"testing"

	"loop.example/g00057/impl"
)

func wave(list ...impl.Z) impl.WaveResult {
	return impl.WaveResult{List: list}
}

func TestOrdersOfByHand(t *testing.T) {
	nan, inf := math.NaN(), math.Inf(1)
	for _, c := range []struct {
		what string
		mask []impl.Z
		want impl.WaveResult
	}{
		{"no numbers", nil, waveCode(impl.ErrForm)},
		{"an empty list", waves(), waveCode(impl.ErrForm)},
		{"one number", waves(z(3, -4)), wave(z(3, -4))},
		{"a nought with a sign", waves(z(minus0, minus0)), wave(z(0, 0))},
		{"a nought whose Re has a sign", waves(z(minus0, 0)), wave(z(0, 0))},
		{"noughts with signs", longer(waves(z(minus0, minus0)), 4), wave(longer(waves(z(0, 0)), 4)...)},
		{"two numbers", waves(z(5, 1), z(2, 3)), wave(z(7, 4), z(3, -2))},
		{"two that cancel", reals(1, -1), wave(z(0, 0), z(2, 0))},
		{"half of four", reals(1, 1, 0, 0), wave(z(2, 0), z(1, -1), z(0, 0), z(1, 1))},
		{"one of four", reals(0, 1, 0, 0), wave(z(1, 0), z(0, -1), z(-1, 0), z(0, 1))},
		{"the last of four, turned", waves(z(0, 0), z(0, 0), z(0, 0), z(0, 1)), wave(z(0, 1), z(-1, 0), z(0, -1), z(1, 0))},
		{"the first sum is lost", reals(1e16, 1, -1e16, 1), wave(z(1, 0), z(2e16, 0), z(-1, 0), z(2e16, 0))},
		{"great ones", reals(math.MaxFloat64, math.MaxFloat64), wave(z(inf, 0), z(0, 0))},
		{"an infinite one", reals(inf), wave(z(inf, nan))},
		{"no number at all", waves(z(1, 0), z(nan, 0)), wave(z(nan, nan), z(nan, nan))},
		{"an Im that is none", waves(z(1, nan)), wave(z(nan, nan))},
		{"too many", make([]impl.Z, 25), waveCode(impl.ErrMany)},
		{"far too many", make([]impl.Z, 5000), waveCode(impl.ErrMany)},
	} {
		checkWave(t, c.what, impl.OrdersOf(c.mask), c.want)
		checkWave(t, c.what+", reckoned", c.want, ordersWant(c.mask))
	}
}

// Each length, those that do not divide a turn among them, against the plain reckoning.
func TestOrdersOfEachLength(t *testing.T) {
	chance := rand.New(rand.NewSource(73))
	for n := range 27 {
		for i := range 4 {
			mask := someMask(chance, n, i == 3)
			checkWave(t, brief(mask), impl.OrdersOf(mask), ordersWant(mask))
		}
		for x := range min(n, 3) {
			mask := make([]impl.Z, n)
			mask[n-1-x] = z(1, -2)
			checkWave(t, "one number of "+brief(mask), impl.OrdersOf(mask), ordersWant(mask))
		}
	}
	if got := impl.OrdersOf(make([]impl.Z, impl.MaxPeriod)); got.Code != impl.OK || len(got.List) != 24 {
		t.Errorf("as many as may be: %s", brief(got))
	}
}

// In another order of the sum, or with another beginning, these have other bits.
func TestOrdersAreSummedFromTheFirst(t *testing.T) {
	chance := rand.New(rand.NewSource(74))
	others := 0
	for range 60 {
		mask := someMask(chance, 2+chance.Intn(9), false)
		got := impl.OrdersOf(mask)
		checkWave(t, brief(mask), got, ordersWant(mask))
		from, to := z(0, 0), z(0, 0)
		for x := range mask {
			from = addWant(from, mask[x])
			to = addWant(to, mask[len(mask)-1-x])
		}
		if got.List[0] != from {
			t.Errorf("the order 0 of %v is %v, want %v", mask, got.List[0], from)
		}
		if from != to {
			others++
		}
	}
	if others < 10 {
		t.Errorf("the order of the sum is seen in %d only", others)
	}
}

func TestPupilFault(t *testing.T) {
	const turn = impl.Turn
	for _, c := range []struct {
		what string
		p    impl.Pupil
		want int64
	}{
		{"zero", impl.Pupil{}, impl.OK}, {"all at their greatest", pupil(12, turn, longer(numbers(turn), 13)...), impl.OK}, {"all at their least", pupil(0, -turn, longer(numbers(-turn), 13)...), impl.OK},
		{"Cut below 0", pupil(-1, 0), impl.ErrRange}, {"Cut too great", pupil(13, 0), impl.ErrRange}, {"the least Cut", pupil(math.MinInt64, 0), impl.ErrRange}, {"the greatest Cut", pupil(math.MaxInt64, 0), impl.ErrRange},
		{"Focus too great", pupil(0, turn+1), impl.ErrRange}, {"Focus too low", pupil(0, -turn-1), impl.ErrRange}, {"the least Focus", pupil(0, math.MinInt64), impl.ErrRange}, {"the greatest Focus", pupil(0, math.MaxInt64), impl.ErrRange},
		{"one part too many", pupil(1, 1, make([]int64, 14)...), impl.ErrMany}, {"far too many parts", pupil(1, 1, make([]int64, 3000)...), impl.ErrMany},
		{"one part too many, and it is too great", pupil(1, 1, append(make([]int64, 13), turn+1)...), impl.ErrMany}, {"too many, the first too low", pupil(1, 1, append(numbers(-turn-1), make([]int64, 13)...)...), impl.ErrMany},
		{"a part too great", pupil(1, 1, turn+1), impl.ErrRange}, {"a part too low", pupil(1, 1, 0, -turn-1), impl.ErrRange}, {"the last of as many as may be", pupil(1, 1, append(make([]int64, 12), turn+1)...), impl.ErrRange},
		{"the least part", pupil(1, 1, math.MinInt64), impl.ErrRange}, {"the greatest part", pupil(1, 1, 3, math.MaxInt64), impl.ErrRange}, {"a part behind Cut", pupil(0, 1, 0, 0, turn+1), impl.ErrRange},
		{"Cut and too many", pupil(13, 0, make([]int64, 14)...), impl.ErrRange}, {"Focus and too many", pupil(0, turn+1, make([]int64, 14)...), impl.ErrRange}, {"Cut, Focus and a part", pupil(-1, -turn-1, turn+1), impl.ErrRange},
	} {
		if got := impl.PupilFault(c.p); got != c.want || pupilFaultWant(c.p) != c.want {
			t.Errorf("%s, %s: %d, want %d", c.what, brief(c.p), got, c.want)
		}
	}
}

func TestEndsOfPupils(t *testing.T) {
	for _, n := range imageEnds() {
		for _, p := range []impl.Pupil{pupil(n, 0), pupil(3, n), pupil(3, 0, n), pupil(3, 0, 0, n, 0), pupil(n, n, n), pupil(3, n, make([]int64, 14)...), pupil(n, 0, make([]int64, 14)...), pupil(3, 0, append(make([]int64, 13), n)...)} {
			want := pupilFaultWant(p)
			if got := impl.PupilFault(p); got != want {
				t.Errorf("%v: %d, want %d", p, got, want)
			}
			for _, order := range numbers(0, 1, -1, 3) {
				checkZ(t, brief(p), impl.PupilAt(p, order), pupilAtWant(p, order))
			}
		}
	}
}

func TestPupilAtByHand(t *testing.T) {
	const turn = impl.Turn
	none := z(0, 0)
	for _, c := range []struct {
		what  string
		p     impl.Pupil
		order int64
		want  impl.Z
	}{
		{"no focus", pupil(3, 0), 2, z(1, 0)}, {"a quarter", pupil(3, turn/4), 1, z(0, 1)}, {"a quarter, the other side", pupil(3, turn/4), -1, z(0, 1)}, {"a quarter four times", pupil(3, turn/4), 2, z(1, 0)},
		{"an eighth nine times, a part back", pupil(3, turn/8, 0, 0, 0, -turn/8), 3, z(1, 0)}, {"a quarter the other way", pupil(3, -turn/4), 1, z(minus0, -1)}, {"in the middle", pupil(3, turn/4, turn/2), 0, z(-1, 0)},
		{"a part", pupil(3, 0, 0, turn/4), 1, z(0, 1)}, {"a part on the other side", pupil(3, 0, 0, turn/4), -1, z(0, 1)}, {"a part behind it", pupil(3, 0, 0, turn/4), 2, z(1, 0)}, {"a part ahead of it", pupil(3, 0, turn/4), 1, z(1, 0)},
		{"both", pupil(3, turn/4, 0, turn/4), 1, z(-1, 0)}, {"the last part", pupil(12, 0, append(make([]int64, 12), turn/2)...), 12, z(-1, 0)}, {"the last part, the other side", pupil(12, 0, append(make([]int64, 12), turn/2)...), -12, z(-1, 0)},
		{"at Cut", pupil(3, 0), 3, z(1, 0)}, {"at Cut, below 0", pupil(3, 0), -3, z(1, 0)}, {"beyond Cut", pupil(3, 0), 4, none}, {"beyond Cut, below 0", pupil(3, 0), -4, none}, {"Cut 0", pupil(0, 0), 0, z(1, 0)}, {"beyond Cut 0", pupil(0, 0), -1, none},
		{"the least order", pupil(12, 1), math.MinInt64, none}, {"the greatest order", pupil(12, 1), math.MaxInt64, none}, {"beyond the greatest Cut", pupil(12, 1), 13, none},
		{"a Cut that is wrong", pupil(13, 0), 0, none}, {"a Cut below 0", pupil(-1, 0), 0, none}, {"a Focus that is wrong", pupil(3, turn+1), 0, none}, {"a part that is wrong", pupil(3, 0, 0, 0, turn+1), 0, none}, {"too many parts", pupil(3, 0, make([]int64, 14)...), 0, none},
		{"the greatest of all", pupil(12, turn, longer(numbers(turn), 13)...), 12, z(1, 0)}, {"the least of all", pupil(12, -turn, longer(numbers(-turn), 13)...), -12, z(1, 0)},
	} {
		checkZ(t, c.what, impl.PupilAt(c.p, c.order), c.want)
		checkZ(t, c.what+", reckoned", c.want, pupilAtWant(c.p, c.order))
	}
}

func TestPupilAtEveryOrder(t *testing.T) {
	chance := rand.New(rand.NewSource(75))
	for range 60 {
		p := somePupil(chance)
		for order := int64(-14); order <= 14; order++ {
			checkZ(t, brief(p), impl.PupilAt(p, order), pupilAtWant(p, order))
		}
		for _, order := range imageEnds() {
			checkZ(t, brief(p), impl.PupilAt(p, order), pupilAtWant(p, order))
		}
	}
}

func TestFieldOfByHand(t *testing.T) {
	const turn = impl.Turn
	half := reals(1, 1, 0, 0)
	for _, c := range []struct {
		what  string
		mask  []impl.Z
		p     impl.Pupil
		shift int64
		want  impl.WaveResult
	}{
		{"the middle alone", half, pupil(0, 0), 0, wave(longer(reals(2), 4)...)},
		{"three orders", half, pupil(1, 0), 0, wave(z(4, 0), z(4, 0), z(0, 0), z(0, 0))},
		{"the order 1 alone", half, pupil(0, 0), -1, wave(z(1, -1), z(1, 1), z(-1, 1), z(-1, -1))},
		{"the order -1 alone", half, pupil(0, 0), 1, wave(z(1, 1), z(1, -1), z(-1, -1), z(-1, 1))},
		{"the order 12 alone is the order 0", half, pupil(0, 0), -12, wave(longer(reals(2), 4)...)},
		{"turned by a quarter", half, pupil(0, 0, turn/4), 0, wave(longer(waves(z(0, 2)), 4)...)},
		{"one number", reals(3), pupil(0, 0), 5, wave(z(3, 0))},
		{"one number, each order is it", reals(3), pupil(2, 0), 5, wave(z(15, 0))},
		{"one number, as often as may be", reals(1), pupil(12, 0), 12, wave(z(25, 0))},
		{"noughts with signs", longer(waves(z(minus0, minus0)), 2), pupil(1, 0), 0, wave(z(0, 0), z(0, 0))},
		{"orders that cancel", reals(1), pupil(1, 0, 0, turn/2), 0, wave(z(-1, 0))},
	} {
		checkWave(t, c.what, impl.FieldOf(c.mask, c.p, c.shift), c.want)
		checkWave(t, c.what+", reckoned", c.want, fieldWant(c.mask, c.p, c.shift))
	}
}

// fieldAsk has what FieldOf is given.
type fieldAsk struct {
	mask  []impl.Z
	p     impl.Pupil
	shift int64
}

type fieldSpoil struct {
	what  string
	code  int64
	spoil func(q *fieldAsk)
}

// fieldSpoils stand in the order in which the chapter tells their codes.
func fieldSpoils() []fieldSpoil {
	return []fieldSpoil{
		{"no mask", impl.ErrForm, func(q *fieldAsk) { q.mask = nil }},
		{"too long", impl.ErrMany, func(q *fieldAsk) { q.mask = make([]impl.Z, 25) }},
		{"Cut", impl.ErrRange, func(q *fieldAsk) { q.p.Cut = 13 }},
		{"Focus", impl.ErrRange, func(q *fieldAsk) { q.p.Focus = -impl.Turn - 1 }},
		{"Parts", impl.ErrMany, func(q *fieldAsk) { q.p.Parts = longer(numbers(impl.Turn+1), 14) }},
		{"a Part", impl.ErrRange, func(q *fieldAsk) { q.p.Parts = numbers(impl.Turn + 1) }},
		{"shift", impl.ErrRange, func(q *fieldAsk) { q.shift = 13 }},
	}
}

func TestFaultsOfFields(t *testing.T) {
	for i, first := range fieldSpoils() {
		for _, second := range fieldSpoils()[i:] {
			q := fieldAsk{mask: reals(1, 0), p: pupil(1, 0)}
			second.spoil(&q)
			first.spoil(&q)
			what := first.what + " and " + second.what
			checkWave(t, what, impl.FieldOf(q.mask, q.p, q.shift), waveCode(first.code))
			checkFloats(t, what, impl.ImageOf(q.mask, q.p, spots(spot(q.shift, 1))), floatsCode(first.code))
			checkWave(t, what+", reckoned", waveCode(first.code), fieldWant(q.mask, q.p, q.shift))
		}
	}
	mask := reals(1, 0, 2)
	for _, shift := range imageEnds() {
		checkWave(t, "shifted by an end", impl.FieldOf(mask, pupil(1, 5), shift), fieldWant(mask, pupil(1, 5), shift))
	}
}

// Every shift at every Cut, for lengths below and above it: k is often below 0.
func TestFieldOfEveryShift(t *testing.T) {
	chance := rand.New(rand.NewSource(76))
	for _, n := range []int{1, 2, 3, 5} {
		for cut := range int64(13) {
			mask, p := someMask(chance, n, false), somePupil(chance)
			p.Cut = cut
			for shift := int64(-13); shift <= 13; shift++ {
				if n == 1 || (shift+cut)%5 == 0 || max(shift, -shift) > 10 && cut%6 == 0 {
					checkWave(t, brief(p), impl.FieldOf(mask, p, shift), fieldWant(mask, p, shift))
				}
			}
		}
	}
}

func TestSomeFields(t *testing.T) {
	chance := rand.New(rand.NewSource(77))
	for i := range 60 {
		mask, p, shift := someMask(chance, 1+chance.Intn(24), i%4 == 0), somePupil(chance), chance.Int63n(25)-12
		checkWave(t, brief(mask)+brief(p), impl.FieldOf(mask, p, shift), fieldWant(mask, p, shift))
	}
	mask, p := someMask(chance, 24, false), somePupil(chance)
	p.Cut = 12
	for _, shift := range numbers(-12, 0, 12) {
		checkWave(t, "the greatest field", impl.FieldOf(mask, p, shift), fieldWant(mask, p, shift))
	}
}

// The sum begins at the lowest order: the terms of these, added the other way, are another number.
func TestFieldsAreSummedInRisingOrder(t *testing.T) {
	chance := rand.New(rand.NewSource(78))
	others := 0
	for range 30 {
		mask, p := someMask(chance, 3+chance.Intn(4), false), somePupil(chance)
		p.Cut = 2 + chance.Int63n(3)
		n := int64(len(mask))
		orders := impl.OrdersOf(mask).List
		var terms []impl.Z
		for k := -p.Cut - 1; k <= p.Cut-1; k++ {
			terms = append(terms, impl.MulZ(orders[(k+5*n)%n], impl.PupilAt(p, k+1)))
		}
		sum := func(list []impl.Z) impl.Z {
			total := z(0, 0)
			for _, term := range list {
				total = addWant(total, mulWant(term, z(1, 0)))
			}
			return total
		}
		got := impl.FieldOf(mask, p, 1)
		checkZ(t, "the place 0 of "+brief(mask), got.List[0], sum(terms))
		slices.Reverse(terms)
		if got.List[0] != sum(terms) {
			others++
		}
	}
	if others < 10 {
		t.Errorf("the order of the sum is seen in %d only", others)
	}
}
