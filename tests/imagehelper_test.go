package tests

import (
	"math"
	"math/big"
	"math/bits"
	"math/rand"
	"slices"
	"testing"

	"loop.example/g00057/impl"
)

// minus0 is the nought with a sign; a constant has none.
var minus0 = math.Copysign(0, -1)

func z(re float64, im float64) impl.Z {
	return impl.Z{Re: re, Im: im}
}

func waves(list ...impl.Z) []impl.Z {
	return list
}

// reals has numbers whose Im is +0.
func reals(list ...float64) []impl.Z {
	var out []impl.Z
	for _, re := range list {
		out = append(out, z(re, 0))
	}
	return out
}

func spot(at int64, weight float64) impl.Spot {
	return impl.Spot{At: at, Weight: weight}
}

func spots(list ...impl.Spot) []impl.Spot {
	return list
}

func pupil(cut int64, focus int64, parts ...int64) impl.Pupil {
	return impl.Pupil{Cut: cut, Focus: focus, Parts: parts}
}

func waveCode(code int64) impl.WaveResult {
	return impl.WaveResult{Code: code}
}

func floatsCode(code int64) impl.FloatsResult {
	return impl.FloatsResult{Code: code}
}

func floats(list ...float64) impl.FloatsResult {
	return impl.FloatsResult{List: list}
}

// sameFloat holds bits against bits, all NaNs being one.
func sameFloat(a float64, b float64) bool {
	return math.Float64bits(a) == math.Float64bits(b) || math.IsNaN(a) && math.IsNaN(b)
}

func sameBits(a impl.Z, b impl.Z) bool {
	return sameFloat(a.Re, b.Re) && sameFloat(a.Im, b.Im)
}

func sameSpot(a impl.Spot, b impl.Spot) bool {
	return a.At == b.At && sameFloat(a.Weight, b.Weight)
}

func sameWave(a impl.WaveResult, b impl.WaveResult) bool {
	return a.Code == b.Code && slices.EqualFunc(a.List, b.List, sameBits)
}

func sameFloats(a impl.FloatsResult, b impl.FloatsResult) bool {
	return a.Code == b.Code && slices.EqualFunc(a.List, b.List, sameFloat)
}

func sameInts(a impl.IntsResult, b impl.IntsResult) bool {
	return a.Code == b.Code && slices.Equal(a.List, b.List)
}

// roundedOnce reckons with numbers of any length, so that no machine can round twice or not at all; what has no answer there is NaN.
func roundedOnce(x float64, y float64, reckon func(z *big.Float, x *big.Float, y *big.Float) *big.Float) (answer float64) {
	if math.IsNaN(x) || math.IsNaN(y) {
		return math.NaN()
	}
	defer func() {
		if fault := recover(); fault != nil {
			_ = fault.(big.ErrNaN)
			answer = math.NaN()
		}
	}()
	long := new(big.Float).SetPrec(2400)
	answer, _ = reckon(long, big.NewFloat(x), big.NewFloat(y)).Float64()
	return answer
}

func timesWant(x float64, y float64) float64 {
	return roundedOnce(x, y, (*big.Float).Mul)
}

func sumWant(x float64, y float64) float64 {
	return roundedOnce(x, y, (*big.Float).Add)
}

func lessWant(x float64, y float64) float64 {
	return roundedOnce(x, y, (*big.Float).Sub)
}

func byWant(x float64, y float64) float64 {
	return roundedOnce(x, y, (*big.Float).Quo)
}

func squareRootWant(x float64) float64 {
	return roundedOnce(x, 0, func(long *big.Float, x *big.Float, _ *big.Float) *big.Float { return long.Sqrt(x) })
}

func mulWant(a impl.Z, b impl.Z) impl.Z {
	return z(lessWant(timesWant(a.Re, b.Re), timesWant(a.Im, b.Im)), sumWant(timesWant(a.Re, b.Im), timesWant(a.Im, b.Re)))
}

func addWant(a impl.Z, b impl.Z) impl.Z {
	return z(sumWant(a.Re, b.Re), sumWant(a.Im, b.Im))
}

// rootsWant has the unit root of the bit 0 first.
func rootsWant() []impl.Z {
	list := reals(-1)
	root := z(0, 1)
	for range 19 {
		list = append(list, root)
		re := squareRootWant(timesWant(sumWant(1, root.Re), 0.5))
		root = z(re, byWant(root.Im, sumWant(re, re)))
	}
	slices.Reverse(list)
	return list
}

// turnsKnown are the turns that were asked, as they are slow to reckon.
var turnsKnown = map[int64]impl.Z{}

// turnPartsWant goes through the bits of the rest that a division of numbers of any size leaves.
func turnPartsWant(parts int64) impl.Z {
	rest := new(big.Int).Mod(big.NewInt(parts), big.NewInt(1048576))
	if known, is := turnsKnown[rest.Int64()]; is {
		return known
	}
	turn := z(1, 0)
	roots := rootsWant()
	for bit := 19; bit >= 0; bit-- {
		if rest.Bit(bit) == 1 {
			turn = mulWant(turn, roots[bit])
		}
	}
	turnsKnown[rest.Int64()] = turn
	return turn
}

// stepWant is (k x modulo n) times Turn by n, down.
func stepWant(k int64, x int64, n int64) int64 {
	rest := k * x
	for rest < 0 {
		rest += n
	}
	return rest % n * 1048576 / n
}

func ordersWant(mask []impl.Z) impl.WaveResult {
	var codes faults
	codes.wrong(impl.ErrForm, len(mask) == 0)
	codes.wrong(impl.ErrMany, len(mask) >= 25)
	if code := codes.first(); code != impl.OK {
		return waveCode(code)
	}
	var out impl.WaveResult
	for k := range mask {
		sum := z(0, 0)
		for x, number := range mask {
			sum = addWant(sum, mulWant(number, turnPartsWant(0-stepWant(int64(k), int64(x), int64(len(mask))))))
		}
		out.List = append(out.List, sum)
	}
	return out
}

func pupilFaultWant(p impl.Pupil) int64 {
	var codes faults
	codes.wrong(impl.ErrRange, p.Cut <= -1, p.Cut >= 13, p.Focus <= -1048577, p.Focus >= 1048577)
	codes.wrong(impl.ErrMany, len(p.Parts) >= 14)
	for _, part := range p.Parts {
		codes.wrong(impl.ErrRange, part <= -1048577, part >= 1048577)
	}
	return codes.first()
}

func pupilAtWant(p impl.Pupil, order int64) impl.Z {
	if pupilFaultWant(p) != impl.OK || order > p.Cut || order < -p.Cut {
		return z(0, 0)
	}
	parts := p.Focus * order * order
	for place, part := range p.Parts {
		if int64(place) == order || int64(place) == -order {
			parts += part
		}
	}
	return turnPartsWant(parts)
}

// fieldSumWant has each x by itself, over all k that the document names.
func fieldSumWant(orders []impl.Z, p impl.Pupil, shift int64, x int64) impl.Z {
	n := int64(len(orders))
	sum := z(0, 0)
	for k := -p.Cut - 12; k <= p.Cut+12; k++ {
		at := k + shift
		if at > p.Cut || at < -p.Cut {
			continue
		}
		order := orders[((k%n)+n)%n]
		sum = addWant(sum, mulWant(mulWant(order, pupilAtWant(p, at)), turnPartsWant(stepWant(k, x, n))))
	}
	return sum
}

func fieldWant(mask []impl.Z, p impl.Pupil, shift int64) impl.WaveResult {
	orders := ordersWant(mask)
	var codes faults
	codes.found(orders.Code)
	codes.found(pupilFaultWant(p))
	codes.wrong(impl.ErrRange, shift <= -13, shift >= 13)
	if code := codes.first(); code != impl.OK {
		return waveCode(code)
	}
	var out impl.WaveResult
	for x := range mask {
		out.List = append(out.List, fieldSumWant(orders.List, p, shift, int64(x)))
	}
	return out
}

func imageWant(mask []impl.Z, p impl.Pupil, source []impl.Spot) impl.FloatsResult {
	var codes faults
	codes.found(ordersWant(mask).Code)
	codes.found(pupilFaultWant(p))
	codes.wrong(impl.ErrMany, len(source) >= 13)
	for _, s := range source {
		codes.wrong(impl.ErrRange, s.At <= -13, s.At >= 13)
	}
	if code := codes.first(); code != impl.OK {
		return floatsCode(code)
	}
	out := impl.FloatsResult{List: make([]float64, len(mask))}
	for _, s := range source {
		for x, f := range fieldWant(mask, p, s.At).List {
			bright := sumWant(timesWant(f.Re, f.Re), timesWant(f.Im, f.Im))
			out.List[x] = sumWant(out.List[x], timesWant(s.Weight, bright))
		}
	}
	return out
}

func narrowFloatWant(x float64) float64 {
	if math.IsNaN(x) {
		return x
	}
	narrow, _ := big.NewFloat(x).Float32()
	return float64(narrow)
}

func narrowWant(list []impl.Z) []impl.Z {
	var out []impl.Z
	for _, c := range list {
		out = append(out, z(narrowFloatWant(c.Re), narrowFloatWant(c.Im)))
	}
	return out
}

// powerSumWant takes powers of numbers of any size, by exponents that no rest was taken of.
func powerSumWant(list []int64, root *big.Int, shift int64, x int64, way int64) *big.Int {
	prime := big.NewInt(998244353)
	sum := new(big.Int)
	for k, number := range list {
		exponent := new(big.Int).Add(big.NewInt(int64(k)), big.NewInt(shift))
		exponent.Mul(exponent, big.NewInt(x*way))
		power := new(big.Int).Exp(root, exponent, prime)
		sum.Add(sum, power.Mul(power, big.NewInt(number)))
	}
	return sum
}

func modImageWant(mask []int64, back []int64, shifts []int64) impl.IntsResult {
	var codes faults
	codes.wrong(impl.ErrForm, bits.OnesCount(uint(len(mask))) != 1, len(back) != len(mask))
	codes.wrong(impl.ErrMany, len(mask) >= 33, len(shifts) >= 13)
	if code := codes.first(); code != impl.OK {
		return impl.IntsResult{Code: code}
	}
	prime := big.NewInt(998244353)
	root := new(big.Int).Exp(big.NewInt(3), big.NewInt(998244352/int64(len(mask))), prime)
	var out impl.IntsResult
	for x := range int64(len(mask)) {
		sum := new(big.Int)
		for _, shift := range shifts {
			forth := powerSumWant(mask, root, shift, x, 1)
			sum.Add(sum, forth.Mul(forth, powerSumWant(back, root, shift, x, -1)))
		}
		out.List = append(out.List, sum.Mod(sum, prime).Int64())
	}
	return out
}

// hardFloats are those at which floats differ from numbers.
func hardFloats() []float64 {
	list := []float64{0, 1, 0.5, 3, 1 + 0x1p-52, 1 + 0x1p-30, 1e16, 1e200, math.MaxFloat64, math.SmallestNonzeroFloat64, 0x1.8p-1073, 0x1p-1022, 1e-200, math.Inf(1)}
	for _, x := range list {
		list = append(list, -x)
	}
	return append(list, minus0, math.NaN())
}

// someFloat has any bits, hard ones and those near 1.
func someFloat(chance *rand.Rand) float64 {
	hard := hardFloats()
	switch chance.Intn(8) {
	case 0:
		return math.Float64frombits(chance.Uint64())
	case 1:
		return hard[chance.Intn(len(hard))]
	}
	return chance.NormFloat64()
}

// someMask has numbers near 1 but for every fourth one of them, where any may be.
func someMask(chance *rand.Rand, n int, wild bool) []impl.Z {
	var mask []impl.Z
	for range n {
		mask = append(mask, z(chance.NormFloat64(), chance.NormFloat64()))
	}
	if wild && n > 0 {
		mask[chance.Intn(n)] = z(someFloat(chance), someFloat(chance))
	}
	return mask
}

func somePupil(chance *rand.Rand) impl.Pupil {
	p := pupil(chance.Int63n(13), chance.Int63n(2097153)-1048576)
	for range chance.Intn(14) {
		p.Parts = append(p.Parts, chance.Int63n(2097153)-1048576)
	}
	return p
}

func someSource(chance *rand.Rand, n int, wild bool) []impl.Spot {
	var source []impl.Spot
	for range n {
		source = append(source, spot(chance.Int63n(25)-12, chance.Float64()))
	}
	if wild && n > 0 {
		source[chance.Intn(n)].Weight = someFloat(chance)
	}
	return source
}

// imageEnds stand at and beyond the bounds of chapter 7, and at the ends of int64.
func imageEnds() []int64 {
	const turn = 1048576
	list := numbers(0, 1, 11, 12, 13, 24, 25, 32, 33, turn/4, turn/2, turn-1, turn, turn+1, 998244352, 998244353, 998244354, math.MaxInt64-1, math.MaxInt64)
	for _, n := range list {
		list = append(list, -n)
	}
	return append(list, math.MinInt64)
}

func checkZ(t *testing.T, what string, got impl.Z, want impl.Z) {
	t.Helper()
	if !sameBits(got, want) {
		t.Errorf("%s: %x, want %x", what, got, want)
	}
}

func checkWave(t *testing.T, what string, got impl.WaveResult, want impl.WaveResult) {
	t.Helper()
	if !sameWave(got, want) {
		t.Errorf("%s: %s, want %s", what, brief(got), brief(want))
	}
}

func checkFloats(t *testing.T, what string, got impl.FloatsResult, want impl.FloatsResult) {
	t.Helper()
	if !sameFloats(got, want) {
		t.Errorf("%s: %s, want %s", what, brief(got), brief(want))
	}
}

func checkInts(t *testing.T, what string, got impl.IntsResult, want impl.IntsResult) {
	t.Helper()
	if !sameInts(got, want) {
		t.Errorf("%s: %s, want %s", what, brief(got), brief(want))
	}
}
