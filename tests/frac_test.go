package tests

import (
	"math"
	"math/big"
	"testing"

	"loop.example/g00057/impl"
)

type operation struct {
	name  string
	call  func(impl.Frac, impl.Frac) impl.FracResult
	exact func(z, a, b *big.Rat) *big.Rat
}

func operations() []operation {
	return []operation{
		{"AddFrac", impl.AddFrac, (*big.Rat).Add},
		{"SubFrac", impl.SubFrac, (*big.Rat).Sub},
		{"MulFrac", impl.MulFrac, (*big.Rat).Mul},
		{"DivFrac", impl.DivFrac, (*big.Rat).Quo},
	}
}

func TestFracFault(t *testing.T) {
	for _, f := range append(rightFracs(), someRightFracs(300)...) {
		if got := impl.FracFault(f); got != impl.OK {
			t.Errorf("FracFault(%v) = %d, want OK", f, got)
		}
	}
	for _, f := range wrongFracs() {
		if got := impl.FracFault(f); got != impl.ErrForm {
			t.Errorf("FracFault(%v) = %d, want ErrForm", f, got)
		}
	}
}

func TestFracFaultOfAllSmall(t *testing.T) {
	for num := int64(-40); num <= 40; num++ {
		for den := int64(-3); den <= 40; den++ {
			f := impl.Frac{Num: num, Den: den}
			want := int64(impl.ErrForm)
			if rightByTrial(f) {
				want = impl.OK
			}
			if got := impl.FracFault(f); got != want {
				t.Errorf("FracFault(%v) = %d, want %d", f, got, want)
			}
		}
	}
}

func TestMakeFrac(t *testing.T) {
	const m = impl.MaxNum
	cases := []struct {
		num, den int64
		want     impl.FracResult
	}{
		{6, 4, impl.FracResult{Frac: impl.Frac{Num: 3, Den: 2}}},
		{-6, 4, impl.FracResult{Frac: impl.Frac{Num: -3, Den: 2}}},
		{6, -4, impl.FracResult{Frac: impl.Frac{Num: -3, Den: 2}}},
		{-6, -4, impl.FracResult{Frac: impl.Frac{Num: 3, Den: 2}}},
		{0, 7, impl.FracResult{Frac: impl.Frac{Num: 0, Den: 1}}},
		{0, -wide, impl.FracResult{Frac: impl.Frac{Num: 0, Den: 1}}},
		{wide, wide, impl.FracResult{Frac: impl.Frac{Num: 1, Den: 1}}},
		{wide, -wide, impl.FracResult{Frac: impl.Frac{Num: -1, Den: 1}}},
		{-wide, m, impl.FracResult{Frac: impl.Frac{Num: -m, Den: 1}}},
		{m, wide, impl.FracResult{Frac: impl.Frac{Num: 1, Den: m}}},
		{m, 1, impl.FracResult{Frac: impl.Frac{Num: m, Den: 1}}},
		{1, -m, impl.FracResult{Frac: impl.Frac{Num: -1, Den: m}}},
		{m + 1, 1, impl.FracResult{Code: impl.ErrRange}},
		{-m - 1, 1, impl.FracResult{Code: impl.ErrRange}},
		{1, m + 1, impl.FracResult{Code: impl.ErrRange}},
		{1, -m - 1, impl.FracResult{Code: impl.ErrRange}},
		{2 * (m + 1), 2, impl.FracResult{Code: impl.ErrRange}},
		{wide, 1, impl.FracResult{Code: impl.ErrRange}},
		{0, 0, impl.FracResult{Code: impl.ErrZero}},
		{wide, 0, impl.FracResult{Code: impl.ErrZero}},
		{-wide, 0, impl.FracResult{Code: impl.ErrZero}},
		{wide + 1, 0, impl.FracResult{Code: impl.ErrRange}},
		{-wide - 1, 0, impl.FracResult{Code: impl.ErrRange}},
		{0, wide + 1, impl.FracResult{Code: impl.ErrRange}},
		{0, -wide - 1, impl.FracResult{Code: impl.ErrRange}},
		{wide + 1, wide + 1, impl.FracResult{Code: impl.ErrRange}},
		{math.MinInt64, math.MinInt64, impl.FracResult{Code: impl.ErrRange}},
		{math.MaxInt64, math.MaxInt64, impl.FracResult{Code: impl.ErrRange}},
		{math.MinInt64, 0, impl.FracResult{Code: impl.ErrRange}},
		{0, math.MinInt64, impl.FracResult{Code: impl.ErrRange}},
	}
	for _, c := range cases {
		if got := impl.MakeFrac(c.num, c.den); got != c.want {
			t.Errorf("MakeFrac(%d, %d) = %v, want %v", c.num, c.den, got, c.want)
		}
	}
}

// makeWant says in the document's order what MakeFrac answers.
func makeWant(num, den int64) impl.FracResult {
	for _, n := range []int64{num, den} {
		if n < -wide || n > wide {
			return impl.FracResult{Code: impl.ErrRange}
		}
	}
	if den == 0 {
		return impl.FracResult{Code: impl.ErrZero}
	}
	return answerOf(big.NewRat(num, den))
}

func TestMakeFracAtAllEdges(t *testing.T) {
	numbers := append(edgeNumbers(), someNumbers(150)...)
	for _, num := range numbers {
		for _, den := range numbers {
			if got, want := impl.MakeFrac(num, den), makeWant(num, den); got != want {
				t.Errorf("MakeFrac(%d, %d) = %v, want %v", num, den, got, want)
			}
		}
	}
}

func TestOperationsExactly(t *testing.T) {
	fracs := append(rightFracs(), someRightFracs(150)...)
	for _, op := range operations() {
		for _, a := range fracs {
			for _, b := range fracs {
				want := impl.FracResult{Code: impl.ErrZero}
				if op.name != "DivFrac" || b.Num != 0 {
					want = answerOf(op.exact(new(big.Rat), exactOf(a), exactOf(b)))
				}
				if got := op.call(a, b); got != want {
					t.Errorf("%s(%v, %v) = %v, want %v", op.name, a, b, got, want)
				}
			}
		}
	}
}

func TestOperationsAtBounds(t *testing.T) {
	const m = impl.MaxNum
	add, sub, mul, div := operations()[0], operations()[1], operations()[2], operations()[3]
	cases := []struct {
		op   operation
		a, b impl.Frac
		want impl.FracResult
	}{
		{add, impl.Frac{Num: 1, Den: m}, impl.Frac{Num: 1, Den: m}, impl.FracResult{Frac: impl.Frac{Num: 1, Den: m / 2}}},
		{add, impl.Frac{Num: m, Den: 1}, impl.Frac{Num: m, Den: 1}, impl.FracResult{Code: impl.ErrRange}},
		{add, impl.Frac{Num: m - 1, Den: 1}, impl.Frac{Num: 1, Den: 1}, impl.FracResult{Frac: impl.Frac{Num: m, Den: 1}}},
		{add, impl.Frac{Num: m, Den: 1}, impl.Frac{Num: 1, Den: 2}, impl.FracResult{Code: impl.ErrRange}},
		{add, impl.Frac{Num: 1, Den: m}, impl.Frac{Num: 1, Den: m - 1}, impl.FracResult{Code: impl.ErrRange}},
		{add, impl.Frac{Num: m, Den: 1}, impl.Frac{Num: -m, Den: 1}, impl.FracResult{Frac: impl.Frac{Num: 0, Den: 1}}},
		{sub, impl.Frac{Num: -m, Den: 1}, impl.Frac{Num: m, Den: 1}, impl.FracResult{Code: impl.ErrRange}},
		{sub, impl.Frac{Num: -m + 1, Den: 1}, impl.Frac{Num: 1, Den: 1}, impl.FracResult{Frac: impl.Frac{Num: -m, Den: 1}}},
		{sub, impl.Frac{Num: m - 1, Den: m}, impl.Frac{Num: m - 1, Den: m}, impl.FracResult{Frac: impl.Frac{Num: 0, Den: 1}}},
		{mul, impl.Frac{Num: m, Den: m - 1}, impl.Frac{Num: m - 1, Den: m}, impl.FracResult{Frac: impl.Frac{Num: 1, Den: 1}}},
		{mul, impl.Frac{Num: 1, Den: 31622}, impl.Frac{Num: 1, Den: 31622}, impl.FracResult{Frac: impl.Frac{Num: 1, Den: 31622 * 31622}}},
		{mul, impl.Frac{Num: 1, Den: 31623}, impl.Frac{Num: 1, Den: 31623}, impl.FracResult{Code: impl.ErrRange}},
		{mul, impl.Frac{Num: -m, Den: 1}, impl.Frac{Num: m, Den: 1}, impl.FracResult{Code: impl.ErrRange}},
		{div, impl.Frac{Num: m, Den: 1}, impl.Frac{Num: -m, Den: 1}, impl.FracResult{Frac: impl.Frac{Num: -1, Den: 1}}},
		{div, impl.Frac{Num: 1, Den: m}, impl.Frac{Num: m, Den: 1}, impl.FracResult{Code: impl.ErrRange}},
		{div, impl.Frac{Num: 1, Den: 1}, impl.Frac{Num: -1, Den: m}, impl.FracResult{Frac: impl.Frac{Num: -m, Den: 1}}},
		{div, impl.Frac{Num: 0, Den: 1}, impl.Frac{Num: -m, Den: 1}, impl.FracResult{Frac: impl.Frac{Num: 0, Den: 1}}},
		{div, impl.Frac{Num: 0, Den: 1}, impl.Frac{Num: 0, Den: 1}, impl.FracResult{Code: impl.ErrZero}},
	}
	for _, c := range cases {
		if got := c.op.call(c.a, c.b); got != c.want {
			t.Errorf("%s(%v, %v) = %v, want %v", c.op.name, c.a, c.b, got, c.want)
		}
	}
}

// A nought as the second number of a quotient is told only behind both forms.
func TestOperationsOfWrong(t *testing.T) {
	want := impl.FracResult{Code: impl.ErrForm}
	others := append(wrongFracs(), impl.Frac{Num: 0, Den: 1}, impl.Frac{Num: 3, Den: 2}, impl.Frac{Num: -impl.MaxNum, Den: 1})
	for _, op := range operations() {
		for _, wrong := range wrongFracs() {
			for _, other := range others {
				if got := op.call(wrong, other); got != want {
					t.Errorf("%s(%v, %v) = %v, want ErrForm", op.name, wrong, other, got)
				}
				if got := op.call(other, wrong); got != want {
					t.Errorf("%s(%v, %v) = %v, want ErrForm", op.name, other, wrong, got)
				}
			}
		}
	}
}

func TestCompareFrac(t *testing.T) {
	fracs := append(rightFracs(), someRightFracs(150)...)
	for _, a := range fracs {
		for _, b := range fracs {
			if got, want := impl.CompareFrac(a, b), int64(exactOf(a).Cmp(exactOf(b))); got != want {
				t.Errorf("CompareFrac(%v, %v) = %d, want %d", a, b, got, want)
			}
		}
	}
	for _, wrong := range wrongFracs() {
		for _, other := range append(rightFracs(), wrongFracs()...) {
			if impl.CompareFrac(wrong, other) != 0 || impl.CompareFrac(other, wrong) != 0 {
				t.Errorf("CompareFrac of %v and %v is not 0", wrong, other)
			}
		}
	}
}

func TestRoundFrac(t *testing.T) {
	const m = impl.MaxNum
	cases := []struct {
		f    impl.Frac
		want int64
	}{
		{impl.Frac{Num: -5, Den: 2}, -2}, {impl.Frac{Num: -3, Den: 2}, -1}, {impl.Frac{Num: -1, Den: 2}, 0},
		{impl.Frac{Num: 1, Den: 2}, 1}, {impl.Frac{Num: 3, Den: 2}, 2}, {impl.Frac{Num: 5, Den: 2}, 3},
		{impl.Frac{Num: 0, Den: 1}, 0}, {impl.Frac{Num: 7, Den: 1}, 7}, {impl.Frac{Num: -7, Den: 1}, -7},
		{impl.Frac{Num: 4, Den: 3}, 1}, {impl.Frac{Num: 5, Den: 3}, 2}, {impl.Frac{Num: -4, Den: 3}, -1}, {impl.Frac{Num: -5, Den: 3}, -2},
		{impl.Frac{Num: m, Den: 1}, m}, {impl.Frac{Num: -m, Den: 1}, -m}, {impl.Frac{Num: 1, Den: m}, 0}, {impl.Frac{Num: -1, Den: m}, 0},
		{impl.Frac{Num: m - 1, Den: 2}, (m-1)/2 + 1}, {impl.Frac{Num: 1 - m, Den: 2}, -(m - 1) / 2},
		{impl.Frac{Num: m, Den: m - 1}, 1}, {impl.Frac{Num: 1 - m, Den: m}, -1},
	}
	for _, c := range cases {
		if got := impl.RoundFrac(c.f); got != c.want {
			t.Errorf("RoundFrac(%v) = %d, want %d", c.f, got, c.want)
		}
	}
	for _, f := range wrongFracs() {
		if got := impl.RoundFrac(f); got != 0 {
			t.Errorf("RoundFrac(%v) = %d, want 0", f, got)
		}
	}
}

// The nearest whole number is at most half away; at just half away it is the greater one.
func TestRoundFracIsNearest(t *testing.T) {
	half := big.NewRat(1, 2)
	for _, f := range append(append(rightFracs(), smallFracs()...), someRightFracs(500)...) {
		gap := new(big.Rat).Sub(new(big.Rat).SetInt64(impl.RoundFrac(f)), exactOf(f))
		if gap.Cmp(half) > 0 || gap.Cmp(new(big.Rat).Neg(half)) <= 0 {
			t.Errorf("RoundFrac(%v) = %d", f, impl.RoundFrac(f))
		}
	}
}
