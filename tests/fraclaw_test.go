package tests

import (
	"testing"

	"loop.example/g00057/impl"
)

// chain goes on with an answer, or with its code, so that a law can be told in one line.
func chain(call func(impl.Frac, impl.Frac) impl.FracResult, a, b impl.FracResult) impl.FracResult {
	if a.Code != impl.OK {
		return a
	}
	if b.Code != impl.OK {
		return b
	}
	return call(a.Frac, b.Frac)
}

// sameWhereRight: a law is asked only as long as both sides are right.
func sameWhereRight(t *testing.T, law string, left, right impl.FracResult) bool {
	t.Helper()
	if left.Code != impl.OK || right.Code != impl.OK {
		return false
	}
	if left != right {
		t.Errorf("%s: %v and %v", law, left, right)
	}
	return true
}

func given(f impl.Frac) impl.FracResult {
	return impl.FracResult{Frac: f}
}

func lawFracs() []impl.Frac {
	return append(smallFracs(), rightFracs()...)
}

func TestLawsOfOne(t *testing.T) {
	nought, one := impl.Frac{Num: 0, Den: 1}, impl.Frac{Num: 1, Den: 1}
	for _, a := range append(lawFracs(), someRightFracs(300)...) {
		laws := []struct {
			name string
			got  impl.FracResult
			want impl.Frac
		}{
			{"a + 0", impl.AddFrac(a, nought), a},
			{"a - 0", impl.SubFrac(a, nought), a},
			{"a - a", impl.SubFrac(a, a), nought},
			{"a * 1", impl.MulFrac(a, one), a},
			{"a * 0", impl.MulFrac(a, nought), nought},
			{"a / 1", impl.DivFrac(a, one), a},
			{"0 - (0 - a)", chain(impl.SubFrac, given(nought), impl.SubFrac(nought, a)), a},
		}
		for _, law := range laws {
			if law.got != given(law.want) {
				t.Errorf("%s of %v: %v, want %v", law.name, a, law.got, law.want)
			}
		}
		if a != nought && impl.DivFrac(a, a) != given(one) {
			t.Errorf("a / a of %v: %v", a, impl.DivFrac(a, a))
		}
	}
}

func TestLawsOfTwo(t *testing.T) {
	met := 0
	for _, a := range lawFracs() {
		for _, b := range lawFracs() {
			if impl.AddFrac(a, b) != impl.AddFrac(b, a) || impl.MulFrac(a, b) != impl.MulFrac(b, a) {
				t.Errorf("%v and %v do not change places", a, b)
			}
			if sameWhereRight(t, "a + b - b", chain(impl.SubFrac, impl.AddFrac(a, b), given(b)), given(a)) {
				met++
			}
			sameWhereRight(t, "a - b + b", chain(impl.AddFrac, impl.SubFrac(a, b), given(b)), given(a))
			if b.Num != 0 {
				sameWhereRight(t, "a * b / b", chain(impl.DivFrac, impl.MulFrac(a, b), given(b)), given(a))
				sameWhereRight(t, "a / b * b", chain(impl.MulFrac, impl.DivFrac(a, b), given(b)), given(a))
			}
		}
	}
	if met < 2000 {
		t.Errorf("only %d sums were right", met)
	}
}

func TestLawsOfThree(t *testing.T) {
	fracs := append(smallFracs(), impl.Frac{Num: impl.MaxNum, Den: 1}, impl.Frac{Num: -1, Den: impl.MaxNum})
	for _, a := range fracs {
		for _, b := range fracs {
			for _, c := range fracs {
				sameWhereRight(t, "(a + b) + c", chain(impl.AddFrac, impl.AddFrac(a, b), given(c)), chain(impl.AddFrac, given(a), impl.AddFrac(b, c)))
				sameWhereRight(t, "(a * b) * c", chain(impl.MulFrac, impl.MulFrac(a, b), given(c)), chain(impl.MulFrac, given(a), impl.MulFrac(b, c)))
				sameWhereRight(t, "(a + b) * c", chain(impl.MulFrac, impl.AddFrac(a, b), given(c)), chain(impl.AddFrac, impl.MulFrac(a, c), impl.MulFrac(b, c)))
			}
		}
	}
}

func TestLawsOfOrder(t *testing.T) {
	nought := impl.Frac{Num: 0, Den: 1}
	for _, a := range lawFracs() {
		for _, b := range lawFracs() {
			order := impl.CompareFrac(a, b)
			if order != -impl.CompareFrac(b, a) || (order == 0) != (a == b) {
				t.Errorf("order of %v and %v: %d", a, b, order)
			}
			if less := impl.SubFrac(a, b); less.Code == impl.OK && impl.CompareFrac(less.Frac, nought) != order {
				t.Errorf("%v less %v is %v, order %d", a, b, less, order)
			}
		}
	}
}

func TestLawsOfOrderOfThree(t *testing.T) {
	nought := impl.Frac{Num: 0, Den: 1}
	for _, a := range smallFracs() {
		for _, b := range smallFracs() {
			order := impl.CompareFrac(a, b)
			for _, c := range smallFracs() {
				if order < 0 && impl.CompareFrac(b, c) < 0 && impl.CompareFrac(a, c) >= 0 {
					t.Errorf("%v, %v, %v are not in order", a, b, c)
				}
				if impl.CompareFrac(impl.AddFrac(a, c).Frac, impl.AddFrac(b, c).Frac) != order {
					t.Errorf("%v and %v change their order with %v more", a, b, c)
				}
				if impl.CompareFrac(impl.MulFrac(a, c).Frac, impl.MulFrac(b, c).Frac) != order*impl.CompareFrac(c, nought) {
					t.Errorf("%v and %v times %v are not in order", a, b, c)
				}
			}
		}
	}
}
