package tests

import (
	"math"
	"slices"
	"strings"
	"testing"

	"loop.example/g00057/impl"
)

// zeroBesideCode: beside a code all else is zero, and without one the fraction is right.
func zeroBesideCode(r impl.FracResult) bool {
	if r.Code != impl.OK {
		return r.Frac == impl.Frac{}
	}
	return impl.FracFault(r.Frac) == impl.OK
}

func fracOfEdges() []impl.Frac {
	var list []impl.Frac
	for _, num := range edgeNumbers() {
		for _, den := range edgeNumbers() {
			list = append(list, impl.Frac{Num: num, Den: den})
		}
	}
	return list
}

func TestEveryFracIsAnswered(t *testing.T) {
	for _, f := range fracOfEdges() {
		fault := impl.FracFault(f)
		right := fault == impl.OK
		if !right && fault != impl.ErrForm {
			t.Errorf("FracFault(%v) = %d", f, fault)
		}
		if (impl.FormatFrac(f) != "") != right {
			t.Errorf("FormatFrac(%v) = %q", f, impl.FormatFrac(f))
		}
		if !right && impl.RoundFrac(f) != 0 {
			t.Errorf("RoundFrac(%v) = %d", f, impl.RoundFrac(f))
		}
		if fault != impl.FracFault(f) || impl.FormatFrac(f) != impl.FormatFrac(f) || impl.RoundFrac(f) != impl.RoundFrac(f) {
			t.Errorf("%v has two answers", f)
		}
	}
}

func TestEveryPairIsAnswered(t *testing.T) {
	edges := fracOfEdges()
	for i, a := range edges {
		b := edges[(i*31+7)%len(edges)]
		for _, op := range operations() {
			for _, r := range []impl.FracResult{op.call(a, b), op.call(b, a), op.call(a, a), op.call(a, impl.Frac{Num: 1, Den: 2})} {
				if !zeroBesideCode(r) {
					t.Errorf("%s of %v and %v: %v", op.name, a, b, r)
				}
			}
			if op.call(a, b) != op.call(a, b) {
				t.Errorf("%s of %v and %v has two answers", op.name, a, b)
			}
		}
		if order := impl.CompareFrac(a, b); order < -1 || order > 1 || order != impl.CompareFrac(a, b) {
			t.Errorf("CompareFrac(%v, %v) = %d", a, b, order)
		}
		if r := impl.MakeFrac(a.Num, a.Den); !zeroBesideCode(r) || r != impl.MakeFrac(a.Num, a.Den) {
			t.Errorf("MakeFrac(%d, %d) = %v", a.Num, a.Den, r)
		}
	}
}

func TestEveryTextIsAnswered(t *testing.T) {
	texts := []string{"", "-", "/", "1/2", "\x00", "\xff\xfe", strings.Repeat("-", impl.MaxText), strings.Repeat("9/", 3*impl.MaxText), strings.Repeat("\xff", impl.MaxText+1)}
	for _, n := range someNumbers(3000) {
		bytes := []byte{byte(n), byte(n >> 8), byte(n >> 16), byte(n >> 24), byte(n >> 32)}
		texts = append(texts, string(bytes), "1"+string(bytes), "-7/"+string(bytes))
	}
	for _, text := range texts {
		r := impl.ParseFrac(text)
		if r != impl.ParseFrac(text) || !zeroBesideCode(impl.FracResult{Code: r.Code, Frac: r.Frac}) {
			t.Errorf("ParseFrac(%.40q) = %v", text, r)
		}
		if r.At < 0 || r.At > int64(len(text)) || r.At != 0 && r.Code != impl.ErrText && r.Code != impl.ErrZero {
			t.Errorf("ParseFrac(%.40q) = %v", text, r)
		}
	}
}

func TestEveryCoinAskIsAnswered(t *testing.T) {
	for _, seed := range edgeNumbers() {
		for _, n := range edgeNumbers() {
			for _, most := range []int64{math.MinInt64, -1, 0, 1, 6, 1000000, 1000001, math.MaxInt64} {
				right := seed >= 1 && seed <= 2147483646 && n >= 0 && n <= 5000 && most >= 1 && most <= 1000000
				r := impl.Coins(seed, n, most)
				if right && (r.Code != impl.OK || int64(len(r.List)) != n) || !right && !sameCoins(r, impl.CoinResult{Code: impl.ErrForm}) {
					t.Errorf("Coins(%d, %d, %d): code %d, %d coins", seed, n, most, r.Code, len(r.List))
				}
			}
		}
	}
}

func TestCoinsAnswerNewLists(t *testing.T) {
	first := impl.Coins(57, 40, 1000)
	kept := slices.Clone(first.List)
	second := impl.Coins(57, 40, 1000)
	if !sameCoins(first, second) {
		t.Fatal("the same ask has two answers")
	}
	for i := range first.List {
		first.List[i] = -1
	}
	// What stands behind an answer's end must be its own, too.
	_ = append(first.List, -1)
	if !slices.Equal(second.List, kept) {
		t.Error("two answers share their lists")
	}
	if !slices.Equal(impl.Coins(57, 40, 1000).List, kept) {
		t.Error("an answer hangs on what was done to an earlier one")
	}
}
