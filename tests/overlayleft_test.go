package tests

import (
	"math/rand"
	"testing"

	"loop.example/g00057/impl"
)

func checkResiduals(t *testing.T, what string, list []impl.Mark, m impl.Model, want impl.LinesFit) {
	t.Helper()
	checkSolved(t, what, impl.ResidualsOf(list, m), want)
	checkSolved(t, what+", plainly", residualsWant(list, m), want)
}

func checkMiss(t *testing.T, what string, list []impl.Mark, m impl.Model, want impl.FracResult) {
	t.Helper()
	if got := impl.MissOf(list, m); got != want {
		t.Errorf("%s, %s, %v: %v, want %v", what, brief(list), m, got, want)
	}
	if got := missWant(list, m); got != want {
		t.Errorf("%s, %s, %v, plainly: %v, want %v", what, brief(list), m, got, want)
	}
}

func checkFitProof(t *testing.T, what string, list []impl.Mark, m impl.Model, want bool) {
	t.Helper()
	if got := impl.CheckFit(list, m); got != want {
		t.Errorf("%s, %s, %v: %v", what, brief(list), m, got)
	}
	if got := checkFitWant(list, m); got != want {
		t.Errorf("%s, %s, %v, plainly: %v", what, brief(list), m, got)
	}
}

// leftCase is a list of marks, a model, and what is left of the shifts.
type leftCase struct {
	name string
	list []impl.Mark
	m    impl.Model
	want impl.LinesFit
}

func leftCases() []leftCase {
	const most = impl.MaxNum
	nothing := wholeModel(0, 0, 0, 0)
	pair := func(dx int64, dy int64) []impl.Mark { return marks(mark(0, 0, 0, 0), mark(1, 0, dx, dy)) }
	return []leftCase{
		{"across, then upward, mark by mark", marks(mark(0, 0, 1, 2), mark(1, 0, 3, 4), mark(5, 5, 6, 7)), nothing, solved(asFracs(1, 2, 3, 4, 6, 7)...)},
		{"a shift", marks(mark(0, 0, 1, 2), mark(1, 0, 3, 4)), wholeModel(10, 20, 0, 0), solved(asFracs(-9, -18, -7, -16)...)},
		{"a size", marks(mark(2, 3, 0, 0), mark(-5, 7, 0, 0)), wholeModel(0, 0, 10, 0), solved(asFracs(-20, -30, 50, -70)...)},
		{"a turn", marks(mark(2, 3, 0, 0), mark(-5, 7, 0, 0)), wholeModel(0, 0, 0, 10), solved(asFracs(30, -20, 70, 50)...)},
		{"all", marks(mark(2, 3, 100, 200), mark(0, 0, 0, 0)), wholeModel(1, 2, 10, 1000), solved(asFracs(100-1-20+3000, 200-2-2000-30, -1, -2)...)},
		{"parts", marks(mark(2, 0, 1, 0), mark(0, 3, 0, 1)), model(ratio(1, 2), ratio(1, 3), ratio(1, 4), ratio(1, 6)), solved(asFrac(0), ratio(-2, 3), asFrac(0), ratio(-1, 12))},

		{"the greatest that is left", pair(0, 0), changed(nothing, 0, asFrac(-most)), solved(asFracs(most, 0, most, 0)...)},
		{"the greatest but a shift", pair(1, 0), changed(nothing, 0, asFrac(most)), solved(asFracs(-most, 0, 1-most, 0)...)},
		{"more than the greatest, across", pair(1, 0), changed(nothing, 0, asFrac(-most)), solvedCode(impl.ErrRange)},
		{"less than the least, across", pair(-1, 0), changed(nothing, 0, asFrac(most)), solvedCode(impl.ErrRange)},
		{"more than the greatest, upward", pair(0, 1), changed(nothing, 1, asFrac(-most)), solvedCode(impl.ErrRange)},
		{"less than the least, upward", pair(0, -1), changed(nothing, 1, asFrac(most)), solvedCode(impl.ErrRange)},
		{"more in the first mark alone", marks(mark(1, 0, 1, 0), mark(0, 0, 0, 0)), changed(nothing, 0, asFrac(-most)), solvedCode(impl.ErrRange)},
		{"parts of a shift", pair(1000, 0), changed(nothing, 0, ratio(3000, 1000003)), solved(ratio(-3000, 1000003), asFrac(0), ratio(most, 1000003), asFrac(0))},
		{"one part less", pair(1000, 0), changed(nothing, 0, ratio(2999, 1000003)), solvedCode(impl.ErrRange)},
		{"one part less, on the other side", pair(-1000, 0), changed(nothing, 0, ratio(-2999, 1000003)), solvedCode(impl.ErrRange)},
		{"a product of the last mark", marks(mark(1, 0, 0, 0), mark(2, 0, 0, 0)), changed(nothing, 2, asFrac(most)), solvedCode(impl.ErrRange)},
		{"a product of the first mark", marks(mark(0, 2, 0, 0), mark(1, 0, 0, 0)), changed(nothing, 3, asFrac(most)), solvedCode(impl.ErrRange)},
		{"a sum that a shift would bring back", marks(mark(1, 0, 1, 0), mark(0, 0, 0, 0)), wholeModel(most, 0, 1, 0), solvedCode(impl.ErrRange)},
		{"a difference that is beyond on the way", marks(mark(1, 1, 0, 0), mark(0, 0, 0, 0)), wholeModel(most, 0, 1, 1), solvedCode(impl.ErrRange)},
		{"a difference that is not", marks(mark(-1, -1, 0, 0), mark(0, 0, 0, 0)), wholeModel(most, 0, 1, 1), solved(asFracs(-most, 2, -most, 0)...)},
	}
}

func TestResidualsOfByHand(t *testing.T) {
	for _, c := range leftCases() {
		checkResiduals(t, c.name, c.list, c.m, c.want)
		// No proof, and no miss, where something that is left is not right.
		if c.want.Code != impl.OK {
			checkFitProof(t, c.name, c.list, c.m, false)
			checkMiss(t, c.name, c.list, c.m, fracCode(c.want.Code))
		}
	}
}

// A fault of the marks is told ahead of one of the model, and that ahead of what is not right.
func TestWhatIsLeftOfFaults(t *testing.T) {
	beyond := wholeModel(0, 0, impl.MaxNum, impl.MaxNum)
	for _, c := range markCases() {
		for _, m := range []impl.Model{wholeModel(1, 2, 3, 4), {}, changed(wholeModel(0, 0, 0, 0), 3, ratio(2, 4)), beyond} {
			want := solvedCode(c.code)
			switch {
			case c.code != impl.OK:
			case m == beyond && len(c.list) > 2:
				want = solvedCode(impl.ErrRange)
			default:
				want = residualsWant(c.list, m)
			}
			checkResiduals(t, c.name, c.list, m, want)
			checkFitProof(t, c.name, c.list, m, want.Code == impl.OK && checkFitWant(c.list, m))
			miss := fracCode(want.Code)
			if want.Code == impl.OK {
				miss = missWant(c.list, m)
			}
			checkMiss(t, c.name, c.list, m, miss)
		}
	}
	for i := range 4 {
		for _, f := range wrongFracs() {
			m := changed(wholeModel(0, 0, impl.MaxNum, 0), i, f)
			list := marks(mark(50, 0, 0, 0), mark(0, 0, 0, 0))
			checkResiduals(t, "a fault", list, m, solvedCode(impl.ErrForm))
			checkFitProof(t, "a fault", list, m, false)
			checkMiss(t, "a fault", list, m, fracCode(impl.ErrForm))
			list[0].Dx = 1001
			checkResiduals(t, "two faults", list, m, solvedCode(impl.ErrRange))
			checkMiss(t, "two faults", list, m, fracCode(impl.ErrRange))
		}
	}
}

func TestSomeResiduals(t *testing.T) {
	chance := rand.New(rand.NewSource(126))
	met, missed := map[int64]int{}, map[int64]int{}
	for i := range 2400 {
		list := someMarks(chance, 2+i%4*6, numbers(3, 50)[i%2], numbers(9, 1000)[i/2%2])
		m := someModel(chance, numbers(9, 400, 40000, 20000000)[i%4], numbers(1, 9, 900, 20000, impl.MaxNum)[i%5])
		want, miss := residualsWant(list, m), missWant(list, m)
		checkResiduals(t, "some", list, m, want)
		checkMiss(t, "some", list, m, miss)
		checkFitProof(t, "some", list, m, checkFitWant(list, m))
		met[want.Code]++
		missed[miss.Code]++
	}
	if min(met[impl.OK], met[impl.ErrRange], missed[impl.OK], missed[impl.ErrRange]) < 200 {
		t.Errorf("the codes are %v and %v", met, missed)
	}
}

func TestMissOfByHand(t *testing.T) {
	const most = impl.MaxNum
	nothing := wholeModel(0, 0, 0, 0)
	great := changed(nothing, 2, asFrac(31622))
	for _, c := range []struct {
		name string
		list []impl.Mark
		m    impl.Model
		want impl.FracResult
	}{
		{"no miss", fourMarks(), nothing, fracTold(asFrac(0))},
		{"whole numbers", marks(mark(0, 0, 1, 2), mark(1, 0, -3, 4)), nothing, fracTold(asFrac(1 + 4 + 9 + 16))},
		{"the greatest shifts", marks(mark(0, 0, 1000, -1000), mark(1, 0, -1000, 1000)), nothing, fracTold(asFrac(4000000))},
		{"parts", marks(mark(0, 0, 1, 0), mark(1, 0, 0, 0)), model(ratio(1, 2), ratio(1, 3), asFrac(0), asFrac(0)), fracTold(ratio(13, 18))},
		{"a square at the bound", marks(mark(1, 0, 0, 0), mark(0, 0, 0, 0)), great, fracTold(asFrac(999950884))},
		{"a square beyond it", marks(mark(1, 0, -1, 0), mark(0, 0, 0, 0)), great, fracCode(impl.ErrRange)},
		{"the last square beyond it", marks(mark(0, 0, 0, 0), mark(0, 1, 0, -1)), great, fracCode(impl.ErrRange)},
		{"the sum at the bound", marks(mark(1, 0, 0, 221), mark(0, 0, 16, 4), mark(0, 0, 1, 1), mark(0, 0, 1, 0)), great, fracTold(asFrac(most))},
		{"the sum beyond it", marks(mark(1, 0, 0, 221), mark(0, 0, 16, 4), mark(0, 0, 1, 1), mark(0, 0, 1, 1)), great, fracCode(impl.ErrRange)},
		{"the sum beyond it, across", marks(mark(1, 0, 0, 221), mark(0, 0, 16, 4), mark(0, 0, 1, 1), mark(0, 0, 1, 0), mark(0, 0, -1, 0)), great, fracCode(impl.ErrRange)},
		{"small parts", marks(mark(0, 0, 0, 0), mark(1, 1, 0, 0)), changed(nothing, 0, ratio(1, 31622)), fracTold(ratio(1, 499975442))},
		{"parts that are too small", marks(mark(0, 0, 0, 0), mark(1, 1, 0, 0)), changed(nothing, 0, ratio(1, 31623)), fracCode(impl.ErrRange)},
		{"parts that are too small in the last square", marks(mark(0, 0, 0, 0), mark(0, 1, 0, 0)), changed(nothing, 2, ratio(1, 31623)), fracCode(impl.ErrRange)},
		{"right on the way", marks(mark(2, 1, 6, -1), mark(1, 0, -7, 4)), model(asFrac(0), asFrac(0), ratio(5, 48), ratio(1, 67)), fracTold(ratio(174709025, 1723776))},
		{"not so in the other order", marks(mark(1, 0, -7, 4), mark(2, 1, 6, -1)), model(asFrac(0), asFrac(0), ratio(5, 48), ratio(1, 67)), fracCode(impl.ErrRange)},
		{"parts that do not go together", marks(mark(0, 0, 0, 0), mark(1, 1, 0, 0)), model(ratio(1, 191), ratio(1, 193), asFrac(0), asFrac(0)), fracCode(impl.ErrRange)},
		{"parts that just do", marks(mark(0, 0, 0, 0), mark(1, 1, 0, 0)), model(ratio(1, 173), ratio(1, 181), asFrac(0), asFrac(0)), fracTold(ratio(2*(173*173+181*181), 173*173*181*181))},
	} {
		checkMiss(t, c.name, c.list, c.m, c.want)
	}
}

func TestCheckFitByHand(t *testing.T) {
	nothing := wholeModel(0, 0, 0, 0)
	document := marks(mark(0, 0, 1, 0), mark(2, 0, 3, 0), mark(0, 2, 1, 2))
	for _, c := range []struct {
		name string
		list []impl.Mark
		m    impl.Model
		want bool
	}{
		{"nothing", fourMarks(), nothing, true},
		{"the document's", document, wholeModel(1, 0, 1, 0), true},
		{"the document's, without size", document, wholeModel(1, 0, 0, 0), false},
		{"the document's, turned", document, wholeModel(1, 0, 1, 1), false},
		{"what none meets", marks(mark(0, 0, 0, 0), mark(1, 0, 1, 0), mark(2, 0, 0, 0)), model(ratio(1, 3), asFrac(0), asFrac(0), asFrac(0)), true},
		{"what none meets, by the middle mark", marks(mark(0, 0, 0, 0), mark(1, 0, 1, 0), mark(2, 0, 0, 0)), wholeModel(1, 0, 0, 0), false},
		{"what none meets, by the others", marks(mark(0, 0, 0, 0), mark(1, 0, 1, 0), mark(2, 0, 0, 0)), nothing, false},
		{"a model with a fault", fourMarks(), impl.Model{}, false},
		{"K is not right", fourMarks(), changed(nothing, 2, ratio(0, 2)), false},
		{"no marks", nil, nothing, false},
		{"one mark", fourMarks()[:1], nothing, false},
		{"too many marks", longer(fourMarks(), 21), nothing, false},
		{"as many as may be", longer(fourMarks(), 20), nothing, true},
		{"all at one place", samePlace(3, 0, 0), nothing, false},
		{"all at one place, met", marks(mark(1, 1, 0, 0), mark(1, 1, 0, 0)), nothing, false},
		{"a place beyond", append(fourMarks(), mark(51, 0, 0, 0)), nothing, false},
		{"a shift beyond", append(fourMarks(), mark(0, 0, 0, -1001)), nothing, false},
		{"a product is not right in the sum of sizes", marks(mark(38, 30, 23, 180), mark(-46, -31, -652, -497), mark(7, 38, -454, -492), mark(-50, -2, 257, -958), mark(-11, -5, 689, -901)),
			model(ratio(1100057, 21538), ratio(-943593, 1958), ratio(150501, 43076), ratio(63091, 10769)), false},
		{"a product is not right in the sum of turns", marks(mark(50, -30, -349, -430), mark(-26, -20, -709, 570), mark(-34, -9, -561, -52), mark(25, -45, 584, 244)),
			model(ratio(-5725811, 22411), ratio(5921765, 22411), ratio(152637, 22411), ratio(-24824, 22411)), false},
	} {
		checkFitProof(t, c.name, c.list, c.m, c.want)
	}
}

// Around the middle each of the four sums hangs on one fraction alone: none of the sums may be left out.
func TestEachSumOfAProof(t *testing.T) {
	for i := range 4 {
		for _, f := range fracs(asFrac(1), asFrac(-1), ratio(1, 2), ratio(-1, 7), ratio(1, 1000000), asFrac(1000000)) {
			checkFitProof(t, "one fraction", fourMarks(), changed(wholeModel(0, 0, 0, 0), i, f), false)
		}
	}
	for i := range 4 {
		parts := [4]int64{5, -6, 7, -8}
		list := metBy(parts, [2]int64{3, 0}, [2]int64{0, 3}, [2]int64{-3, 0}, [2]int64{0, -3})
		m := wholeModel(parts[0], parts[1], parts[2], parts[3])
		checkFitProof(t, "all four", list, m, true)
		checkFitProof(t, "another", list, changed(m, i, asFrac(parts[i]+1)), false)
		checkFitProof(t, "the opposite", list, changed(m, i, asFrac(-parts[i])), false)
	}
}

// Only what is fitted has a proof: a model in which one fraction, or two, are turned a little has none.
func TestOnlyTheFitHasAProof(t *testing.T) {
	chance := rand.New(rand.NewSource(127))
	for i := range 300 {
		list := someMarks(chance, 2+i%19, 9, numbers(3, 90)[i%2])
		got := impl.FitModel(list)
		checkFitProof(t, "fitted", list, got.Model, true)
		for j := range 16 {
			fields := fracs(got.Model.Sx, got.Model.Sy, got.Model.K, got.Model.R)
			off := fracs(asFrac(1), asFrac(-1), ratio(1, 1000), ratio(-1, fields[j%4].Den))[j/4]
			m := changed(got.Model, j%4, impl.AddFrac(fields[j%4], off).Frac)
			checkFitProof(t, "one is turned", list, m, false)
			checkFitProof(t, "two are turned", list, changed(m, (j+1)%4, impl.SubFrac(fields[(j+1)%4], off).Frac), false)
		}
	}
}

// A best fit whose sums leave the bounds on the way has no proof, though all of them would be 0 at the end.
func TestProofsThatLeaveTheBounds(t *testing.T) {
	chance := rand.New(rand.NewSource(128))
	held := map[bool]int{}
	for i := range 700 {
		list := someMarks(chance, 3+i%18, 50, numbers(30, 100, 1000)[i%3])
		got := impl.FitModel(list)
		if got.Code != impl.OK {
			continue
		}
		want := checkFitWant(list, got.Model)
		checkFitProof(t, "fitted", list, got.Model, want)
		held[want]++
		var r reckoning
		for _, sum := range r.proofSums(list, got.Model) {
			if sum.Sign() != 0 {
				t.Errorf("%v: %v is not the best fit", list, got)
			}
		}
	}
	if min(held[true], held[false]) < 100 {
		t.Errorf("the proofs are %v", held)
	}
}
