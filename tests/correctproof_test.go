package tests

import (
	"math"
	"math/rand"
	"slices"
	"testing"

	"loop.example/g00057/impl"
)

type proofCase struct {
	name   string
	target []impl.Line
	length int64
	k      impl.Kernel
	r      impl.CorrectResult
	holds  bool
}

func checkProofs(t *testing.T, cases []proofCase) {
	t.Helper()
	for _, c := range cases {
		if got := impl.CheckCorrection(c.target, c.length, c.k, c.r); got != c.holds {
			t.Errorf("%s: %v, want %v", c.name, got, c.holds)
		}
		if got := checkBendWant(c.target, c.length, c.k, c.r); got != c.holds {
			t.Errorf("%s, plainly: %v, want %v", c.name, got, c.holds)
		}
	}
}

// The target 0 2 on four cells has the error 4, the lines 1 3 have 2, the lines 2 4 have 0.
func TestCheckCorrectionByHand(t *testing.T) {
	far := kernel(1, 0, 0, 1)
	target, done := linesAt(0, 2), linesAt(2, 4)
	coded := bentTo(done, 4, 3, 2, 1, 0)
	coded.Code = impl.ErrForm
	below := coded
	below.Code = -1
	checkProofs(t, []proofCase{
		{"what CorrectLines tells", target, 4, far, impl.CorrectLines(target, 4, far, 30), true},
		{"what it tells of one round", target, 4, far, impl.CorrectLines(target, 4, far, 1), true},
		{"what it tells of no round", target, 4, far, impl.CorrectLines(target, 4, far, 0), true},
		{"all steps", target, 4, far, bentTo(done, 4, 3, 2, 1, 0), true},
		{"fewer steps", target, 4, far, bentTo(done, 4, 0), true},
		{"the target itself", target, 4, far, bentTo(target, 4), true},
		{"a code", target, 4, far, coded, false},
		{"a code below 0", target, 4, far, below, false},
		{"no errors", target, 4, far, bentTo(done), false},
		{"an empty list of errors", target, 4, far, impl.CorrectResult{Lines: done, Errors: []int64{}}, false},
		{"the first is greater", target, 4, far, bentTo(done, 5, 3, 2, 1, 0), false},
		{"the first is less", target, 4, far, bentTo(done, 3, 2, 1, 0), false},
		{"the first is missing", target, 4, far, bentTo(done, 0), false},
		{"the last is greater", target, 4, far, bentTo(done, 4, 3, 2, 1), false},
		{"the last is less", target, 4, far, bentTo(done, 4, 3, 2, 1, 0, -1), false},
		{"the last is the target's", target, 4, far, bentTo(done, 4), false},
		{"one between is as great as the one ahead", target, 4, far, bentTo(done, 4, 3, 3, 1, 0), false},
		{"one between is greater than the one ahead", target, 4, far, bentTo(done, 4, 2, 3, 1, 0), false},
		{"one between is greater than all", target, 4, far, bentTo(done, 4, 9, 2, 1, 0), false},
		{"one between is less than the last", target, 4, far, bentTo(done, 4, 3, -1, 0), false},
		{"the second is as great as the first", target, 4, far, bentTo(done, 4, 4, 2, 0), false},
		{"the last is as great as the one ahead", target, 4, far, bentTo(done, 4, 3, 0, 0), false},
		{"errors that stay alike", target, 4, far, bentTo(target, 4, 4), false},
		{"the greatest and the least between", target, 4, far, bentTo(done, 4, math.MaxInt64, math.MinInt64, 0), false},
		{"other lines, with their error", target, 4, far, bentTo(linesAt(1, 3), 4, 2), true},
		{"other lines, with another error", target, 4, far, bentTo(linesAt(1, 3), 4, 0), false},
		{"no lines, with their error", target, 4, far, bentTo(nil, 4, 2), true},
		{"more lines, with their error", target, 4, far, bentTo(linesAt(0, 1, 3, 4), 4, 2), true},
		{"lines that are worse", linesAt(1, 3), 4, kernel(1, 1), bentTo(linesAt(0, 2), 0, 2), false},
		{"no target", nil, 4, far, bentTo(nil, 0), true},
		{"the zero value", target, 4, far, impl.CorrectResult{}, false},
	})
}

func TestCheckCorrectionWithFaults(t *testing.T) {
	fit := kernel(1, 1)
	one := linesAt(0, 1)
	touching, beyond, many := linesAt(0, 1, 1, 2), linesAt(0, 9), teeth(13, 0)
	checkProofs(t, []proofCase{
		{"right", one, 8, fit, bentTo(one, 0), true},
		{"lines that touch", one, 8, fit, bentTo(touching, 0), false},
		{"lines that touch, with what their error would be", linesAt(0, 2), 8, fit, bentTo(touching, 0), false},
		{"a line beyond", one, 8, fit, bentTo(beyond, 0), false},
		{"too many lines", one, 60, fit, bentTo(many, 0), false},
		{"an empty line", one, 8, fit, bentTo(linesAt(0, 1, 3, 3), 0), false},
		{"a target that touches", touching, 8, fit, bentTo(one, 0), false},
		{"a target that touches, and the lines", touching, 8, fit, bentTo(touching, 0), false},
		{"a target beyond", beyond, 8, fit, bentTo(one, 0), false},
		{"too many targets", many, 60, fit, bentTo(one, 0), false},
		{"length 0", nil, 0, fit, bentTo(nil, 0), false},
		{"length 61", one, 61, fit, bentTo(one, 0), false},
		{"no weights", one, 8, kernel(1), bentTo(one, 0), false},
		{"nine weights", one, 8, kernel(1, make([]int64, 9)...), bentTo(one, 0), false},
		{"the level 0", one, 8, kernel(0, 1), bentTo(one, 0), false},
		{"a weight of -1", one, 8, kernel(1, 1, -1), bentTo(one, 0), false},
	})
	for code := int64(-2); code <= 9; code++ {
		r := bentTo(one, 0)
		r.Code = code
		checkProofs(t, []proofCase{{"a code", one, 8, fit, r, code == 0}})
	}
}

// Each number of a proof is turned by a little.
func TestTurnedProofs(t *testing.T) {
	chance := rand.New(rand.NewSource(90))
	right, wrong := 0, 0
	for range 400 {
		length := 2 + chance.Int63n(30)
		target, k := someLines(chance, length, 12), someKernel(chance)
		told := impl.CorrectLines(target, length, k, chance.Int63n(31))
		for at := range told.Errors {
			for _, by := range numbers(-2, -1, 1, 2) {
				r := bentTo(told.Lines, slices.Clone(told.Errors)...)
				r.Errors[at] += by
				got := impl.CheckCorrection(target, length, k, r)
				if got != checkBendWant(target, length, k, r) {
					t.Fatalf("%s on %d cells with %v: %s is %v", brief(target), length, k, brief(r), got)
				}
				if got {
					right++
				} else {
					wrong++
				}
			}
		}
		for end := range 2 * len(told.Lines) {
			r := bentTo(movedEnd(told.Lines, end, 1-2*int64(end%2)), told.Errors...)
			if got := impl.CheckCorrection(target, length, k, r); got != checkBendWant(target, length, k, r) {
				t.Fatalf("%s on %d cells with %v: %s is %v", brief(target), length, k, brief(r), got)
			}
		}
	}
	if right == 0 || wrong < 1000 {
		t.Errorf("%d proofs held and %d did not", right, wrong)
	}
}
