package tests

import (
	"runtime"
	"slices"
	"testing"
	"time"

	"loop.example/g00057/impl"
)

// askLike is what all calls of a chapter are given together.
type askLike[Q any] interface {
	// copied shares no memory with the ask.
	copied() Q
	// roomed has room behind each list, and each within it, which no call may write into.
	roomed() Q
	// wholly has what lies behind the ends of the lists, too; it is a copy.
	wholly() Q
	same(other Q) bool
	scribble()
}

// answerLike is what any call of a chapter may answer.
type answerLike[A any] interface {
	same(other A) bool
	scribble()
	code() int64
	// zeroed tells whether there is nothing beside the code.
	zeroed() bool
}

// callLike stands beside what the plain reckoning answers.
type callLike[Q askLike[Q], A answerLike[A]] struct {
	name string
	call func(q Q) A
	want func(q Q) A
}

// checkSteady asks twice, and a third time with a copy; what was given stays as it was.
func checkSteady[Q askLike[Q], A answerLike[A]](t *testing.T, asks []Q, calls []callLike[Q, A]) {
	t.Helper()
	for _, q := range asks {
		roomed := q.roomed()
		kept := roomed.wholly()
		for _, c := range calls {
			got := c.call(roomed)
			if !got.same(c.call(roomed)) || !got.same(c.call(q.copied())) {
				t.Fatalf("%s of %s has two answers", c.name, brief(q))
			}
			if !roomed.wholly().same(kept) {
				t.Fatalf("%s changed what it was given, %s", c.name, brief(q))
			}
		}
	}
}

// checkRightly hands on what was answered.
func checkRightly[Q askLike[Q], A answerLike[A]](t *testing.T, asks []Q, calls []callLike[Q, A]) []A {
	t.Helper()
	var answers []A
	for _, q := range asks {
		for _, c := range calls {
			got, want := c.call(q), c.want(q)
			if !got.same(want) {
				t.Fatalf("%s of %s: %s, want %s", c.name, brief(q), brief(got), brief(want))
			}
			answers = append(answers, got)
		}
	}
	return answers
}

// checkCodesMet asks for each of these codes, and for answers that hold, fifty times at least.
func checkCodesMet[A answerLike[A]](t *testing.T, answers []A, holds func(a A) bool, codes ...int64) {
	t.Helper()
	met, held := map[int64]int{}, 0
	for _, a := range answers {
		met[a.code()]++
		if holds(a) {
			held++
		}
	}
	for _, code := range codes {
		if met[code] < 50 || held < 50 {
			t.Errorf("the codes are %v, and %d times it held", met, held)
		}
	}
}

func checkZeroed[Q askLike[Q], A answerLike[A]](t *testing.T, asks []Q, calls []callLike[Q, A]) {
	t.Helper()
	for _, q := range asks {
		for _, c := range calls {
			if got := c.call(q); got.code() != impl.OK && !got.zeroed() {
				t.Errorf("%s of %s has a code, and more", c.name, brief(q))
			}
		}
	}
}

// checkNewMemory: what is done to an answer, or to what was given, turns no other answer.
func checkNewMemory[Q askLike[Q], A answerLike[A]](t *testing.T, asks []Q, calls []callLike[Q, A]) {
	t.Helper()
	for _, q := range asks {
		for _, c := range calls {
			roomed := q.roomed()
			kept := roomed.wholly()
			first, second, third := c.call(roomed), c.call(roomed), c.call(q.copied())
			first.scribble()
			if !roomed.wholly().same(kept) {
				t.Fatalf("an answer of %s, %s, has memory of what was given", c.name, brief(q))
			}
			if !second.same(third) || !c.call(roomed).same(third) {
				t.Fatalf("two answers of %s, %s, share memory", c.name, brief(q))
			}
			roomed.scribble()
			if !second.same(third) {
				t.Fatalf("an answer of %s, %s, hangs on what was given", c.name, brief(q))
			}
		}
	}
}

// checkKeepsNothing: what was asked ahead of a call, by whichever of them, turns no answer.
func checkKeepsNothing[Q askLike[Q], A answerLike[A]](t *testing.T, asks []Q, calls []callLike[Q, A]) {
	t.Helper()
	var first []A
	for _, q := range asks {
		for _, c := range calls {
			first = append(first, c.call(q))
		}
	}
	for i := len(asks) - 1; i >= 0; i-- {
		for k := len(calls) - 1; k >= 0; k-- {
			if !calls[k].call(asks[i]).same(first[i*len(calls)+k]) {
				t.Fatalf("%s of %s has two answers", calls[k].name, brief(asks[i]))
			}
		}
	}
}

// checkNoneIsNone: nil and an empty list are one value.
func checkNoneIsNone[Q askLike[Q], A answerLike[A]](t *testing.T, pairs [][2]Q, calls []callLike[Q, A]) {
	t.Helper()
	for _, pair := range pairs {
		for _, c := range calls {
			if !c.call(pair[0]).same(c.call(pair[1])) || !c.call(pair[0]).same(c.want(pair[0])) {
				t.Errorf("%s: nil and an empty list differ", c.name)
			}
		}
	}
}

// checkApart: what is done to one list of an answer, up to the end of its memory, turns no other one of it.
func checkApart[T any](t *testing.T, what string, lists [][]T, fill T, same func(a []T, b []T) bool) {
	t.Helper()
	var kept [][]T
	for _, list := range lists {
		kept = append(kept, slices.Clone(list))
	}
	for i, list := range lists {
		scribbleAll(list, fill)
		for j, other := range lists {
			if j != i && !same(other, kept[j]) {
				t.Fatalf("the lists %d and %d of %s share memory", i, j, what)
			}
		}
		copy(list, kept[i])
	}
}

// checkNoWorkerStays waits a while: one that has done its work may not be gone yet.
func checkNoWorkerStays(t *testing.T, before int) {
	t.Helper()
	for range 200 {
		if runtime.NumGoroutine() <= before {
			return
		}
		time.Sleep(5 * time.Millisecond)
	}
	t.Errorf("there were %d workers, now there are %d", before, runtime.NumGoroutine())
}
