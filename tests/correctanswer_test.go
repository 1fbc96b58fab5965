package tests

import (
	"math/rand"
	"slices"
	"testing"

	"loop.example/g00057/impl"
)

// correctAsk has what the calls of chapter 8 are given; each takes what it needs.
type correctAsk struct {
	target, list []impl.Line
	length       int64
	k            impl.Kernel
	gap, width   int64
	rounds       int64
	r            impl.CorrectResult
}

// correctAnswer has what a call answers, and else nothing.
type correctAnswer struct {
	holds  bool
	number int64
	ints   impl.IntsResult
	lines  impl.LinesResult
	value  impl.ShapeInt
	bent   impl.CorrectResult
}

type correctCall struct {
	name string
	call func(q correctAsk) correctAnswer
	want func(q correctAsk) correctAnswer
}

// correctCalls stand beside what the plain reckoning answers.
func correctCalls() []correctCall {
	return []correctCall{
		{"LinesFault",
			func(q correctAsk) correctAnswer { return correctAnswer{number: impl.LinesFault(q.list, q.length)} },
			func(q correctAsk) correctAnswer { return correctAnswer{number: linesFaultWant(q.list, q.length)} }},
		{"KernelFault",
			func(q correctAsk) correctAnswer { return correctAnswer{number: impl.KernelFault(q.k)} },
			func(q correctAsk) correctAnswer { return correctAnswer{number: kernelFaultWant(q.k)} }},
		{"IntensityOf",
			func(q correctAsk) correctAnswer { return correctAnswer{ints: impl.IntensityOf(q.list, q.length, q.k)} },
			func(q correctAsk) correctAnswer { return correctAnswer{ints: intensityWant(q.list, q.length, q.k)} }},
		{"PrintOf",
			func(q correctAsk) correctAnswer { return correctAnswer{lines: impl.PrintOf(q.list, q.length, q.k)} },
			func(q correctAsk) correctAnswer { return correctAnswer{lines: printWant(q.list, q.length, q.k)} }},
		{"PrintError",
			func(q correctAsk) correctAnswer {
				return correctAnswer{value: impl.PrintError(q.target, q.list, q.length, q.k)}
			},
			func(q correctAsk) correctAnswer {
				return correctAnswer{value: printErrorWant(q.target, q.list, q.length, q.k)}
			}},
		{"PrintError of one list",
			func(q correctAsk) correctAnswer {
				return correctAnswer{value: impl.PrintError(q.list, q.list, q.length, q.k)}
			},
			func(q correctAsk) correctAnswer {
				return correctAnswer{value: printErrorWant(q.list, q.list, q.length, q.k)}
			}},
		{"AssistOf",
			func(q correctAsk) correctAnswer {
				return correctAnswer{lines: impl.AssistOf(q.list, q.length, q.gap, q.width)}
			},
			func(q correctAsk) correctAnswer {
				return correctAnswer{lines: assistWant(q.list, q.length, q.gap, q.width)}
			}},
		{"CorrectLines",
			func(q correctAsk) correctAnswer {
				return correctAnswer{bent: impl.CorrectLines(q.target, q.length, q.k, q.rounds)}
			},
			func(q correctAsk) correctAnswer {
				return correctAnswer{bent: bendWant(q.target, q.length, q.k, q.rounds)}
			}},
		{"CorrectLines in no rounds",
			func(q correctAsk) correctAnswer {
				return correctAnswer{bent: impl.CorrectLines(q.target, q.length, q.k, 0)}
			},
			func(q correctAsk) correctAnswer { return correctAnswer{bent: bendWant(q.target, q.length, q.k, 0)} }},
		{"CheckCorrection",
			func(q correctAsk) correctAnswer {
				return correctAnswer{holds: impl.CheckCorrection(q.target, q.length, q.k, q.r)}
			},
			func(q correctAsk) correctAnswer {
				return correctAnswer{holds: checkBendWant(q.target, q.length, q.k, q.r)}
			}},
		{"CheckCorrection of one list",
			func(q correctAsk) correctAnswer {
				return correctAnswer{holds: impl.CheckCorrection(q.r.Lines, q.length, q.k, q.r)}
			},
			func(q correctAsk) correctAnswer {
				return correctAnswer{holds: checkBendWant(q.r.Lines, q.length, q.k, q.r)}
			}},
	}
}

// mapped has each list of an ask as the functions answer it.
func (q correctAsk) mapped(ofLines func([]impl.Line) []impl.Line, ofNumbers func([]int64) []int64) correctAsk {
	q.target, q.list, q.r.Lines = ofLines(q.target), ofLines(q.list), ofLines(q.r.Lines)
	q.k.Weights, q.r.Errors = ofNumbers(q.k.Weights), ofNumbers(q.r.Errors)
	return q
}

func (q correctAsk) copied() correctAsk {
	return q.mapped(slices.Clone[[]impl.Line], slices.Clone[[]int64])
}

// roomed has room behind each list, which no call may write into.
func (q correctAsk) roomed() correctAsk {
	return q.mapped(roomFor(line(77, 78)), roomFor(int64(77)))
}

// wholly has what lies behind the ends of the lists, too; it is a copy.
func (q correctAsk) wholly() correctAsk {
	return q.mapped(wholeCopy[impl.Line], wholeCopy[int64])
}

func (q correctAsk) same(p correctAsk) bool {
	return slices.Equal(q.target, p.target) && slices.Equal(q.list, p.list) && slices.Equal(q.k.Weights, p.k.Weights) && sameBent(q.r, p.r)
}

func (q correctAsk) scribble() {
	for _, list := range [][]impl.Line{q.target, q.list, q.r.Lines} {
		scribbleAll(list, line(-5, -6))
	}
	scribbleAll(q.k.Weights, -5)
	scribbleAll(q.r.Errors, -5)
}

func (a correctAnswer) same(b correctAnswer) bool {
	return a.holds == b.holds && a.number == b.number && a.value == b.value && sameInts(a.ints, b.ints) && sameLines(a.lines, b.lines) && sameBent(a.bent, b.bent)
}

func (a correctAnswer) scribble() {
	scribbleAll(a.ints.List, -5)
	scribbleAll(a.lines.Lines, line(-5, -6))
	scribbleAll(a.bent.Lines, line(-5, -6))
	scribbleAll(a.bent.Errors, -5)
}

// code is what a call tells beside a list, or as its answer.
func (a correctAnswer) code() int64 {
	return a.number + a.ints.Code + a.lines.Code + a.value.Code + a.bent.Code
}

// someCorrectAsks are right and wrong ones, the same at every run.
func someCorrectAsks(n int) []correctAsk {
	chance := rand.New(rand.NewSource(91))
	ends := correctEnds()
	end := func() int64 { return ends[chance.Intn(len(ends))] }
	var asks []correctAsk
	for i := range n {
		length := 1 + chance.Int63n(30)
		q := correctAsk{target: someLines(chance, length, 12), list: someLines(chance, length, 12), length: length, k: someKernel(chance)}
		q.gap, q.width, q.rounds = 1+chance.Int63n(5), 1+chance.Int63n(4), chance.Int63n(4)
		q.r = bendWant(q.target, q.length, q.k, q.rounds)
		switch i % 10 {
		case 1:
			q.length = end()
		case 2:
			q.list = append(q.list, line(end(), end()))
			q.r.Lines = append(q.r.Lines, line(end(), end()))
		case 3:
			q.target = append(q.target, line(end(), end()))
			q.r.Code = chance.Int63n(2)
		case 4:
			q.k.Weights = longer(append(q.k.Weights, end()), 1+chance.Intn(10))
		case 5:
			q.k.Level = end()
		case 6:
			q.gap, q.width, q.rounds = end(), end(), end()
		case 7:
			q.list, q.target, q.length = teeth(9+chance.Intn(5), 0), teeth(9+chance.Intn(5), 0), 60
		case 8:
			q.r.Errors = append(q.r.Errors, end())
		}
		asks = append(asks, q)
	}
	return append(asks, correctAsk{}, greatCorrect(), fullCorrect())
}

// greatCorrect has far too many of all.
func greatCorrect() correctAsk {
	lines, counts := make([]impl.Line, 3000), make([]int64, 3000)
	return correctAsk{target: lines, list: lines, length: 60, k: kernel(1, counts...), gap: 1, width: 1, rounds: 30, r: bentTo(lines, counts...)}
}

// fullCorrect has as much as there may be, and a long list of errors.
func fullCorrect() correctAsk {
	errors := make([]int64, 3000)
	for i := range errors {
		errors[i] = int64(len(errors) - i)
	}
	return correctAsk{target: teeth(12, 30), list: teeth(12, 37), length: 60, k: kernel(3000, slices.Repeat(numbers(1000), 8)...), gap: 60, width: 60, rounds: 30, r: bentTo(teeth(12, 1), errors...)}
}

func TestEveryCorrectAskIsAnswered(t *testing.T) {
	for _, q := range someCorrectAsks(2000) {
		roomed := q.roomed()
		kept := roomed.wholly()
		for _, c := range correctCalls() {
			got := c.call(roomed)
			if !got.same(c.call(roomed)) || !got.same(c.call(q.copied())) {
				t.Fatalf("%s of %s has two answers", c.name, brief(q))
			}
			if !roomed.wholly().same(kept) {
				t.Fatalf("%s changed what it was given, %s", c.name, brief(q))
			}
		}
	}
}

func TestEveryCorrectAskIsAnsweredRightly(t *testing.T) {
	met, held := map[int64]int{}, map[bool]int{}
	for _, q := range someCorrectAsks(1000) {
		for _, c := range correctCalls() {
			got, want := c.call(q), c.want(q)
			if !got.same(want) {
				t.Fatalf("%s of %s: %s, want %s", c.name, brief(q), brief(got), brief(want))
			}
			met[got.code()]++
			held[got.holds]++
		}
	}
	if min(met[impl.OK], met[impl.ErrForm], met[impl.ErrMany], met[impl.ErrRange], held[true]) < 50 {
		t.Errorf("the codes are %v, and %d proofs held", met, held[true])
	}
}

func TestZeroBesideACodeOfCorrections(t *testing.T) {
	for _, q := range someCorrectAsks(2000) {
		for _, c := range correctCalls() {
			got := c.call(q)
			if got.code() != impl.OK && (got.value.Value != 0 || len(got.ints.List)+len(got.lines.Lines)+len(got.bent.Lines)+len(got.bent.Errors) > 0) {
				t.Errorf("%s of %s has a code, and more", c.name, brief(q))
			}
		}
	}
}

func TestCorrectionsAnswerNewMemory(t *testing.T) {
	for _, q := range someCorrectAsks(1000) {
		for _, c := range correctCalls() {
			roomed := q.roomed()
			kept := roomed.wholly()
			first, second, third := c.call(roomed), c.call(roomed), c.call(q.copied())
			first.scribble()
			if !roomed.wholly().same(kept) {
				t.Fatalf("an answer of %s, %s, has memory of what was given", c.name, brief(q))
			}
			if !second.same(third) || !c.call(roomed).same(third) {
				t.Fatalf("two answers of %s, %s, share memory", c.name, brief(q))
			}
			roomed.scribble()
			if !second.same(third) {
				t.Fatalf("an answer of %s, %s, hangs on what was given", c.name, brief(q))
			}
		}
	}
}

// Every end stands once in each place where a number is given.
func TestEveryEndOfCorrections(t *testing.T) {
	bare := correctAsk{target: linesAt(1, 3, 5, 6), list: linesAt(1, 3, 7, 8), length: 10, k: kernel(3, 2, 1), gap: 2, width: 1, rounds: 2}
	bare.r = bendWant(bare.target, bare.length, bare.k, bare.rounds)
	for _, n := range correctEnds() {
		asks := slices.Repeat([]correctAsk{bare}, 12)
		asks[0].length = n
		asks[1].target = linesAt(n, 3, 5, 6)
		asks[2].target = linesAt(1, n, 5, 6)
		asks[3].list = linesAt(1, 3, n, 8)
		asks[4].list = linesAt(1, 3, 7, n)
		asks[5].k = kernel(3, 2, n)
		asks[6].k = kernel(n, 2, 1)
		asks[7].gap = n
		asks[8].width = n
		asks[9].rounds = n
		asks[10].r.Code = n
		asks[11].r.Errors = append(slices.Clone(bare.r.Errors), n)
		for _, q := range asks {
			for _, c := range correctCalls() {
				if got, want := c.call(q), c.want(q); !got.same(want) {
					t.Fatalf("%s of %s: %s, want %s", c.name, brief(q), brief(got), brief(want))
				}
			}
		}
	}
}

func TestNoLineIsNoLine(t *testing.T) {
	for _, bare := range []correctAsk{{}, {length: 5, k: kernel(1, 1), gap: 1, width: 1, rounds: 3}, {length: 5, k: kernel(1, 1), gap: 1, width: 1, r: bentTo(nil, 0)}} {
		empty := bare
		empty.target, empty.list, empty.r.Lines = []impl.Line{}, []impl.Line{}, []impl.Line{}
		if len(bare.k.Weights) == 0 {
			empty.k.Weights = []int64{}
		}
		if len(bare.r.Errors) == 0 {
			empty.r.Errors = []int64{}
		}
		for _, c := range correctCalls() {
			if !c.call(bare).same(c.call(empty)) || !c.call(bare).same(c.want(bare)) {
				t.Errorf("%s: nil and an empty list differ", c.name)
			}
		}
	}
}
