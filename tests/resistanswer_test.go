package tests

import (
	"math/rand"
	"slices"
	"testing"

	"loop.example/g00057/impl"
)

// resistAsk has what the calls of chapter 9 are given; each takes what it needs.
type resistAsk struct {
	rows, times          [][]int64
	table                []int64
	share, layers, steps int64
	level                int64
}

// resistAnswer has what a call answers, and else nothing.
type resistAnswer struct {
	holds  bool
	number int64
	value  impl.ShapeInt
	rows   impl.RowsResult
	depths impl.DepthResult
}

type resistCall struct {
	name string
	call func(q resistAsk) resistAnswer
	want func(q resistAsk) resistAnswer
}

// resistCalls stand beside what the plain reckoning answers.
func resistCalls() []resistCall {
	return []resistCall{
		{"GridFault",
			func(q resistAsk) resistAnswer { return resistAnswer{number: impl.GridFault(q.rows)} },
			func(q resistAsk) resistAnswer { return resistAnswer{number: gridFaultWant(q.rows, mostValue)} }},
		{"SumOf",
			func(q resistAsk) resistAnswer { return resistAnswer{value: impl.SumOf(q.rows)} },
			func(q resistAsk) resistAnswer { return resistAnswer{value: gridSumWant(q.rows)} }},
		{"ExposeDepth",
			func(q resistAsk) resistAnswer {
				return resistAnswer{depths: impl.ExposeDepth(q.rows, q.share, q.layers)}
			},
			func(q resistAsk) resistAnswer { return resistAnswer{depths: exposeWant(q.rows, q.share, q.layers)} }},
		{"Diffuse",
			func(q resistAsk) resistAnswer { return resistAnswer{rows: impl.Diffuse(q.rows, q.share, q.steps)} },
			func(q resistAsk) resistAnswer { return resistAnswer{rows: diffuseWant(q.rows, q.share, q.steps)} }},
		{"Diffuse in no steps",
			func(q resistAsk) resistAnswer { return resistAnswer{rows: impl.Diffuse(q.rows, q.share, 0)} },
			func(q resistAsk) resistAnswer { return resistAnswer{rows: diffuseWant(q.rows, q.share, 0)} }},
		{"CutGrid",
			func(q resistAsk) resistAnswer { return resistAnswer{rows: impl.CutGrid(q.rows, q.level)} },
			func(q resistAsk) resistAnswer { return resistAnswer{rows: cutWant(q.rows, q.level)} }},
		{"RatesOf",
			func(q resistAsk) resistAnswer { return resistAnswer{rows: impl.RatesOf(q.rows, q.table)} },
			func(q resistAsk) resistAnswer { return resistAnswer{rows: ratesWant(q.rows, q.table)} }},
		{"DevelopTimes",
			func(q resistAsk) resistAnswer { return resistAnswer{rows: impl.DevelopTimes(q.rows)} },
			func(q resistAsk) resistAnswer { return resistAnswer{rows: frontWant(q.rows)} }},
		{"CheckTimes",
			func(q resistAsk) resistAnswer { return resistAnswer{holds: impl.CheckTimes(q.rows, q.times)} },
			func(q resistAsk) resistAnswer { return resistAnswer{holds: checkTimesWant(q.rows, q.times)} }},
		{"CheckTimes of one list",
			func(q resistAsk) resistAnswer { return resistAnswer{holds: impl.CheckTimes(q.rows, q.rows)} },
			func(q resistAsk) resistAnswer { return resistAnswer{holds: checkTimesWant(q.rows, q.rows)} }},
		{"OpenAt",
			func(q resistAsk) resistAnswer { return resistAnswer{rows: impl.OpenAt(q.times, q.level)} },
			func(q resistAsk) resistAnswer { return resistAnswer{rows: openWant(q.times, q.level)} }},
	}
}

// mapped has each list of an ask as the functions answer it.
func (q resistAsk) mapped(ofRows func([][]int64) [][]int64, ofNumbers func([]int64) []int64) resistAsk {
	inner := func(rows [][]int64) [][]int64 {
		out := ofRows(rows)
		for i := range out {
			out[i] = ofNumbers(out[i])
		}
		return out
	}
	q.rows, q.times, q.table = inner(q.rows), inner(q.times), ofNumbers(q.table)
	return q
}

func (q resistAsk) copied() resistAsk {
	return q.mapped(slices.Clone[[][]int64], slices.Clone[[]int64])
}

// roomed has room behind each list, and each within it, which no call may write into.
func (q resistAsk) roomed() resistAsk {
	return q.mapped(roomFor(numbers(77, 77)), roomFor(int64(77)))
}

// wholly has what lies behind the ends of the lists, too; it is a copy.
func (q resistAsk) wholly() resistAsk {
	return q.mapped(wholeCopy[[]int64], wholeCopy[int64])
}

func (q resistAsk) same(p resistAsk) bool {
	return sameGrid(q.rows, p.rows) && sameGrid(q.times, p.times) && slices.Equal(q.table, p.table)
}

func scribbleGrid(rows [][]int64) {
	for _, row := range rows {
		scribbleAll(row, -5)
	}
	scribbleAll(rows, nil)
}

func (q resistAsk) scribble() {
	scribbleGrid(q.rows)
	scribbleGrid(q.times)
	scribbleAll(q.table, -5)
}

func (a resistAnswer) same(b resistAnswer) bool {
	return a.holds == b.holds && a.number == b.number && a.value == b.value && sameDoseRows(a.rows, b.rows) && sameDepths(a.depths, b.depths)
}

func (a resistAnswer) scribble() {
	scribbleGrid(a.rows.Rows)
	scribbleGrid(a.depths.Below)
	for _, layer := range a.depths.Layers {
		scribbleGrid(layer)
	}
	scribbleAll(a.depths.Layers, nil)
}

// grids are the grids within an answer, not copies of them.
func (a resistAnswer) grids() [][][]int64 {
	return append([][][]int64{a.rows.Rows, a.depths.Below}, a.depths.Layers...)
}

// code is what a call tells beside a list, or as its answer.
func (a resistAnswer) code() int64 {
	return a.number + a.value.Code + a.rows.Code + a.depths.Code
}

// someResistAsks are right and wrong ones, the same at every run.
func someResistAsks(n int) []resistAsk {
	chance := rand.New(rand.NewSource(92))
	ends := resistEnds()
	end := func() int64 { return ends[chance.Intn(len(ends))] }
	var asks []resistAsk
	for i := range n {
		high, wide := 1+chance.Intn(5), 1+chance.Intn(5)
		q := resistAsk{rows: someGrid(chance, high, wide, numbers(3, 99, mostValue)[i%3]), table: someGrid(chance, 1, 1+chance.Intn(5), mostValue)[0]}
		q.times = frontWant(q.rows).Rows
		q.share, q.layers, q.steps, q.level = chance.Int63n(17), 1+chance.Int63n(4), chance.Int63n(4), chance.Int63n(99)
		switch i % 10 {
		case 1:
			q.rows = with(q.rows, chance.Intn(wide), chance.Intn(high), end())
		case 2:
			q.times = with(q.times, chance.Intn(wide), chance.Intn(high), end())
		case 3:
			y := chance.Intn(high)
			q.rows[y] = longer(q.rows[y], chance.Intn(19))
			q.times[y] = longer(q.times[y], chance.Intn(19))
		case 4:
			q.rows, q.times = longer(q.rows, 14+chance.Intn(5)), longer(q.times, 14+chance.Intn(5))
		case 5:
			q.share, q.layers, q.steps = end(), end(), end()
		case 6:
			q.table = longer(append(q.table, end()), chance.Intn(70))
		case 7:
			q.level = end()
		case 8:
			q.rows = someGrid(chance, 1+chance.Intn(17), 1+chance.Intn(17), mostValue)
		}
		asks = append(asks, q)
	}
	return append(asks, resistAsk{}, greatResist(), fullResist())
}

// greatResist has far too many of all.
func greatResist() resistAsk {
	rows := filled(300, 300, 1)
	return resistAsk{rows: rows, times: rows, table: make([]int64, 3000), share: 16, layers: 8, steps: 20, level: 1}
}

// fullResist has as much as there may be.
func fullResist() resistAsk {
	return resistAsk{rows: filled(16, 16, mostValue), times: filled(16, 16, mostTime), table: slices.Repeat(numbers(mostValue), 64), share: 16, layers: 8, steps: 20, level: mostTime}
}

func TestEveryResistAskIsAnswered(t *testing.T) {
	for _, q := range someResistAsks(1000) {
		roomed := q.roomed()
		kept := roomed.wholly()
		for _, c := range resistCalls() {
			got := c.call(roomed)
			if !got.same(c.call(roomed)) || !got.same(c.call(q.copied())) {
				t.Fatalf("%s of %s has two answers", c.name, brief(q))
			}
			if !roomed.wholly().same(kept) {
				t.Fatalf("%s changed what it was given, %s", c.name, brief(q))
			}
		}
	}
}

func TestEveryResistAskIsAnsweredRightly(t *testing.T) {
	met, held := map[int64]int{}, map[bool]int{}
	for _, q := range someResistAsks(1000) {
		for _, c := range resistCalls() {
			got, want := c.call(q), c.want(q)
			if !got.same(want) {
				t.Fatalf("%s of %s: %s, want %s", c.name, brief(q), brief(got), brief(want))
			}
			met[got.code()]++
			held[got.holds]++
		}
	}
	if min(met[impl.OK], met[impl.ErrForm], met[impl.ErrMany], met[impl.ErrRange], held[true]) < 50 {
		t.Errorf("the codes are %v, and %d times held", met, held[true])
	}
}

func TestZeroBesideACodeOfResist(t *testing.T) {
	for _, q := range someResistAsks(1000) {
		for _, c := range resistCalls() {
			got := c.call(q)
			if got.code() != impl.OK && (got.value.Value != 0 || len(got.rows.Rows)+len(got.depths.Layers)+len(got.depths.Below) > 0) {
				t.Errorf("%s of %s has a code, and more", c.name, brief(q))
			}
		}
	}
}

func TestResistAnswersNewMemory(t *testing.T) {
	for _, q := range someResistAsks(500) {
		for _, c := range resistCalls() {
			roomed := q.roomed()
			kept := roomed.wholly()
			first, second, third := c.call(roomed), c.call(roomed), c.call(q.copied())
			first.scribble()
			if !roomed.wholly().same(kept) {
				t.Fatalf("an answer of %s, %s, has memory of what was given", c.name, brief(q))
			}
			if !second.same(third) || !c.call(roomed).same(third) {
				t.Fatalf("two answers of %s, %s, share memory", c.name, brief(q))
			}
			roomed.scribble()
			if !second.same(third) {
				t.Fatalf("an answer of %s, %s, hangs on what was given", c.name, brief(q))
			}
		}
	}
}

// Each row of an answer, and the room behind it, is its own, and so is each layer.
func TestRowsOfOneResistAnswerAreApart(t *testing.T) {
	for _, q := range someResistAsks(200) {
		for _, c := range resistCalls() {
			got := c.call(q)
			mark := int64(-100)
			for _, rows := range got.grids() {
				for _, row := range rows {
					mark--
					scribbleAll(row, mark)
				}
			}
			mark = -100
			for _, rows := range got.grids() {
				for _, row := range rows {
					mark--
					if slices.Min(row) != mark || slices.Max(row) != mark {
						t.Fatalf("two rows of %s, %s, share memory", c.name, brief(q))
					}
				}
			}
			for i, rows := range got.grids() {
				scribbleAll(rows, numbers(int64(i)))
			}
			for i, rows := range got.grids() {
				if len(rows) > 0 && !slices.Equal(rows[0], numbers(int64(i))) {
					t.Fatalf("two grids of %s, %s, share memory", c.name, brief(q))
				}
			}
		}
	}
}

// Every end stands once in each place where a number is given.
func TestEveryEndOfResist(t *testing.T) {
	bare := resistAsk{rows: grid(numbers(1, 9), numbers(3, 4)), times: grid(numbers(1, 9), numbers(4, 8)), table: numbers(5, 3), share: 9, layers: 2, steps: 2, level: 4}
	for _, n := range resistEnds() {
		asks := slices.Repeat([]resistAsk{bare}, 9)
		asks[0].rows = with(bare.rows, 0, 0, n)
		asks[1].rows = with(bare.rows, 1, 1, n)
		asks[2].times = with(bare.times, 0, 1, n)
		asks[3].table = numbers(5, n)
		asks[4].share = n
		asks[5].layers = n
		asks[6].steps = n
		asks[7].level = n
		asks[8].rows = filled(1, int(clampedTo(n, 0, 300)), 1)
		for _, q := range asks {
			for _, c := range resistCalls() {
				if got, want := c.call(q), c.want(q); !got.same(want) {
					t.Fatalf("%s of %s: %s, want %s", c.name, brief(q), brief(got), brief(want))
				}
			}
		}
	}
}

func TestNoResistIsNoResist(t *testing.T) {
	bare := resistAsk{share: 1, layers: 1, steps: 1}
	empty := bare
	empty.rows, empty.times, empty.table = [][]int64{}, [][]int64{}, []int64{}
	hollow, hollowToo := bare, bare
	hollow.rows, hollow.times = grid(nil), grid(numbers(1), nil)
	hollowToo.rows, hollowToo.times = grid(numbers()), grid(numbers(1), numbers())
	some, someToo := bare, bare
	some.rows, someToo.rows, someToo.table = grid(numbers(1)), grid(numbers(1)), []int64{}
	for _, pair := range [][2]resistAsk{{bare, empty}, {hollow, hollowToo}, {some, someToo}} {
		for _, c := range resistCalls() {
			if !c.call(pair[0]).same(c.call(pair[1])) || !c.call(pair[0]).same(c.want(pair[0])) {
				t.Errorf("%s: nil and an empty list differ", c.name)
			}
		}
	}
}
