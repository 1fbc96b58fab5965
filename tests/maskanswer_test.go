package tests

import (
	"math/rand"
	"slices"
	"testing"

	"loop.example/g00057/impl"
)

// maskAsk has what the calls of chapter 6 are given; each takes what it needs.
type maskAsk struct {
	fill   fillAsk
	s      []impl.Box
	list   []impl.Shot
	w      impl.Writer
	want   int64
	rounds int64
}

// maskAnswer has what a call answers, and else nothing.
type maskAnswer struct {
	number int64
	shape  impl.ShapeResult
	rows   impl.RowsResult
	value  impl.ShapeInt
	doses  impl.DoseResult
}

type maskCall struct {
	name string
	call func(q maskAsk) maskAnswer
}

func maskCalls() []maskCall {
	return []maskCall{
		{"FillArea", func(q maskAsk) maskAnswer { return maskAnswer{shape: q.fill.call()} }},
		{"Fracture", func(q maskAsk) maskAnswer { return maskAnswer{shape: impl.Fracture(q.s, q.fill.size)} }},
		{"ShotsFault", func(q maskAsk) maskAnswer { return maskAnswer{number: impl.ShotsFault(q.list)} }},
		{"CheckShots", func(q maskAsk) maskAnswer { return maskAnswer{number: impl.CheckShots(q.list, q.s)} }},
		{"DoseMap", func(q maskAsk) maskAnswer { return maskAnswer{rows: impl.DoseMap(q.list, q.w.Frame)} }},
		{"WriterFault", func(q maskAsk) maskAnswer { return maskAnswer{number: impl.WriterFault(q.w)} }},
		{"SpreadMap", func(q maskAsk) maskAnswer { return maskAnswer{rows: impl.SpreadMap(q.list, q.w)} }},
		{"DoseError", func(q maskAsk) maskAnswer { return maskAnswer{value: impl.DoseError(q.list, q.w, q.want)} }},
		{"EvenDoses", func(q maskAsk) maskAnswer { return maskAnswer{doses: impl.EvenDoses(q.list, q.w, q.want, q.rounds)} }},
		{"EvenDoses in no rounds", func(q maskAsk) maskAnswer { return maskAnswer{doses: impl.EvenDoses(q.list, q.w, q.want, 0)} }},
	}
}

// mapped has each list of an ask as the functions answer it.
func (q maskAsk) mapped(ofBoxes func([]impl.Box) []impl.Box, ofShots func([]impl.Shot) []impl.Shot) maskAsk {
	q.fill.keep, q.s, q.list = ofBoxes(q.fill.keep), ofBoxes(q.s), ofShots(q.list)
	return q
}

func (q maskAsk) copied() maskAsk {
	return q.mapped(slices.Clone[[]impl.Box], slices.Clone[[]impl.Shot])
}

// roomed has room behind each list, which no call may write into.
func (q maskAsk) roomed() maskAsk {
	return q.mapped(roomy, roomFor(shot(box(-77, -77, 77, 77), 77)))
}

// wholly has what lies behind the ends of the lists, too; it is a copy.
func (q maskAsk) wholly() maskAsk {
	return q.mapped(wholeCopy[impl.Box], wholeCopy[impl.Shot])
}

func (q maskAsk) same(p maskAsk) bool {
	return slices.Equal(q.fill.keep, p.fill.keep) && slices.Equal(q.s, p.s) && slices.Equal(q.list, p.list)
}

func (q maskAsk) scribble() {
	scribble(q.fill.keep)
	scribble(q.s)
	scribbleAll(q.list, shot(box(-5, -6, -7, -8), -5))
}

func (a maskAnswer) same(b maskAnswer) bool {
	return a.number == b.number && a.value == b.value && sameShape(a.shape, b.shape) && sameDoseRows(a.rows, b.rows) && sameDoses(a.doses, b.doses)
}

func (a maskAnswer) scribble() {
	scribble(a.shape.Boxes)
	for _, row := range a.rows.Rows {
		scribbleAll(row, -5)
	}
	scribbleAll(a.rows.Rows, nil)
	scribbleAll(a.doses.Shots, shot(box(-5, -6, -7, -8), -5))
	scribbleAll(a.doses.Errors, -5)
}

// someMaskAsks are right and wrong ones, the same at every run.
func someMaskAsks(n int) []maskAsk {
	chance := rand.New(rand.NewSource(67))
	lists, ends := wildLists(), append(edgePlaces(), doseEnds()...)
	end := func() int64 { return ends[chance.Intn(len(ends))] }
	var asks []maskAsk
	for i := range n {
		q := maskAsk{s: formOfBoxes(someBoxes(chance.Int63(), 4, 7)), list: someMaskShots(chance, i%9, 30), w: someWriter(chance), want: chance.Int63n(300), rounds: chance.Int63n(5)}
		size := 1 + chance.Int63n(3)
		q.fill = fill(box(-9, -8, chance.Int63n(9), chance.Int63n(9)), size, size+chance.Int63n(3), chance.Int63n(3), formOfBoxes(someBoxes(chance.Int63(), 3, 7))...)
		switch i % 9 {
		case 1:
			q.fill.keep, q.s = lists[i%len(lists)], lists[(i*7+3)%len(lists)]
		case 2:
			q.fill.area, q.w.Frame = box(end(), end(), end(), end()), box(end(), end(), end(), end())
		case 3:
			q.fill.size, q.fill.pitch, q.fill.space = end(), end(), end()
		case 4:
			q.w.Own, q.w.Share, q.w.Reach = end(), end(), end()
		case 5:
			q.want, q.rounds = end(), end()
		case 6:
			q.list = append(q.list, shot(box(end(), end(), end(), end()), end()))
		case 7:
			q.list = append(q.list, shot(box(0, 0, 1, 1), end()))
			q.s = formOfBoxes(boxes(box(0, 0, 1, 1)))
		}
		asks = append(asks, q)
	}
	return append(asks, maskAsk{}, greatMask())
}

// greatMask has far too many of all.
func greatMask() maskAsk {
	return maskAsk{fill: fill(box(-10000, -10000, 10000, 10000), 1, 1, 0), s: make([]impl.Box, 3000), list: make([]impl.Shot, 3000), w: writer(box(0, 0, 24, 24), 1, 1, 4), want: 5, rounds: 50}
}

func TestEveryMaskAskIsAnswered(t *testing.T) {
	for _, q := range someMaskAsks(1800) {
		roomed := q.roomed()
		kept := roomed.wholly()
		for _, c := range maskCalls() {
			got := c.call(roomed)
			if !got.same(c.call(roomed)) || !got.same(c.call(q.copied())) {
				t.Fatalf("%s of %s has two answers", c.name, brief(q))
			}
			if !roomed.wholly().same(kept) {
				t.Fatalf("%s changed what it was given, %s", c.name, brief(q))
			}
		}
	}
}

// maskWant answers by the plain reckoning.
func maskWant(q maskAsk) []maskAnswer {
	return []maskAnswer{
		{shape: fillWant(q.fill)},
		{shape: fractureWant(q.s, q.fill.size)},
		{number: shotsFaultWant(q.list)},
		{number: checkShotsWant(q.list, q.s)},
		{rows: doseMapWant(q.list, q.w.Frame)},
		{number: writerFaultWant(q.w)},
		{rows: spreadMapWant(q.list, q.w)},
		{value: doseErrorWant(q.list, q.w, q.want)},
		{doses: evenWant(q.list, q.w, q.want, q.rounds)},
		{doses: evenWant(q.list, q.w, q.want, 0)},
	}
}

func TestEveryMaskAskIsAnsweredRightly(t *testing.T) {
	met := map[int64]int{}
	for _, q := range someMaskAsks(700) {
		wanted := maskWant(q)
		for i, c := range maskCalls() {
			got := c.call(q)
			if !got.same(wanted[i]) {
				t.Fatalf("%s of %s: %s, want %s", c.name, brief(q), brief(got), brief(wanted[i]))
			}
			met[got.number+got.shape.Code+got.rows.Code+got.value.Code+got.doses.Code]++
		}
	}
	if min(met[impl.OK], met[impl.ErrForm], met[impl.ErrMany], met[impl.ErrRange], met[impl.ErrNone], met[impl.ErrTaken]) < 50 {
		t.Errorf("the codes are %v", met)
	}
}

func TestZeroBesideACodeOfMasks(t *testing.T) {
	for _, q := range someMaskAsks(1800) {
		for _, c := range maskCalls() {
			got := c.call(q)
			wrong := got.shape.Code != impl.OK && len(got.shape.Boxes) > 0 || got.rows.Code != impl.OK && len(got.rows.Rows) > 0
			wrong = wrong || got.value.Code != impl.OK && got.value.Value != 0 || got.doses.Code != impl.OK && len(got.doses.Shots)+len(got.doses.Errors) > 0
			if wrong {
				t.Errorf("%s of %s has a code, and more", c.name, brief(q))
			}
		}
	}
}

func TestMasksAnswerNewMemory(t *testing.T) {
	for _, q := range someMaskAsks(900) {
		for _, c := range maskCalls() {
			roomed := q.roomed()
			kept := roomed.wholly()
			first, second, third := c.call(roomed), c.call(roomed), c.call(q.copied())
			first.scribble()
			if !roomed.wholly().same(kept) {
				t.Fatalf("an answer of %s, %s, has memory of what was given", c.name, brief(q))
			}
			if !second.same(third) || !c.call(roomed).same(third) {
				t.Fatalf("two answers of %s, %s, share memory", c.name, brief(q))
			}
			roomed.scribble()
			if !second.same(third) {
				t.Fatalf("an answer of %s, %s, hangs on what was given", c.name, brief(q))
			}
		}
	}
}

// The rows of one answer: what is put into one, or behind it, is not seen in another.
func TestRowsOfOneMapAreApart(t *testing.T) {
	many := 0
	ask := maskAsk{list: longer(shots(shot(box(0, 0, 24, 24), 3)), 40), w: writer(box(0, 0, 24, 24), 1, 1, 4)}
	for _, q := range append(someMaskAsks(300), ask) {
		for _, c := range maskCalls() {
			for i := range c.call(q).rows.Rows {
				got, want := c.call(q).rows, c.call(q).rows
				scribbleAll(got.Rows[i], -5)
				got.Rows[i] = want.Rows[i]
				if !sameDoseRows(got, want) {
					t.Fatalf("row %d of an answer of %s, %s, is another one, too", i, c.name, brief(q))
				}
				many = max(many, len(got.Rows))
			}
		}
	}
	if many != 24 {
		t.Errorf("the highest map has %d rows", many)
	}
}

func TestNoMaskIsNoMask(t *testing.T) {
	bare := maskAsk{fill: fill(box(0, 0, 4, 4), 1, 2, 1), w: writer(box(0, 0, 2, 2), 1, 1, 1), want: 7, rounds: 3}
	empty := bare
	empty.fill.keep, empty.s, empty.list = []impl.Box{}, []impl.Box{}, []impl.Shot{}
	for i, c := range maskCalls() {
		if !c.call(bare).same(c.call(empty)) || !c.call(bare).same(maskWant(bare)[i]) {
			t.Errorf("%s: nil and an empty list differ", c.name)
		}
	}
}
