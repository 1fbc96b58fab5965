package tests

import (
	"math/rand"
	"slices"
	"testing"

	"loop.example/g00057/impl"
)

// netAsk has what the calls of chapter 5 are given; each takes what it needs.
type netAsk struct {
	w            impl.Wiring
	layer, x, y  int64
	poly, active []impl.Box
	a, b         impl.Netlist
	nets         []int64
}

// netAnswer has what a call answers, and else nothing.
type netAnswer struct {
	number  int64
	holds   bool
	rows    impl.NetRows
	netlist impl.NetlistResult
	match   impl.MatchResult
}

type netCall struct {
	name string
	call func(q netAsk) netAnswer
}

func netCalls() []netCall {
	return []netCall{
		{"WiringFault", func(q netAsk) netAnswer { return netAnswer{number: impl.WiringFault(q.w)} }},
		{"NetsOf", func(q netAsk) netAnswer { return netAnswer{rows: impl.NetsOf(q.w)} }},
		{"NetAt", func(q netAsk) netAnswer { return netAnswer{number: impl.NetAt(q.w, q.layer, q.x, q.y)} }},
		{"TransistorsOf", func(q netAsk) netAnswer { return netAnswer{netlist: impl.TransistorsOf(q.poly, q.active)} }},
		{"TransistorsOf one shape", func(q netAsk) netAnswer { return netAnswer{netlist: impl.TransistorsOf(q.poly, q.poly)} }},
		{"NetlistFault", func(q netAsk) netAnswer { return netAnswer{number: impl.NetlistFault(q.a)} }},
		{"RenameNets", func(q netAsk) netAnswer { return netAnswer{netlist: impl.RenameNets(q.a, q.nets)} }},
		{"CheckMatch", func(q netAsk) netAnswer { return netAnswer{holds: impl.CheckMatch(q.a, q.b, q.nets)} }},
		{"MatchNets", func(q netAsk) netAnswer { return netAnswer{match: impl.MatchNets(q.a, q.b)} }},
		{"MatchNets with itself", func(q netAsk) netAnswer { return netAnswer{match: impl.MatchNets(q.a, q.a)} }},
	}
}

// mapped has each list of an ask as the functions answer it.
func (q netAsk) mapped(ofBoxes func([]impl.Box) []impl.Box, ofLayers func([][]impl.Box) [][]impl.Box, ofVias func([]impl.Via) []impl.Via, ofDevices func([]impl.Device) []impl.Device, ofNumbers func([]int64) []int64) netAsk {
	q.poly, q.active, q.nets = ofBoxes(q.poly), ofBoxes(q.active), ofNumbers(q.nets)
	q.w.Layers, q.w.Vias = ofLayers(q.w.Layers), ofVias(q.w.Vias)
	for i, s := range q.w.Layers {
		q.w.Layers[i] = ofBoxes(s)
	}
	for _, n := range []*impl.Netlist{&q.a, &q.b} {
		n.Devices = ofDevices(n.Devices)
		for i, d := range n.Devices {
			n.Devices[i].Pins = ofNumbers(d.Pins)
		}
	}
	return q
}

func (q netAsk) copied() netAsk {
	return q.mapped(slices.Clone[[]impl.Box], slices.Clone[[][]impl.Box], slices.Clone[[]impl.Via], slices.Clone[[]impl.Device], slices.Clone[[]int64])
}

func roomFor[T any](fill T) func(list []T) []T {
	return func(list []T) []T { return withRoom(list, fill) }
}

// roomed has room behind each list, and each within it, which no call may write into.
func (q netAsk) roomed() netAsk {
	return q.mapped(roomy, roomFor(boxes(box(-77, -77, 77, 77))), roomFor(via(77, 77, box(-77, -77, 77, 77))), roomFor(device(77, 77)), roomFor(int64(77)))
}

func wholeCopy[T any](list []T) []T {
	return slices.Clone(list[:cap(list)])
}

// wholly has what lies behind the ends of the lists, too; it is a copy.
func (q netAsk) wholly() netAsk {
	return q.mapped(wholeCopy[impl.Box], wholeCopy[[]impl.Box], wholeCopy[impl.Via], wholeCopy[impl.Device], wholeCopy[int64])
}

func (q netAsk) same(p netAsk) bool {
	same := func(s []impl.Box, r []impl.Box) bool { return slices.Equal(s, r) }
	return slices.Equal(q.poly, p.poly) && slices.Equal(q.active, p.active) && slices.Equal(q.nets, p.nets) && slices.EqualFunc(q.w.Layers, p.w.Layers, same) &&
		slices.Equal(q.w.Vias, p.w.Vias) && sameNetlist(q.a, p.a) && sameNetlist(q.b, p.b)
}

func scribbleNetlist(n impl.Netlist) {
	for _, d := range n.Devices {
		scribbleAll(d.Pins, -5)
	}
	scribbleAll(n.Devices, device(-5, -5))
}

func (q netAsk) scribble() {
	scribble(q.poly)
	scribble(q.active)
	scribbleAll(q.nets, -5)
	for _, s := range q.w.Layers {
		scribble(s)
	}
	scribbleAll(q.w.Layers, nil)
	scribbleAll(q.w.Vias, via(-5, -6, box(-5, -6, -7, -8)))
	scribbleNetlist(q.a)
	scribbleNetlist(q.b)
}

func (a netAnswer) same(b netAnswer) bool {
	return a.number == b.number && a.holds == b.holds && sameRows(a.rows, b.rows) && sameNetlistResult(a.netlist, b.netlist) && sameMatch(a.match, b.match)
}

// lists are the lists of numbers within an answer, not copies of them.
func (a netAnswer) lists() [][]int64 {
	lists := append([][]int64{a.match.Nets}, a.rows.Rows...)
	for _, d := range a.netlist.Netlist.Devices {
		lists = append(lists, d.Pins)
	}
	return lists
}

func (a netAnswer) scribble() {
	for _, list := range a.lists() {
		scribbleAll(list, -5)
	}
	scribbleAll(a.rows.Rows, nil)
	scribbleAll(a.netlist.Netlist.Devices, device(-5, -5))
}

// someNetAsks are right and wrong ones, the same at every run.
func someNetAsks(n int) []netAsk {
	chance := rand.New(rand.NewSource(61))
	lists, ends := wildLists(), append(edgePlaces(), netEnds()...)
	end := func() int64 { return ends[chance.Intn(len(ends))] }
	var asks []netAsk
	for i := range n {
		q := netAsk{w: someWiring(chance), layer: end(), x: end(), y: end(), poly: lists[i%len(lists)], active: lists[(i*7+3)%len(lists)]}
		q.a = someNetlist(chance, chance.Int63n(6), chance.Intn(13))
		for _, net := range chance.Perm(int(q.a.Nets)) {
			q.nets = append(q.nets, int64(net))
		}
		q.b = shuffled(chance, nudged(chance, renameWant(q.a, q.nets).Netlist))
		if i%2 == 0 {
			q.layer, q.x, q.y = chance.Int63n(4), chance.Int63n(8), chance.Int63n(8)
			q.poly, q.active = formOfBoxes(someBoxes(chance.Int63(), 4, 7)), formOfBoxes(someBoxes(chance.Int63(), 4, 7))
		}
		switch i % 8 {
		case 1:
			q.a = spoiledNetlist(chance, q.a)
		case 3:
			q.b = spoiledNetlist(chance, q.b)
		case 5:
			q.nets = append(q.nets, end())
		case 7:
			q.w.Vias = append(q.w.Vias, via(end(), end(), box(end(), end(), end(), end())))
		}
		asks = append(asks, q)
	}
	return append(asks, netAsk{}, greatAsk())
}

// greatAsk has far too many of all.
func greatAsk() netAsk {
	long := circuit(7, longer([]impl.Device{device(1, make([]int64, 3000)...)}, 3000)...)
	return netAsk{w: impl.Wiring{Layers: make([][]impl.Box, 3000), Vias: make([]impl.Via, 3000)}, poly: make([]impl.Box, 3000), active: make([]impl.Box, 3000), a: long, b: long, nets: make([]int64, 3000)}
}

func TestEveryNetAskIsAnswered(t *testing.T) {
	for _, q := range someNetAsks(1200) {
		roomed := q.roomed()
		kept := roomed.wholly()
		for _, c := range netCalls() {
			got := c.call(roomed)
			if !got.same(c.call(roomed)) || !got.same(c.call(q.copied())) {
				t.Fatalf("%s of %s has two answers", c.name, brief(q))
			}
			if !roomed.wholly().same(kept) {
				t.Fatalf("%s changed what it was given, %s", c.name, brief(q))
			}
		}
	}
}

func TestZeroBesideACodeOfNets(t *testing.T) {
	met := map[int64]int{}
	for _, q := range someNetAsks(1200) {
		for _, c := range netCalls() {
			got := c.call(q)
			wrong := got.rows.Code != impl.OK && len(got.rows.Rows) > 0 || got.match.Code != impl.OK && len(got.match.Nets) > 0
			if wrong || got.netlist.Code != impl.OK && !sameNetlist(got.netlist.Netlist, impl.Netlist{}) {
				t.Errorf("%s of %s has a code, and more", c.name, brief(q))
			}
			if impl.NetlistFault(got.netlist.Netlist) != impl.OK {
				t.Errorf("%s of %s answers %s, which has a fault", c.name, brief(q), brief(got.netlist))
			}
			met[got.rows.Code+got.match.Code+got.netlist.Code]++
		}
	}
	if min(met[impl.OK], met[impl.ErrForm], met[impl.ErrMany], met[impl.ErrRange], met[impl.ErrNone]) < 20 {
		t.Errorf("the codes are %v", met)
	}
}

func TestNetsAnswerNewMemory(t *testing.T) {
	for _, q := range someNetAsks(600) {
		for _, c := range netCalls() {
			roomed := q.roomed()
			kept := roomed.wholly()
			first, second, third := c.call(roomed), c.call(roomed), c.call(q.copied())
			first.scribble()
			if !roomed.wholly().same(kept) {
				t.Fatalf("an answer of %s, %s, has memory of what was given", c.name, brief(q))
			}
			if !second.same(third) || !c.call(roomed).same(third) {
				t.Fatalf("two answers of %s, %s, share memory", c.name, brief(q))
			}
			roomed.scribble()
			if !second.same(third) {
				t.Fatalf("an answer of %s, %s, hangs on what was given", c.name, brief(q))
			}
		}
	}
}

// The lists of one answer: what is put into one, or behind it, is not seen in another.
func TestListsOfOneNetAnswerAreApart(t *testing.T) {
	many := 0
	twelve := circuit(3, longer([]impl.Device{device(1, 0, 1, 2)}, 12)...)
	ask := netAsk{w: wired(longer(layersWith(dots(0, 2, 4)), 8)), poly: boxes(box(0, 0, 3, 40)), active: boxesApart(12, 0), a: twelve, b: twelve, nets: numbers(2, 1, 0)}
	for _, q := range append(someNetAsks(400), ask) {
		for _, c := range netCalls() {
			for i := range c.call(q).lists() {
				got, want := c.call(q).lists(), c.call(q).lists()
				scribbleAll(got[i], -5)
				got[i] = want[i]
				if !sameRows(netRows(got...), netRows(want...)) {
					t.Fatalf("list %d of an answer of %s, %s, is another one, too", i, c.name, brief(q))
				}
				many = max(many, len(got))
			}
		}
	}
	if many < 13 {
		t.Errorf("the longest answer has %d lists", many)
	}
}

func TestNoNetIsNoNet(t *testing.T) {
	bare := netAsk{w: wired(layersWith(nil, nil)), a: circuit(0, device(1)), b: circuit(0, device(1))}
	pinless := impl.Netlist{Devices: []impl.Device{{Kind: 1, Pins: []int64{}}}}
	layers := [][]impl.Box{{}, {}}
	empty := netAsk{w: impl.Wiring{Layers: layers, Vias: []impl.Via{}}, poly: []impl.Box{}, active: []impl.Box{}, a: pinless, b: pinless, nets: []int64{}}
	none := netAsk{w: impl.Wiring{Layers: [][]impl.Box{}, Vias: []impl.Via{}}, a: impl.Netlist{Devices: []impl.Device{}}, b: impl.Netlist{Devices: []impl.Device{}}}
	for _, c := range netCalls() {
		if !c.call(bare).same(c.call(empty)) || !c.call(netAsk{}).same(c.call(none)) {
			t.Errorf("%s: nil and an empty list differ", c.name)
		}
	}
	if !impl.CheckMatch(pinless, bare.b, nil) || impl.MatchNets(bare.a, pinless).Code != impl.OK {
		t.Error("no pins and an empty list of pins differ")
	}
}
