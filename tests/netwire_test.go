package tests

import (
	"math"
	"math/rand"
	"slices"
	"testing"

	"loop.example/g00057/impl"
)

// dots are single cells at these places across, on one row.
func dots(places ...int64) []impl.Box {
	var list []impl.Box
	for _, x := range places {
		list = append(list, box(x, 0, x+1, 1))
	}
	return list
}

func checkWiring(t *testing.T, what string, w impl.Wiring, want int64) {
	t.Helper()
	if got := impl.WiringFault(w); got != want {
		t.Errorf("the fault of %s, %s: %d, want %d", what, brief(w), got, want)
	}
	if want != impl.OK {
		checkNets(t, what, w, impl.NetRows{Code: want})
	}
	if want != impl.OK && impl.NetAt(w, 0, 0, 0) != -1 {
		t.Errorf("%s, %s, has a net", what, brief(w))
	}
}

func TestWiringFault(t *testing.T) {
	unit := box(0, 0, 1, 1)
	dot := boxes(unit)
	two := layersWith(dot, dot)
	right := via(0, 1, unit)
	far, empty := via(0, 1, box(0, 0, 10001, 1)), via(0, 1, box(0, 0, 0, 1))
	same := via(1, 1, unit)
	faulty := faultyShapes()
	many, beyond, unformed := faulty[impl.ErrMany], faulty[impl.ErrRange], faulty[impl.ErrForm]
	cases := []struct {
		name string
		w    impl.Wiring
		want int64
	}{
		{"nothing", impl.Wiring{}, impl.OK},
		{"no layers, a via", wired(nil, right), impl.ErrForm},
		{"one layer, a via", wired(two[:1], right), impl.ErrForm},
		{"two layers", wired(two, right), impl.OK},
		{"layers without boxes", wired(layersWith(nil, []impl.Box{}), right), impl.OK},
		{"as many layers as may be", wired(make([][]impl.Box, 8), via(0, 7, unit)), impl.OK},
		{"one layer more", wired(make([][]impl.Box, 9), via(0, 7, unit)), impl.ErrMany},
		{"one layer more, with a fault first", wired(append(layersWith(unformed), make([][]impl.Box, 8)...)), impl.ErrMany},
		{"as many vias as may be", wired(two, longer([]impl.Via{right}, 60)...), impl.OK},
		{"one via more", wired(two, longer([]impl.Via{right}, 61)...), impl.ErrMany},
		{"one via more, with a fault first", wired(two, longer([]impl.Via{same}, 61)...), impl.ErrMany},
		{"one via more, and no layers", wired(nil, longer([]impl.Via{right}, 61)...), impl.ErrMany},
		{"the last via is wrong", wired(two, append(longer([]impl.Via{right}, 59), far)...), impl.ErrRange},
		{"too many boxes", wired(layersWith(dot, many)), impl.ErrMany},
		{"a box beyond", wired(layersWith(dot, beyond)), impl.ErrRange},
		{"not the one form", wired(layersWith(dot, unformed)), impl.ErrForm},
		{"two layers with faults", wired(layersWith(dot, beyond, unformed)), impl.ErrRange},
		{"two layers with faults, turned round", wired(layersWith(dot, unformed, beyond)), impl.ErrForm},
		{"the last of eight layers", wired(append(make([][]impl.Box, 7), beyond)), impl.ErrRange},
		{"a layer, then a via", wired(layersWith(dot, beyond), same), impl.ErrRange},
		{"a layer, then too many vias", wired(layersWith(dot, beyond), longer([]impl.Via{same}, 61)...), impl.ErrRange},
		{"two vias with faults", wired(two, right, far, same), impl.ErrRange},
		{"two vias with faults, turned round", wired(two, right, same, far), impl.ErrForm},
		{"two faults in one via", wired(two, via(0, 2, far.Box)), impl.ErrForm},
		{"an empty box", wired(two, empty), impl.ErrForm},
		{"an empty box beyond", wired(two, via(0, 1, box(10001, 0, 10001, 1))), impl.ErrForm},
		{"all places", wired(two, via(0, 1, box(-10000, -10000, 10000, 10000))), impl.OK},
	}
	for _, c := range cases {
		checkWiring(t, c.name, c.w, c.want)
	}
}

func TestLayersOfVias(t *testing.T) {
	ends := []int64{math.MinInt64, math.MinInt64 + 1, -2, -1, 0, 1, 2, 3, 6, 7, 8, 9, 1 << 32, math.MaxInt64 - 1, math.MaxInt64}
	for _, layers := range []int{0, 1, 2, 3, 8} {
		most := int64(layers) - 1
		for _, low := range ends {
			for _, high := range ends {
				right := low >= 0 && high >= 0 && low <= most && high <= most && low != high
				want := int64(impl.ErrForm)
				if right {
					want = impl.OK
				}
				checkWiring(t, "some layers", wired(make([][]impl.Box, layers), via(low, high, box(0, 0, 1, 1))), want)
				if right {
					want = impl.ErrRange
				}
				checkWiring(t, "a box beyond", wired(make([][]impl.Box, layers), via(low, high, box(0, -10001, 1, 1))), want)
			}
		}
	}
}

func TestBoxesOfVias(t *testing.T) {
	two := layersWith(nil, nil)
	for _, n := range edgePlaces() {
		for _, b := range []impl.Box{box(n, 0, 1, 1), box(0, n, 1, 1), box(0, 0, n, 1), box(0, 0, 1, n)} {
			checkWiring(t, "a box", wired(two, via(1, 0, b)), boxesFaultWant(boxes(b)))
			checkWiring(t, "a box, the second", wired(two, via(1, 0, box(0, 0, 1, 1)), via(0, 1, b)), boxesFaultWant(boxes(b)))
		}
	}
}

func TestNetsByHand(t *testing.T) {
	bar, pair := boxes(box(0, 0, 5, 1)), dots(0, 2)
	corners := boxes(box(0, 0, 2, 2), box(4, 4, 6, 6))
	const m = impl.MaxPlace
	cases := []struct {
		name string
		w    impl.Wiring
		want impl.NetRows
	}{
		{"nothing", impl.Wiring{}, netRows()},
		{"a layer without boxes", wired(layersWith(nil)), netRows(nil)},
		{"layers without boxes", wired(layersWith(nil, nil, nil), via(0, 2, box(0, 0, 1, 1))), netRows(nil, nil, nil)},
		{"no vias", wired(layersWith(pair, nil, bar)), netRows(numbers(0, 1), nil, numbers(2))},
		{"a via that meets no part", wired(layersWith(pair, dots(4)), via(0, 1, box(1, 0, 2, 1))), netRows(numbers(0, 1), numbers(2))},
		{"a via beside all", wired(layersWith(pair, bar), via(0, 1, box(-3, 0, 0, 1))), netRows(numbers(0, 1), numbers(2))},
		{"a via that meets one of the low layer alone", wired(layersWith(pair, dots(4)), via(0, 1, box(0, 0, 2, 1))), netRows(numbers(0, 1), numbers(2))},
		{"a via that meets one of the high layer alone", wired(layersWith(pair, dots(4)), via(0, 1, box(4, 0, 5, 1))), netRows(numbers(0, 1), numbers(2))},
		{"a via that meets two of the low layer alone", wired(layersWith(pair, dots(4)), via(0, 1, box(0, 0, 3, 1))), netRows(numbers(0, 0), numbers(1))},
		{"a via that meets two of the high layer alone", wired(layersWith(dots(4), pair), via(0, 1, box(0, 0, 3, 1))), netRows(numbers(0), numbers(1, 1))},
		{"a via that meets one of each", wired(layersWith(pair, pair), via(0, 1, box(2, 0, 3, 1))), netRows(numbers(0, 1), numbers(2, 1))},
		{"a via that meets all", wired(layersWith(pair, pair), via(0, 1, box(0, 0, 3, 1))), netRows(numbers(0, 0), numbers(0, 0))},
		{"low above high", wired(layersWith(pair, pair), via(1, 0, box(2, 0, 3, 1))), netRows(numbers(0, 1), numbers(2, 1))},
		{"two vias that are the same", wired(layersWith(pair, pair), via(0, 1, box(2, 0, 3, 1)), via(0, 1, box(2, 0, 3, 1))), netRows(numbers(0, 1), numbers(2, 1))},
		{"a bar joins by two vias", wired(layersWith(pair, bar), via(0, 1, box(0, 0, 1, 1)), via(0, 1, box(2, 0, 3, 1))), netRows(numbers(0, 0), numbers(0))},
		{"a bar does not join by one", wired(layersWith(pair, bar), via(0, 1, box(2, 0, 3, 1))), netRows(numbers(0, 1), numbers(1))},
		{"another layer is not met", wired(layersWith(pair, bar, pair), via(0, 2, box(0, 0, 5, 1))), netRows(numbers(0, 0), numbers(1), numbers(0, 0))},
		{"the low layer's part behind another layer", wired(layersWith(nil, bar, nil, pair), via(3, 1, box(2, 0, 3, 1))), netRows(nil, numbers(0), nil, numbers(1, 0))},
		{"one cell at a corner", wired(layersWith(corners, bar), via(0, 1, box(1, 1, 5, 5)), via(0, 1, box(4, 0, 5, 1))), netRows(numbers(0, 0), numbers(1))},
		{"corners that touch alone", wired(layersWith(corners, bar), via(0, 1, box(2, 2, 4, 4))), netRows(numbers(0, 1), numbers(2))},
		{"sides that touch alone", wired(layersWith(corners, bar), via(0, 1, box(2, 0, 4, 4)), via(0, 1, box(4, 6, 6, 7))), netRows(numbers(0, 1), numbers(2))},
		{"a hole of a ring", wired(layersWith(ring(), boxes(box(1, 1, 2, 2))), via(0, 1, box(1, 1, 2, 2))), netRows(numbers(0), numbers(1))},
		{"all places", wired(layersWith(boxes(box(-m, -m, -m+1, -m+1), box(m-1, m-1, m, m)), nil), via(1, 0, box(-m, -m, m, m))), netRows(numbers(0, 0), nil)},
		{"all places but one", wired(layersWith(boxes(box(-m, -m, -m+1, -m+1), box(m-1, m-1, m, m)), nil), via(1, 0, box(-m, -m, m-1, m))), netRows(numbers(0, 1), nil)},
	}
	for _, c := range cases {
		checkNets(t, c.name, c.w, c.want)
		if want, _ := netsWant(c.w); !sameRows(want, c.want) {
			t.Errorf("%s: the flood has %v, want %v", c.name, want, c.want)
		}
	}
}

// Each layer has two dots and a bar between; vias go up from the first layer to the last, and back onto the first.
func TestNetsOverManyLayers(t *testing.T) {
	var layers [][]impl.Box
	for range 8 {
		layers = append(layers, dots(0, 2, 4))
	}
	up := func(from int64, at int64) impl.Via { return via(from, from+1, box(at, 0, at+1, 1)) }
	var vias []impl.Via
	for i := range int64(7) {
		vias = append(vias, up(i, 4))
		want := make([][]int64, 8)
		next := int64(3)
		for layer := range want {
			want[layer] = numbers(next, next+1, 2)
			next += 2
			if layer == 0 {
				want[layer], next = numbers(0, 1, 2), 3
			}
			if int64(layer) > i+1 {
				want[layer][2] = next
				next++
			}
		}
		checkNets(t, "a way up", wired(layers, vias...), netRows(want...))
		slices.Reverse(vias)
		checkNets(t, "a way down", wired(layers, vias...), netRows(want...))
		slices.Reverse(vias)
	}
	back := append(vias, via(7, 0, box(2, 0, 5, 1)))
	want := [][]int64{numbers(0, 1, 1)}
	for layer := range int64(7) {
		want = append(want, numbers(2+2*layer, 3+2*layer, 1))
	}
	want[7] = numbers(14, 1, 1)
	checkNets(t, "a way back", wired(layers, back...), netRows(want...))
}

// A net goes from side to side by sixty vias, each of which is needed: the parts from the missing one on are another net.
func TestNetsOfAsManyVias(t *testing.T) {
	var low, high []impl.Box
	var vias []impl.Via
	for i := range int64(30) {
		low, high = append(low, box(4*i, 0, 4*i+1, 1)), append(high, box(4*i+2, 0, 4*i+3, 1))
		vias = append(vias, via(0, 1, box(4*i, 0, 4*i+3, 1)), via(1, 0, box(4*i+2, 0, 4*i+5, 1)))
	}
	low = append(low, box(120, 0, 121, 1))
	layers := layersWith(low, high)
	checkNets(t, "sixty vias", wired(layers, vias...), netRows(make([]int64, 31), make([]int64, 30)))
	for missing := range 60 {
		want := netRows(make([]int64, 31), make([]int64, 30))
		for place := range 61 {
			if place > missing {
				want.Rows[place%2][place/2] = 1
			}
		}
		some := slices.Delete(slices.Clone(vias), missing, missing+1)
		checkNets(t, "fifty-nine vias", wired(layers, some...), want)
		slices.Reverse(some)
		checkNets(t, "fifty-nine vias, from behind", wired(layers, append(some, some[0])...), want)
	}
	checkNets(t, "sixty-one vias", wired(layers, longer(vias, 61)...), impl.NetRows{Code: impl.ErrMany})
}

// Many parts, all of them met by all vias: nothing is asked over and over.
func TestNetsOfAsManyParts(t *testing.T) {
	var layers [][]impl.Box
	var want [][]int64
	for range 8 {
		layers = append(layers, boxesApart(impl.MaxBoxes, 0))
		want = append(want, make([]int64, impl.MaxBoxes))
	}
	var vias []impl.Via
	for i := range int64(60) {
		vias = append(vias, via(i%8, (i+1)%8, box(-1, -1, 2, 400)))
	}
	w := wired(layers, vias...)
	checkNets(t, "all are joined", w, netRows(want...))
	if got := impl.NetAt(w, 7, 0, 298); got != 0 {
		t.Errorf("the last part has the net %d", got)
	}
	for layer := range want {
		for part := range want[layer] {
			want[layer][part] = int64(layer*impl.MaxBoxes + part)
		}
	}
	checkNets(t, "none are joined", wired(layers), netRows(want...))
	if got := impl.NetAt(wired(layers), 7, 0, 298); got != 1199 {
		t.Errorf("the last part has the net %d", got)
	}
}

func TestNetsCellByCell(t *testing.T) {
	for bits := range 1 << 12 {
		layers := layersWith(formOfBoxes(unitBoxes(bits&63, 3, 6)), formOfBoxes(unitBoxes(bits>>6, 3, 6)))
		for _, b := range smallBoxes(4) {
			if b.Y1 > 3 || (b.X0+b.Y0+b.X1*3+b.Y1*5+int64(bits))%3 > 0 {
				continue
			}
			for _, vias := range [][]impl.Via{{via(0, 1, b)}, {via(1, 0, b), via(0, 1, box(2, 0, 3, 1))}} {
				w := wired(layers, vias...)
				want, _ := netsWant(w)
				if got := impl.NetsOf(w); !sameRows(got, want) {
					t.Fatalf("NetsOf(%v) = %v, want %v", w, got, want)
				}
			}
		}
	}
}

// someWiring is right, or wrong in some way, by chance.
func someWiring(chance *rand.Rand) impl.Wiring {
	w := impl.Wiring{Layers: make([][]impl.Box, 1+chance.Intn(8))}
	layers := int64(len(w.Layers))
	for i := range w.Layers {
		w.Layers[i] = formOfBoxes(someBoxes(chance.Int63(), chance.Intn(9), 9))
	}
	size := 1 + chance.Int63n(8)
	for range chance.Intn(30) {
		x, y := chance.Int63n(22)-11, chance.Int63n(22)-11
		low := chance.Int63n(layers)
		v := via(low, (low+1+chance.Int63n(max(1, layers-1)))%layers, box(x, y, x+1+chance.Int63n(size), y+1+chance.Int63n(size)))
		w.Vias = append(w.Vias, v)
	}
	switch chance.Intn(20) {
	case 0:
		w.Vias = longer(append(w.Vias, via(0, layers-1, box(0, 0, 1, 1))), 58+chance.Intn(6))
	case 1:
		w.Vias = append(w.Vias, via(chance.Int63n(11)-1, chance.Int63n(11)-1, box(0, 0, 1, 10000+chance.Int63n(2))))
	case 2:
		w.Layers[chance.Intn(len(w.Layers))] = faultyShapes()[1+chance.Int63n(3)]
	case 3:
		w.Layers = append(w.Layers, make([][]impl.Box, 2)...)
	}
	return w
}

func TestSomeWirings(t *testing.T) {
	chance := rand.New(rand.NewSource(31))
	met, joined := map[int64]int{}, 0
	for range 2500 {
		w := someWiring(chance)
		want, _ := netsWant(w)
		met[want.Code]++
		if got := impl.WiringFault(w); got != want.Code {
			t.Errorf("the fault of %s is %d, want %d", brief(w), got, want.Code)
		}
		checkNets(t, "some wiring", w, want)
		all := slices.Concat(want.Rows...)
		joined += len(all) - len(slices.Compact(slices.Sorted(slices.Values(all))))
	}
	for _, code := range []int64{impl.OK, impl.ErrForm, impl.ErrMany, impl.ErrRange} {
		if met[code] < 20 {
			t.Errorf("the code %d is met %d times", code, met[code])
		}
	}
	if joined < 1000 {
		t.Errorf("%d parts are joined to others", joined)
	}
}

func TestFarWirings(t *testing.T) {
	chance := rand.New(rand.NewSource(32))
	for range 300 {
		w := someWiring(chance)
		x, y := 1+chance.Int63n(900), 1+chance.Int63n(900)
		for i, s := range w.Layers {
			w.Layers[i] = stretched(s, x, y)
		}
		for i, v := range w.Vias {
			b := stretched(boxes(v.Box), x, y)[0]
			w.Vias[i].Box = box(b.X0+chance.Int63n(x), b.Y0+chance.Int63n(y), b.X1, b.Y1)
		}
		want, _ := netsWant(w)
		checkNets(t, "a far wiring", w, want)
	}
}

func TestNetAtByHand(t *testing.T) {
	const m, least, most = impl.MaxPlace, math.MinInt64, math.MaxInt64
	w := wired(layersWith(ring(), boxes(box(5, 5, 7, 7), box(-m, 8, -m+1, 9), box(m-1, m-1, m, m)), nil), via(1, 0, box(0, 0, 6, 6)))
	cases := []struct{ layer, x, y, want int64 }{
		{0, 0, 0, 0}, {0, 2, 2, 0}, {0, 1, 0, 0}, {0, 1, 1, -1}, {0, -1, 0, -1}, {0, 0, -1, -1}, {0, 3, 0, -1}, {0, 0, 3, -1}, {0, 2, 3, -1},
		{1, 5, 5, 0}, {1, 6, 6, 0}, {1, 7, 6, -1}, {1, 6, 7, -1}, {1, 4, 5, -1}, {1, 5, 4, -1}, {1, 0, 0, -1},
		{1, -m, 8, 1}, {1, -m - 1, 8, -1}, {1, -m + 1, 8, -1}, {1, -m, 9, -1}, {1, m - 1, m - 1, 2}, {1, m, m - 1, -1}, {1, m - 1, m, -1},
		{2, 0, 0, -1}, {2, 5, 5, -1}, {3, 0, 0, -1}, {-1, 0, 0, -1}, {-2, 5, 5, -1}, {8, 0, 0, -1}, {1 << 32, 0, 0, -1},
		{least, 0, 0, -1}, {most, 0, 0, -1}, {0, least, 0, -1}, {0, most, 0, -1}, {0, 0, least, -1}, {0, 0, most, -1},
		{least, least, least, -1}, {most, most, most, -1}, {0, 1 << 32, 0, -1}, {1<<32 + 1, 5, 5, -1},
	}
	for _, c := range cases {
		if got := impl.NetAt(w, c.layer, c.x, c.y); got != c.want {
			t.Errorf("NetAt layer %d, %d %d is %d, want %d", c.layer, c.x, c.y, got, c.want)
		}
	}
	wrong := []impl.Wiring{{}, wired(w.Layers, via(0, 0, box(0, 0, 1, 1))), wired(w.Layers, via(0, 1, box(0, 0, 0, 1))), wired(append(w.Layers, make([][]impl.Box, 6)...)), wired(append(w.Layers, faultyShapes()[impl.ErrForm]))}
	for i, w := range wrong {
		for layer := int64(-1); layer < 9; layer++ {
			if got := impl.NetAt(w, layer, 0, 0); got != -1 {
				t.Errorf("wiring %d has the net %d on layer %d", i, got, layer)
			}
		}
	}
}

func TestNetAtCellByCell(t *testing.T) {
	chance := rand.New(rand.NewSource(33))
	for range 25 {
		w := someWiring(chance)
		nets, f := netsWant(w)
		for layer := range int64(len(w.Layers)) {
			for at := range int64(22 * 22) {
				x, y := at%22-11, at/22-11
				want := int64(-1)
				if nets.Code == impl.OK && cellsOf(w.Layers[layer])(x, y) {
					want = f.nets[f.stripAt(layer, x, y)]
				}
				if got := impl.NetAt(w, layer, x, y); got != want {
					t.Fatalf("NetAt %s, layer %d, %d %d is %d, want %d", brief(w), layer, x, y, got, want)
				}
			}
		}
	}
}

func TestNetAtEdges(t *testing.T) {
	chance := rand.New(rand.NewSource(34))
	edges := append(edgePlaces(), 2, 3, 7, 8)
	for range 40 {
		w := someWiring(chance)
		for range 40 {
			layer, x, y := edges[chance.Intn(len(edges))], edges[chance.Intn(len(edges))], edges[chance.Intn(len(edges))]
			if got, want := impl.NetAt(w, layer, x, y), netAtWant(w, layer, x, y); got != want {
				t.Errorf("NetAt %s, layer %d, %d %d is %d, want %d", brief(w), layer, x, y, got, want)
			}
		}
	}
}
