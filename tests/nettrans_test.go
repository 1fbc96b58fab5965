package tests

import (
	"math/rand"
	"testing"

	"loop.example/g00057/impl"
)

// gates is a right answer with one gate for each list of pins.
func gates(nets int64, pins ...[]int64) impl.NetlistResult {
	var devices []impl.Device
	for _, list := range pins {
		devices = append(devices, impl.Device{Kind: 1, Pins: list})
	}
	return impl.NetlistResult{Netlist: circuit(nets, devices...)}
}

func checkTransistors(t *testing.T, what string, poly []impl.Box, active []impl.Box, want impl.NetlistResult) {
	t.Helper()
	checkNetlist(t, "TransistorsOf "+what+", "+brief(poly)+" and "+brief(active), impl.TransistorsOf(poly, active), want)
}

// bars are n upright lines, two cells apart, from below 0 to that height.
func bars(n int64, top int64) []impl.Box {
	var list []impl.Box
	for i := range n {
		list = append(list, box(2*i+1, -1, 2*i+2, top))
	}
	return list
}

// brush is one part with n bristles, one cell each, that stick into what lies left of 4.
func brush(n int64) []impl.Box {
	list := boxes(box(4, 0, 5, 2*n))
	for i := range n {
		list = append(list, box(3, 2*i, 4, 2*i+1))
	}
	return formOfBoxes(list)
}

// cross is a cell with one on each side.
func cross() []impl.Box {
	return boxes(box(1, 0, 2, 1), box(0, 1, 3, 2), box(1, 2, 2, 3))
}

type transistorCase struct {
	name         string
	poly, active []impl.Box
	want         impl.NetlistResult
}

func transistorCases() []transistorCase {
	const m = impl.MaxPlace
	field := boxes(box(0, 0, 5, 2))
	square := boxes(box(0, 0, 3, 3))
	return []transistorCase{
		{"nothing", nil, nil, gates(0)},
		{"poly alone", dots(0, 2), nil, gates(2)},
		{"active alone", nil, dots(0, 2, 4), gates(3)},
		{"poly beside active", dots(5), dots(4), gates(2)},
		{"poly at a corner of active", boxes(box(5, 2, 6, 3)), field, gates(2)},
		{"a line across", boxes(box(2, -1, 3, 3)), field, gates(3, numbers(0, 1, 2))},
		{"a line across, no longer than active", boxes(box(2, 0, 3, 2)), field, gates(3, numbers(0, 1, 2))},
		{"a line that ends within", boxes(box(2, 1, 3, 3)), field, gates(2, numbers(0, 1))},
		{"a dot within", boxes(box(2, 1, 3, 2)), boxes(box(0, 0, 5, 4)), gates(2, numbers(0, 1))},
		{"at the left edge", boxes(box(-1, -1, 1, 3)), field, gates(2, numbers(0, 1))},
		{"at the right edge", boxes(box(4, -1, 6, 3)), field, gates(2, numbers(0, 1))},
		{"at the lower edge", boxes(box(-1, -1, 6, 1)), field, gates(2, numbers(0, 1))},
		{"at the upper edge", boxes(box(-1, 1, 6, 3)), field, gates(2, numbers(0, 1))},
		{"at a corner, within", boxes(box(4, 1, 6, 3)), field, gates(2, numbers(0, 1))},
		{"poly over all of active", boxes(box(-1, -1, 6, 3)), field, gates(1, numbers(0))},
		{"poly as active", field, field, gates(1, numbers(0))},
		{"poly over one of two", boxes(box(-1, -1, 2, 2)), dots(0, 4), gates(2, numbers(0))},
		{"a ring that is closed by poly, twice beside it", boxes(box(1, 0, 2, 1)), ring(), gates(2, numbers(0, 1))},
		{"a ring that is cut twice", boxes(box(1, -1, 2, 4)), ring(), gates(3, numbers(0, 1, 2), numbers(0, 1, 2))},
		{"poly as a ring in active", ring(), boxes(box(-1, -1, 4, 4)), gates(3, numbers(0, 1, 2))},
		{"active as a ring in poly", boxes(box(-1, -1, 4, 4)), ring(), gates(1, numbers(0))},
		{"two lines", boxes(box(1, -1, 2, 3), box(3, -1, 4, 3)), field, gates(5, numbers(0, 2, 3), numbers(1, 3, 4))},
		{"two lines beside each other", boxes(box(1, -1, 3, 3)), field, gates(3, numbers(0, 1, 2))},
		{"one line with two gates", boxes(box(2, -1, 3, 8)), boxes(box(0, 0, 5, 2), box(0, 4, 5, 6)), gates(5, numbers(0, 1, 2), numbers(0, 3, 4))},
		{"a line that is bent, with two gates", formOfBoxes(boxes(box(1, 0, 2, 3), box(3, 0, 4, 3), box(1, 2, 4, 3))), boxes(box(0, 0, 5, 2)), gates(4, numbers(0, 1, 2), numbers(0, 2, 3))},
		{"a corner of active alone", boxes(box(1, 1, 2, 2)), boxes(box(0, 0, 1, 1), box(1, 1, 3, 2)), gates(3, numbers(0, 2))},
		{"gates at corners are two", formOfBoxes(boxes(box(0, 0, 2, 2))), boxes(box(0, 0, 1, 1), box(1, 1, 3, 2)), gates(2, numbers(0), numbers(0, 1))},
		{"gates at corners of two poly parts", boxes(box(0, 0, 1, 1), box(1, 1, 2, 2)), boxes(box(0, 0, 2, 2)), gates(4, numbers(0, 2, 3), numbers(1, 2, 3))},
		{"four pins", boxes(box(1, 1, 2, 5)), cross(), gates(4, numbers(0, 1, 2, 3))},
		{"five pins", boxes(box(1, 1, 2, 2)), cross(), netlistCode(impl.ErrMany)},
		{"the second gate has five pins", boxes(box(1, -5, 2, -4), box(1, 1, 2, 2)), append(boxes(box(1, -5, 2, -4)), cross()...), netlistCode(impl.ErrMany)},
		{"gates from below", boxes(box(2, 0, 3, 3)), boxes(box(2, 0, 3, 1), box(2, 2, 4, 3)), gates(2, numbers(0), numbers(0, 1))},
		{"gates from the left", boxes(box(0, 0, 9, 1)), boxes(box(0, 0, 1, 1), box(3, 0, 4, 1), box(6, 0, 7, 1)), gates(1, numbers(0), numbers(0), numbers(0))},
		{"parts of poly and active in the order of their first boxes", boxes(box(5, 0, 6, 1), box(1, 2, 2, 5)), boxes(box(4, 0, 7, 1), box(0, 2, 3, 3)), gates(6, numbers(0, 2, 3), numbers(1, 4, 5))},
		{"a hole in active", boxes(box(1, 1, 2, 2)), ring(), gates(2)},
		{"all places", boxes(box(0, -m, 1, m)), boxes(box(-m, -m, m, m)), gates(3, numbers(0, 1, 2))},
		{"all places, all poly", boxes(box(-m, -m, m, m)), boxes(box(-m, -m, m, m)), gates(1, numbers(0))},
		{"a square's middle line", boxes(box(0, 1, 3, 2)), square, gates(3, numbers(0, 1, 2))},
	}
}

func TestTransistorsByHand(t *testing.T) {
	for _, c := range transistorCases() {
		checkTransistors(t, c.name, c.poly, c.active, c.want)
		if want := transistorsWant(c.poly, c.active); !sameNetlistResult(want, c.want) {
			t.Errorf("%s: the walk has %v, want %v", c.name, want, c.want)
		}
	}
}

func TestAsManyGates(t *testing.T) {
	for n := range int64(20) {
		want := gates(2, longer([][]int64{numbers(0, 1)}, int(n))...)
		if n > 12 {
			want = netlistCode(impl.ErrMany)
		}
		checkTransistors(t, "some bristles", brush(n+1), formOfBoxes(boxes(box(0, 1, 4, 2*n+2))), want)
	}
	checkTransistors(t, "one gate more than may be, and one net", boxes(box(0, 0, 3, 40)), boxesApart(13, 0), netlistCode(impl.ErrMany))
	checkTransistors(t, "as many gates as may be, and one net", boxes(box(0, 0, 3, 40)), boxesApart(12, 0), gates(1, longer([][]int64{numbers(0)}, 12)...))
}

func TestAsManyNets(t *testing.T) {
	for poly := range 9 {
		for active := range 9 {
			want := gates(int64(poly + active))
			if poly+active > 7 {
				want = netlistCode(impl.ErrMany)
			}
			var away []impl.Box
			for _, b := range boxesApart(active, 0) {
				away = append(away, box(b.X0+5, b.Y0, b.X1+5, b.Y1))
			}
			checkTransistors(t, "some nets", boxesApart(poly, 0), away, want)
		}
	}
	for n := range int64(6) {
		want := netlistCode(impl.ErrMany)
		if 2*n+1 <= 7 {
			var pins [][]int64
			for i := range n {
				pins = append(pins, numbers(i, n+i, n+i+1))
			}
			want = gates(2*n+1, pins...)
		}
		checkTransistors(t, "some bars", bars(n, 3), boxes(box(0, 0, 2*n+1, 2)), want)
	}
	checkTransistors(t, "far too many", bars(150, 400), formOfBoxes(stripes(150, 1000)), transistorsWant(bars(150, 400), formOfBoxes(stripes(150, 1000))))
}

func TestFaultsAheadOfTransistors(t *testing.T) {
	plain := boxes(box(0, 0, 1, 1))
	for code, s := range faultyShapes() {
		checkTransistors(t, "a fault in poly", s, plain, netlistCode(code))
		checkTransistors(t, "a fault in active", plain, s, netlistCode(code))
		for _, other := range faultyShapes() {
			checkTransistors(t, "faults in both", s, other, netlistCode(code))
		}
		checkTransistors(t, "a fault, and too many nets", s, boxesApart(150, 0), netlistCode(code))
		checkTransistors(t, "too many nets, and a fault", boxesApart(150, 0), s, netlistCode(code))
	}
	for _, s := range wildLists() {
		if code := shapeFaultWant(s); code != impl.OK {
			checkTransistors(t, "any poly", s, nil, netlistCode(code))
			checkTransistors(t, "any active", nil, s, netlistCode(code))
		}
	}
}

func TestTransistorsCellByCell(t *testing.T) {
	met := map[int64]int{}
	for bits := range 1 << 16 {
		poly, active := formOfBoxes(unitBoxes(bits&255, 4, 8)), formOfBoxes(unitBoxes(bits>>8, 4, 8))
		want := transistorsWant(poly, active)
		met[want.Code]++
		if got := impl.TransistorsOf(poly, active); !sameNetlistResult(got, want) {
			t.Fatalf("TransistorsOf(%v, %v) = %v, want %v", poly, active, got, want)
		}
	}
	if met[impl.OK] < 1000 {
		t.Errorf("the codes are %v", met)
	}
}

// In a frame of three by three, each gate may have up to four parts beside it.
func TestTransistorsOfSquares(t *testing.T) {
	met := map[int64]int{}
	for bits := 0; bits < 1<<18; bits += 7 {
		poly, active := formOfBoxes(unitBoxes(bits&511, 3, 9)), formOfBoxes(unitBoxes(bits>>9, 3, 9))
		want := transistorsWant(poly, active)
		met[want.Code]++
		if got := impl.TransistorsOf(poly, active); !sameNetlistResult(got, want) {
			t.Fatalf("TransistorsOf(%v, %v) = %v, want %v", poly, active, got, want)
		}
	}
	if met[impl.OK] < 1000 || met[impl.ErrMany] < 10 {
		t.Errorf("the codes are %v", met)
	}
}

func TestSomeTransistors(t *testing.T) {
	chance := rand.New(rand.NewSource(41))
	met, pins := map[int64]int{}, map[int]int{}
	for i := range 2500 {
		poly := formOfBoxes(someBoxes(chance.Int63(), chance.Intn(7), 7))
		active := formOfBoxes(someBoxes(chance.Int63(), chance.Intn(14), 7))
		if i%3 == 0 {
			x, y := 1+chance.Int63n(1400), 1+chance.Int63n(1400)
			poly, active = stretched(poly, x, y), stretched(active, x, y)
		}
		want := transistorsWant(poly, active)
		met[want.Code]++
		for _, d := range want.Netlist.Devices {
			pins[len(d.Pins)]++
		}
		checkTransistors(t, "some shapes", poly, active, want)
	}
	if met[impl.OK] < 100 || met[impl.ErrMany] < 100 || min(pins[1], pins[2], pins[3], pins[4]) < 10 {
		t.Errorf("the codes are %v, the pins %v", met, pins)
	}
}

// What a gate and the bare active have may be far more boxes than a shape: 149 teeth, cut into 149 bands, are one gate.
func TestAGateOfManyBoxes(t *testing.T) {
	var poly []impl.Box
	active := boxes(box(-3, -1, 400, 0))
	for i := range int64(149) {
		poly = append(poly, box(2*i, 0, 2*i+1, 150))
		active = append(active, box(0, i, 299+i%2, i+1))
	}
	poly = append(poly, box(-1, 150, 300, 151))
	active[149] = box(0, 148, 301, 151)
	if impl.ShapeFault(poly) != impl.OK || impl.ShapeFault(active) != impl.OK {
		t.Fatal("the shapes have a fault")
	}
	checkTransistors(t, "gaps that are joined below", poly, active, gates(2, numbers(0, 1)))
	checkTransistors(t, "gaps that are parts", poly, active[1:], netlistCode(impl.ErrMany))
	checkTransistors(t, "teeth that are gates", poly, active[:149], netlistCode(impl.ErrMany))
	checkTransistors(t, "turned round", active, poly, gates(2, numbers(0, 1)))
}
