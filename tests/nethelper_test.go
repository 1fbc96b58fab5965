package tests

import (
	"math"
	"slices"
	"testing"

	"loop.example/g00057/impl"
)

func via(low int64, high int64, b impl.Box) impl.Via {
	return impl.Via{Low: low, High: high, Box: b}
}

func wired(layers [][]impl.Box, vias ...impl.Via) impl.Wiring {
	return impl.Wiring{Layers: layers, Vias: vias}
}

// layersWith has a layer for each list, as it is.
func layersWith(list ...[]impl.Box) [][]impl.Box {
	return list
}

func netRows(rows ...[]int64) impl.NetRows {
	return impl.NetRows{Rows: rows}
}

func numbers(list ...int64) []int64 {
	return list
}

func device(kind int64, pins ...int64) impl.Device {
	return impl.Device{Kind: kind, Pins: pins}
}

func circuit(nets int64, devices ...impl.Device) impl.Netlist {
	return impl.Netlist{Nets: nets, Devices: devices}
}

func netlistCode(code int64) impl.NetlistResult {
	return impl.NetlistResult{Code: code}
}

// wiringFaultsOf are the codes of all that is wrong with a wiring, in the document's order.
func wiringFaultsOf(w impl.Wiring) []int64 {
	var codes []int64
	wrong := func(code int64, holds ...bool) {
		if slices.Contains(holds, true) {
			codes = append(codes, code)
		}
	}
	wrong(impl.ErrMany, len(w.Layers) >= 9)
	for _, s := range w.Layers {
		code := shapeFaultWant(s)
		wrong(code, code != impl.OK)
	}
	wrong(impl.ErrMany, len(w.Vias) >= 61)
	last := int64(len(w.Layers)) - 1
	for _, v := range w.Vias {
		wrong(impl.ErrForm, v.Low <= -1, v.Low > last, v.High <= -1, v.High > last, v.Low == v.High)
		code := boxesFaultWant(boxes(v.Box))
		wrong(code, code != impl.OK)
	}
	return codes
}

func wiringFaultWant(w impl.Wiring) int64 {
	return append(wiringFaultsOf(w), impl.OK)[0]
}

// wireCell is a strip of a layer.
type wireCell struct {
	layer int64
	i, j  int
}

// wireFlood goes over strips that lie the same on all layers, and neither cut a box nor a via.
type wireFlood struct {
	grids  []strips
	xs, ys []int64
	vias   []impl.Via
	asked  []bool
	nets   map[wireCell]int64
}

func newFlood(w impl.Wiring) *wireFlood {
	all := slices.Clone(w.Layers)
	for _, v := range w.Vias {
		all = append(all, boxes(v.Box))
	}
	f := &wireFlood{vias: w.Vias, asked: make([]bool, len(w.Vias)), nets: map[wireCell]int64{}}
	f.xs, f.ys = placesOf(0, all...)
	for _, s := range w.Layers {
		f.grids = append(f.grids, stripsAt(s, f.xs, f.ys))
	}
	return f
}

// stripAt has the cell, if one has it.
func (f *wireFlood) stripAt(layer int64, x int64, y int64) wireCell {
	place := func(places []int64, at int64) int {
		i, found := slices.BinarySearch(places, at)
		if !found {
			i--
		}
		return i
	}
	return wireCell{layer, place(f.xs, x), place(f.ys, y)}
}

// through are the strips of both layers that a via has, if it has this one, too.
func (f *wireFlood) through(v impl.Via, c wireCell) []wireCell {
	in := cellsOf(boxes(v.Box))
	if c.layer != v.Low && c.layer != v.High || !in(f.xs[c.i], f.ys[c.j]) {
		return nil
	}
	var list []wireCell
	for j, row := range f.grids[c.layer].rows {
		for i := range row {
			if in(f.xs[i], f.ys[j]) {
				list = append(list, wireCell{v.Low, i, j}, wireCell{v.High, i, j})
			}
		}
	}
	return list
}

func (f *wireFlood) reach(first wireCell, net int64) {
	work := []wireCell{first}
	for len(work) > 0 {
		c := work[len(work)-1]
		work = work[:len(work)-1]
		if _, known := f.nets[c]; known || !f.grids[c.layer].has(c.i, c.j) {
			continue
		}
		f.nets[c] = net
		for _, step := range [][2]int{{1, 0}, {-1, 0}, {0, 1}, {0, -1}} {
			work = append(work, wireCell{c.layer, c.i + step[0], c.j + step[1]})
		}
		for n, v := range f.vias {
			if more := f.through(v, c); !f.asked[n] && more != nil {
				f.asked[n] = true
				work = append(work, more...)
			}
		}
	}
}

// netsWant floods from part to part.
func netsWant(w impl.Wiring) (impl.NetRows, *wireFlood) {
	if code := wiringFaultWant(w); code != impl.OK {
		return impl.NetRows{Code: code}, nil
	}
	f := newFlood(w)
	nets := int64(0)
	rows := make([][]int64, len(w.Layers))
	for layer, s := range w.Layers {
		for _, part := range partsAt(s, f.xs, f.ys) {
			first := f.stripAt(int64(layer), part[0].X0, part[0].Y0)
			if _, known := f.nets[first]; !known {
				f.reach(first, nets)
				nets++
			}
			rows[layer] = append(rows[layer], f.nets[first])
		}
	}
	return impl.NetRows{Rows: rows}, f
}

func netAtWant(w impl.Wiring, layer int64, x int64, y int64) int64 {
	nets, f := netsWant(w)
	if nets.Code != impl.OK || layer < 0 || layer >= int64(len(w.Layers)) || !cellsOf(w.Layers[layer])(x, y) {
		return -1
	}
	return f.nets[f.stripAt(layer, x, y)]
}

// haveSide looks from each strip of one to its neighbours.
func haveSide(one []impl.Box, other []impl.Box, xs []int64, ys []int64) bool {
	a, b := stripsAt(one, xs, ys), stripsAt(other, xs, ys)
	for j, row := range a.rows {
		for i := range row {
			if a.has(i, j) && (b.has(i-1, j) || b.has(i+1, j) || b.has(i, j-1) || b.has(i, j+1)) {
				return true
			}
		}
	}
	return false
}

func transistorsWant(poly []impl.Box, active []impl.Box) impl.NetlistResult {
	if code := shapeFaultWant(poly); code != impl.OK {
		return netlistCode(code)
	}
	if code := shapeFaultWant(active); code != impl.OK {
		return netlistCode(code)
	}
	xs, ys := placesOf(0, poly, active)
	isPoly, isActive := cellsOf(poly), cellsOf(active)
	both := formOf(func(x int64, y int64) bool { return isPoly(x, y) && isActive(x, y) }, xs, ys)
	alone := formOf(func(x int64, y int64) bool { return isActive(x, y) && !isPoly(x, y) }, xs, ys)
	lines, gates := partsAt(poly, xs, ys), partsAt(both, xs, ys)
	nets := append(slices.Clone(lines), partsAt(alone, xs, ys)...)
	many := len(gates) >= 13 || len(nets) >= 8
	var devices []impl.Device
	for _, gate := range gates {
		d := impl.Device{Kind: 1}
		for n, part := range nets {
			if n < len(lines) && cellsOf(part)(gate[0].X0, gate[0].Y0) || n >= len(lines) && haveSide(gate, part, xs, ys) {
				d.Pins = append(d.Pins, int64(n))
			}
		}
		many = many || len(d.Pins) >= 5
		devices = append(devices, d)
	}
	if many {
		return netlistCode(impl.ErrMany)
	}
	return impl.NetlistResult{Netlist: circuit(int64(len(nets)), devices...)}
}

// netlistFaultsOf are the codes of all that is wrong with a circuit, in the document's order.
func netlistFaultsOf(n impl.Netlist) []int64 {
	var codes []int64
	wrong := func(code int64, holds ...bool) {
		if slices.Contains(holds, true) {
			codes = append(codes, code)
		}
	}
	wrong(impl.ErrMany, n.Nets >= 8, len(n.Devices) >= 13)
	wrong(impl.ErrForm, n.Nets <= -1)
	for _, d := range n.Devices {
		wrong(impl.ErrForm, d.Kind <= -1, d.Kind >= 101)
		wrong(impl.ErrMany, len(d.Pins) >= 5)
		for _, pin := range d.Pins {
			wrong(impl.ErrForm, pin <= -1, pin >= n.Nets)
		}
	}
	return codes
}

func netlistFaultWant(n impl.Netlist) int64 {
	return append(netlistFaultsOf(n), impl.OK)[0]
}

// namingWant puts the numbers in order: a naming is then 0, 1, 2 and so on.
func namingWant(list []int64, nets int64) bool {
	sorted := slices.Sorted(slices.Values(list))
	for i, n := range sorted {
		if n != int64(i) {
			return false
		}
	}
	return int64(len(list)) == nets
}

func renameWant(n impl.Netlist, nets []int64) impl.NetlistResult {
	if code := netlistFaultWant(n); code != impl.OK {
		return netlistCode(code)
	}
	if !namingWant(nets, n.Nets) {
		return netlistCode(impl.ErrForm)
	}
	renamed := copyNetlist(n)
	for _, d := range renamed.Devices {
		for i, pin := range d.Pins {
			d.Pins[i] = nets[pin]
		}
	}
	return impl.NetlistResult{Netlist: renamed}
}

func orderDevices(a impl.Device, b impl.Device) int {
	return slices.Compare(append(numbers(a.Kind), a.Pins...), append(numbers(b.Kind), b.Pins...))
}

// checkMatchWant holds the devices of both in one order.
func checkMatchWant(a impl.Netlist, b impl.Netlist, nets []int64) bool {
	renamed := renameWant(a, nets)
	if renamed.Code != impl.OK || netlistFaultWant(b) != impl.OK || a.Nets != b.Nets {
		return false
	}
	other := copyNetlist(b)
	slices.SortFunc(renamed.Netlist.Devices, orderDevices)
	slices.SortFunc(other.Devices, orderDevices)
	return sameNetlist(renamed.Netlist, other)
}

// namingsOf are all namings of up to 7 nets, in order: of all numbers of that many digits those that are namings.
func namingsOf(nets int64) [][]int64 {
	var list [][]int64
	all := int64(math.Pow(float64(nets), float64(nets)))
	for n := range all {
		digits := make([]int64, nets)
		for i, rest := nets-1, n; i >= 0; i-- {
			digits[i] = rest % nets
			rest /= nets
		}
		if namingWant(digits, nets) {
			list = append(list, digits)
		}
	}
	return list
}

// matchWant wants the namings of as many nets as a has, where a is right.
func matchWant(a impl.Netlist, b impl.Netlist, namings [][]int64) impl.MatchResult {
	for _, n := range []impl.Netlist{a, b} {
		if code := netlistFaultWant(n); code != impl.OK {
			return impl.MatchResult{Code: code}
		}
	}
	for _, nets := range namings {
		if checkMatchWant(a, b, nets) {
			return impl.MatchResult{Nets: nets}
		}
	}
	return impl.MatchResult{Code: impl.ErrNone}
}

func copyNetlist(n impl.Netlist) impl.Netlist {
	n.Devices = slices.Clone(n.Devices)
	for i, d := range n.Devices {
		n.Devices[i].Pins = slices.Clone(d.Pins)
	}
	return n
}

func sameNetlist(a impl.Netlist, b impl.Netlist) bool {
	same := func(d impl.Device, e impl.Device) bool { return d.Kind == e.Kind && slices.Equal(d.Pins, e.Pins) }
	return a.Nets == b.Nets && slices.EqualFunc(a.Devices, b.Devices, same)
}

func sameNetlistResult(a impl.NetlistResult, b impl.NetlistResult) bool {
	return a.Code == b.Code && sameNetlist(a.Netlist, b.Netlist)
}

func sameRows(a impl.NetRows, b impl.NetRows) bool {
	same := func(p []int64, q []int64) bool { return slices.Equal(p, q) }
	return a.Code == b.Code && slices.EqualFunc(a.Rows, b.Rows, same)
}

func sameMatch(a impl.MatchResult, b impl.MatchResult) bool {
	return a.Code == b.Code && slices.Equal(a.Nets, b.Nets)
}

func checkNets(t *testing.T, what string, w impl.Wiring, want impl.NetRows) {
	t.Helper()
	if got := impl.NetsOf(w); !sameRows(got, want) {
		t.Errorf("the nets of %s, %s: %s, want %s", what, brief(w), brief(got), brief(want))
	}
}

func checkNetlist(t *testing.T, what string, got impl.NetlistResult, want impl.NetlistResult) {
	t.Helper()
	if !sameNetlistResult(got, want) {
		t.Errorf("%s: %s, want %s", what, brief(got), brief(want))
	}
}

func checkMatch(t *testing.T, what string, a impl.Netlist, b impl.Netlist, want impl.MatchResult) {
	t.Helper()
	if got := impl.MatchNets(a, b); !sameMatch(got, want) {
		t.Errorf("%s, %s and %s: %s, want %s", what, brief(a), brief(b), brief(got), brief(want))
	}
}
