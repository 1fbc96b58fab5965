package tests

import (
	"math"
	"slices"
	"testing"

	"loop.example/g00057/impl"
)

// strips is a set that does not change between two neighbouring places across, nor between two upward.
type strips struct {
	xs, ys []int64
	rows   [][]bool
}

func stripsAt(s []impl.Box, xs []int64, ys []int64) strips {
	in := cellsOf(s)
	g := strips{xs: xs, ys: ys}
	for j := 0; j+1 < len(ys); j++ {
		row := make([]bool, len(xs)-1)
		for i := range row {
			row[i] = in(xs[i], ys[j])
		}
		g.rows = append(g.rows, row)
	}
	return g
}

func stripsOf(s []impl.Box) strips {
	xs, ys := placesOf(0, s)
	return stripsAt(s, xs, ys)
}

func (g strips) has(i int, j int) bool {
	return j >= 0 && j < len(g.rows) && i >= 0 && i < len(g.rows[j]) && g.rows[j][i]
}

// turnedOver has columns for rows.
func (g strips) turnedOver() strips {
	over := strips{xs: g.ys, ys: g.xs}
	for i := 0; i+1 < len(g.xs); i++ {
		column := make([]bool, len(g.rows))
		for j := range column {
			column[j] = g.has(i, j)
		}
		over.rows = append(over.rows, column)
	}
	return over
}

// run is the run around a strip, across, of strips that are all in the set or all out of it.
func (g strips) run(i int, j int) (from int, to int) {
	from, to = i, i+1
	for from > 0 && g.has(from-1, j) == g.has(i, j) {
		from--
	}
	for to < len(g.rows[j]) && g.has(to, j) == g.has(i, j) {
		to++
	}
	return from, to
}

func (g strips) thin(i int, j int, size int64) bool {
	from, to := g.run(i, j)
	return g.has(i, j) && g.xs[to]-g.xs[from] < size
}

func (g strips) near(i int, j int, size int64) bool {
	from, to := g.run(i, j)
	return !g.has(i, j) && g.has(from-1, j) && g.has(to, j) && g.xs[to]-g.xs[from] < size
}

// eitherWay is the form of the strips that offend in their row or in their column.
func (g strips) eitherWay(offends func(g strips, i int, j int) bool) []impl.Box {
	over := g.turnedOver()
	picked := func(x int64, y int64) bool {
		i, _ := slices.BinarySearch(g.xs, x)
		j, _ := slices.BinarySearch(g.ys, y)
		return offends(g, i, j) || offends(over, j, i)
	}
	return formOf(picked, g.xs, g.ys)
}

// sizeWant is the code of a shape and a number, in the order that the chapter tells.
func sizeWant(s []impl.Box, size int64, least int64, most int64) int64 {
	if code := shapeFaultWant(s); code != impl.OK {
		return code
	}
	if size < least || size > most {
		return impl.ErrRange
	}
	return impl.OK
}

func thinWant(s []impl.Box, size int64) impl.ShapeResult {
	if code := sizeWant(s, size, 1, 1000); code != impl.OK {
		return shapeCode(code)
	}
	return shapeWant(stripsOf(s).eitherWay(func(g strips, i int, j int) bool { return g.thin(i, j, size) }))
}

func nearWant(s []impl.Box, size int64) impl.ShapeResult {
	if code := sizeWant(s, size, 1, 1000); code != impl.OK {
		return shapeCode(code)
	}
	return shapeWant(stripsOf(s).eitherWay(func(g strips, i int, j int) bool { return g.near(i, j, size) }))
}

// grownWant is a shape, or a code, without a look at how the program grows one.
func grownWant(s []impl.Box, by int64) impl.ShapeResult {
	for _, b := range s {
		if min(b.X0, b.Y0)-by < -10000 || max(b.X1, b.Y1)+by > 10000 {
			return shapeCode(impl.ErrRange)
		}
	}
	return shapeWant(growForm(s, by))
}

// pairWant is what a word says of one shape, grown, and another.
func pairWant(s []impl.Box, other []impl.Box, by int64, word shapeWord) impl.ShapeResult {
	if code := shapeFaultWant(s); code != impl.OK {
		return shapeCode(code)
	}
	if code := sizeWant(other, by, 0, 1000); code != impl.OK {
		return shapeCode(code)
	}
	grown := grownWant(s, by)
	if grown.Code != impl.OK {
		return grown
	}
	return word.want(grown.Boxes, other)
}

func coverWant(inner []impl.Box, outer []impl.Box, by int64) impl.ShapeResult {
	return pairWant(inner, outer, by, shapeWord{says: func(grown bool, out bool) bool { return grown && !out }})
}

func apartWant(a []impl.Box, b []impl.Box, by int64) impl.ShapeResult {
	return pairWant(a, b, by, shapeWord{says: func(grown bool, other bool) bool { return grown && other }})
}

// flood takes the strip and all that are joined to it by sides out of the set, and answers them as boxes.
func (g strips) flood(i int, j int) []impl.Box {
	if !g.has(i, j) {
		return nil
	}
	g.rows[j][i] = false
	part := boxes(box(g.xs[i], g.ys[j], g.xs[i+1], g.ys[j+1]))
	for _, step := range [][2]int{{1, 0}, {-1, 0}, {0, 1}, {0, -1}} {
		part = append(part, g.flood(i+step[0], j+step[1])...)
	}
	return part
}

// partsAt floods from box to box of s, in their order.
func partsAt(s []impl.Box, xs []int64, ys []int64) [][]impl.Box {
	var parts [][]impl.Box
	g := stripsAt(s, xs, ys)
	for _, b := range s {
		i, _ := slices.BinarySearch(xs, b.X0)
		j, _ := slices.BinarySearch(ys, b.Y0)
		if part := g.flood(i, j); len(part) > 0 {
			parts = append(parts, formOfBoxes(part))
		}
	}
	return parts
}

func partsWant(s []impl.Box) impl.PartsResult {
	if code := shapeFaultWant(s); code != impl.OK {
		return impl.PartsResult{Code: code}
	}
	xs, ys := placesOf(0, s)
	return impl.PartsResult{Parts: partsAt(s, xs, ys)}
}

func cellCount(list []impl.Box) int64 {
	cells := int64(0)
	for _, b := range list {
		cells += (b.X1 - b.X0) * (b.Y1 - b.Y0)
	}
	return cells
}

func smallWant(s []impl.Box, area int64) impl.ShapeResult {
	if code := sizeWant(s, area, 1, 1000000000); code != impl.OK {
		return shapeCode(code)
	}
	var small []impl.Box
	for _, part := range partsWant(s).Parts {
		if cellCount(part) < area {
			small = append(small, part...)
		}
	}
	return shapeWant(formOfBoxes(small))
}

func rule(kind int64, a int64, b int64, size int64) impl.Rule {
	return impl.Rule{Kind: kind, A: a, B: b, Size: size}
}

// ruleFaultsOf are the codes of all that is wrong with rules, in the document's order.
func ruleFaultsOf(rules []impl.Rule, layers int64) []int64 {
	var codes []int64
	wrong := func(code int64, holds ...bool) {
		if slices.Contains(holds, true) {
			codes = append(codes, code)
		}
	}
	wrong(impl.ErrMany, len(rules) >= 31)
	for _, r := range rules {
		two := r.Kind == impl.RuleCover || r.Kind == impl.RuleApart
		wrong(impl.ErrForm, r.Kind <= 0, r.Kind >= 6, r.A <= -1, r.A >= layers, two && r.B <= -1, two && r.B >= layers)
		wrong(impl.ErrRange, r.Size <= 0, r.Size >= 1001)
	}
	return codes
}

func rulesFaultWant(rules []impl.Rule, layers int64) int64 {
	return append(ruleFaultsOf(rules, layers), impl.OK)[0]
}

func toldWant(layers [][]impl.Box, r impl.Rule) impl.ShapeResult {
	switch r.Kind {
	case 1:
		return thinWant(layers[r.A], r.Size)
	case 2:
		return nearWant(layers[r.A], r.Size)
	case 3:
		return coverWant(layers[r.A], layers[r.B], r.Size)
	case 4:
		return apartWant(layers[r.A], layers[r.B], r.Size)
	}
	return smallWant(layers[r.A], r.Size)
}

func flawsCode(code int64) impl.FlawsResult {
	return impl.FlawsResult{Code: code}
}

func checkRulesWant(layers [][]impl.Box, rules []impl.Rule) impl.FlawsResult {
	if len(layers) > 8 {
		return flawsCode(impl.ErrMany)
	}
	for _, s := range layers {
		if code := shapeFaultWant(s); code != impl.OK {
			return flawsCode(code)
		}
	}
	if code := rulesFaultWant(rules, int64(len(layers))); code != impl.OK {
		return flawsCode(code)
	}
	var flaws []impl.Flaw
	for i, r := range rules {
		told := toldWant(layers, r)
		if told.Code != impl.OK {
			return flawsCode(told.Code)
		}
		if len(told.Boxes) > 0 {
			flaws = append(flaws, impl.Flaw{Rule: int64(i), Boxes: told.Boxes})
		}
	}
	return impl.FlawsResult{Flaws: flaws}
}

func checkCellWant(list []impl.Cell, name string, rules []impl.Rule) impl.FlawsResult {
	var layers [][]impl.Box
	for n := range int64(8) {
		layer := layerWant(list, name, n)
		if layer.Code != impl.OK {
			return flawsCode(layer.Code)
		}
		layers = append(layers, layer.Boxes)
	}
	return checkRulesWant(layers, rules)
}

func sameParts(a impl.PartsResult, b impl.PartsResult) bool {
	same := func(p []impl.Box, q []impl.Box) bool { return slices.Equal(p, q) }
	return a.Code == b.Code && slices.EqualFunc(a.Parts, b.Parts, same)
}

func sameFlaws(a impl.FlawsResult, b impl.FlawsResult) bool {
	same := func(f impl.Flaw, g impl.Flaw) bool { return f.Rule == g.Rule && slices.Equal(f.Boxes, g.Boxes) }
	return a.Code == b.Code && slices.EqualFunc(a.Flaws, b.Flaws, same)
}

func checkParts(t *testing.T, what string, s []impl.Box, want impl.PartsResult) {
	t.Helper()
	if got := impl.PartsOf(s); !sameParts(got, want) {
		t.Errorf("the parts of %s, %s: %s, want %s", what, brief(s), brief(got), brief(want))
	}
}

func checkFlaws(t *testing.T, what string, got impl.FlawsResult, want impl.FlawsResult) {
	t.Helper()
	if !sameFlaws(got, want) {
		t.Errorf("%s: %s, want %s", what, brief(got), brief(want))
	}
}

// sizeEdges are at and beyond the bounds of sizes, bys and areas, and at the ends of int64.
func sizeEdges() []int64 {
	return []int64{math.MinInt64, math.MinInt64 + 1, -1000000001, -1000000000, -1001, -1000, -2, -1, 0, 1, 2, 3, 999, 1000, 1001,
		999999999, 1000000000, 1000000001, 1 << 32, 1<<32 + 1, math.MaxInt64 - 1, math.MaxInt64}
}

// faultyShapes have one fault each: too many boxes, none in the right form, one beyond the places, not the one form.
func faultyShapes() map[int64][]impl.Box {
	return map[int64][]impl.Box{
		impl.ErrMany:  boxesApart(impl.MaxBoxes+1, 0),
		impl.ErrRange: boxes(box(0, 0, 1, 1), box(0, 2, 10001, 3)),
		impl.ErrForm:  boxes(box(0, 0, 1, 1), box(1, 0, 2, 1)),
	}
}
