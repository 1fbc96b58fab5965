package tests

import (
	"math"
	"math/big"
	"math/rand"
	"regexp"
	"slices"
	"strings"
	"testing"

	"loop.example/g00057/impl"
)

func on(layer int64, b impl.Box) impl.LBox {
	return impl.LBox{Layer: layer, Box: b}
}

func lboxes(list ...impl.LBox) []impl.LBox {
	return list
}

// once places a cell at a place, as it is.
func once(name string, x int64, y int64) impl.Place {
	return impl.Place{Cell: name, X: x, Y: y, Nx: 1, Ny: 1}
}

func rowsOf(name string, nx int64, ny int64, dx int64, dy int64) impl.Place {
	return impl.Place{Cell: name, Nx: nx, Ny: ny, Dx: dx, Dy: dy}
}

func cellWith(name string, list []impl.LBox, places ...impl.Place) impl.Cell {
	return impl.Cell{Name: name, Boxes: list, Places: places}
}

// unit is a cell with one box of one cell on layer 0.
func unit(name string) impl.Cell {
	return cellWith(name, lboxes(on(0, box(0, 0, 1, 1))))
}

// chainOf has n cells, each of which places the one ahead of it in nx columns and ny rows.
func chainOf(first impl.Cell, n int, nx int64, ny int64) []impl.Cell {
	list := []impl.Cell{first}
	for i := 1; i < n; i++ {
		list = append(list, cellWith("c"+string(rune('a'+i)), nil, rowsOf(list[i-1].Name, nx, ny, 1, 1)))
	}
	return list
}

func lastName(list []impl.Cell) string {
	return list[len(list)-1].Name
}

func copyLib(list []impl.Cell) []impl.Cell {
	out := slices.Clone(list)
	for i, c := range out {
		out[i].Boxes, out[i].Places = slices.Clone(c.Boxes), slices.Clone(c.Places)
	}
	return out
}

func sameLib(a []impl.Cell, b []impl.Cell) bool {
	return slices.EqualFunc(a, b, func(c impl.Cell, d impl.Cell) bool {
		return c.Name == d.Name && slices.Equal(c.Boxes, d.Boxes) && slices.Equal(c.Places, d.Places)
	})
}

func sameFlat(a impl.FlatResult, b impl.FlatResult) bool {
	return a.Code == b.Code && slices.Equal(a.Boxes, b.Boxes)
}

func sameLibResult(a impl.LibResult, b impl.LibResult) bool {
	return a.Code == b.Code && a.At == b.At && sameLib(a.Cells, b.Cells)
}

func checkFlat(t *testing.T, what string, got impl.FlatResult, want impl.FlatResult) {
	t.Helper()
	if !sameFlat(got, want) {
		t.Errorf("%s: code %d, %d boxes %v; want code %d, %d boxes %v", what, got.Code, len(got.Boxes), got.Boxes, want.Code, len(want.Boxes), want.Boxes)
	}
}

var rightName = regexp.MustCompile(`\A[A-Za-z_][A-Za-z0-9_]{0,15}\z`)

func nameWant(name string) int64 {
	if rightName.MatchString(name) {
		return impl.OK
	}
	return impl.ErrForm
}

func placeOf(list []impl.Cell, name string) int {
	return slices.IndexFunc(list, func(c impl.Cell) bool { return c.Name == name })
}

// faultsOf are the codes of all that is wrong with a list, in the document's order.
func faultsOf(list []impl.Cell) []int64 {
	var codes []int64
	wrong := func(code int64, holds ...bool) {
		if slices.Contains(holds, true) {
			codes = append(codes, code)
		}
	}
	wrong(impl.ErrMany, len(list) >= 21)
	for i, c := range list {
		wrong(impl.ErrForm, nameWant(c.Name) != impl.OK)
		wrong(impl.ErrForm, placeOf(list, c.Name) < i)
		wrong(impl.ErrMany, len(c.Boxes) >= 61, len(c.Places) >= 21)
		for _, b := range c.Boxes {
			wrong(impl.ErrForm, b.Layer <= -1, b.Layer >= 16)
			wrong(impl.ErrForm, b.Box.X1 <= b.Box.X0, b.Box.Y1 <= b.Box.Y0)
			wrong(impl.ErrRange, b.Box.X0 < -10000, b.Box.Y0 < -10000, b.Box.X1 > 10000, b.Box.Y1 > 10000)
		}
		for _, p := range c.Places {
			wrong(impl.ErrNone, placeOf(list[:i], p.Cell) < 0)
			wrong(impl.ErrForm, p.Turn <= -1, p.Turn >= 4, p.Nx <= 0, p.Nx >= 21, p.Ny <= 0, p.Ny >= 21)
			least, most := min(p.X, p.Y, p.Dx, p.Dy), max(p.X, p.Y, p.Dx, p.Dy)
			wrong(impl.ErrRange, least <= -10001, most >= 10001)
		}
	}
	return codes
}

func libFaultWant(list []impl.Cell) int64 {
	return append(faultsOf(list), impl.OK)[0]
}

// wrapped is what an int64 has of a number, modulo 2^64.
func wrapped(n *big.Int) int64 {
	bits := new(big.Int).And(n, new(big.Int).SetUint64(math.MaxUint64))
	return int64(bits.Uint64())
}

// putWant looks up, side by side, which side of the box becomes which, and adds the way in numbers of any size.
func putWant(p impl.Place, i int64, j int64, b impl.Box) impl.Box {
	left, right := big.NewInt(b.X0), big.NewInt(b.X1)
	low, high := big.NewInt(b.Y0), big.NewInt(b.Y1)
	minus := func(n *big.Int) *big.Int { return new(big.Int).Neg(n) }
	if p.Flip {
		left, right = minus(right), minus(left)
	}
	quarters := new(big.Int).Mod(big.NewInt(p.Turn), big.NewInt(4)).Int64()
	sides := [4][4]*big.Int{
		{left, low, right, high},
		{minus(high), left, minus(low), right},
		{minus(right), minus(high), minus(left), minus(low)},
		{low, minus(right), high, minus(left)},
	}[quarters]
	across := new(big.Int).Mul(big.NewInt(i), big.NewInt(p.Dx))
	across.Add(across, big.NewInt(p.X))
	upward := new(big.Int).Mul(big.NewInt(j), big.NewInt(p.Dy))
	upward.Add(upward, big.NewInt(p.Y))
	far := func(n *big.Int, way *big.Int) int64 { return wrapped(new(big.Int).Add(n, way)) }
	return box(far(sides[0], across), far(sides[1], upward), far(sides[2], across), far(sides[3], upward))
}

// flatWalk walks through every cell that is placed, however often; for small layouts without a fault.
func flatWalk(list []impl.Cell, name string) []impl.LBox {
	c := list[placeOf(list, name)]
	out := slices.Clone(c.Boxes)
	for _, p := range c.Places {
		for j := range p.Ny {
			for i := range p.Nx {
				for _, b := range flatWalk(list, p.Cell) {
					out = append(out, on(b.Layer, putWant(p, i, j, b.Box)))
				}
			}
		}
	}
	return out
}

// countWalk counts flat boxes in numbers of any size.
func countWalk(list []impl.Cell, name string) *big.Int {
	counts := map[string]*big.Int{}
	for _, c := range list {
		count := big.NewInt(int64(len(c.Boxes)))
		for _, p := range c.Places {
			count.Add(count, new(big.Int).Mul(big.NewInt(p.Nx*p.Ny), counts[p.Cell]))
		}
		counts[c.Name] = count
	}
	return counts[name]
}

func countWant(list []impl.Cell, name string) impl.ShapeInt {
	if code := libFaultWant(list); code != impl.OK {
		return impl.ShapeInt{Code: code}
	}
	if placeOf(list, name) < 0 {
		return impl.ShapeInt{Code: impl.ErrNone}
	}
	count := countWalk(list, name)
	if count.Cmp(big.NewInt(400)) > 0 {
		return impl.ShapeInt{Code: impl.ErrMany}
	}
	return impl.ShapeInt{Value: count.Int64()}
}

func flattenWant(list []impl.Cell, name string) impl.FlatResult {
	if counted := countWant(list, name); counted.Code != impl.OK {
		return impl.FlatResult{Code: counted.Code}
	}
	flat := flatWalk(list, name)
	for _, b := range flat {
		if min(b.Box.X0, b.Box.Y0) < -10000 || max(b.Box.X1, b.Box.Y1) > 10000 {
			return impl.FlatResult{Code: impl.ErrRange}
		}
	}
	return impl.FlatResult{Boxes: flat}
}

func layerWant(list []impl.Cell, name string, layer int64) impl.ShapeResult {
	flat := flattenWant(list, name)
	if flat.Code != impl.OK {
		return shapeCode(flat.Code)
	}
	var those []impl.Box
	for _, b := range flat.Boxes {
		if b.Layer == layer {
			those = append(those, b.Box)
		}
	}
	if len(those) > 150 {
		return shapeCode(impl.ErrMany)
	}
	return shapeWant(formOfBoxes(those))
}

func depthWalk(list []impl.Cell, name string) int64 {
	deepest := int64(0)
	for _, p := range list[placeOf(list, name)].Places {
		deepest = max(deepest, depthWalk(list, p.Cell))
	}
	return deepest + 1
}

func depthWant(list []impl.Cell, name string) impl.ShapeInt {
	if code := libFaultWant(list); code != impl.OK {
		return impl.ShapeInt{Code: code}
	}
	if placeOf(list, name) < 0 {
		return impl.ShapeInt{Code: impl.ErrNone}
	}
	return impl.ShapeInt{Value: depthWalk(list, name)}
}

func topsWant(list []impl.Cell) []string {
	var tops []string
	if libFaultWant(list) != impl.OK {
		return tops
	}
	for _, c := range list {
		if !slices.ContainsFunc(list, func(over impl.Cell) bool {
			return slices.ContainsFunc(over.Places, func(p impl.Place) bool { return p.Cell == c.Name })
		}) {
			tops = append(tops, c.Name)
		}
	}
	return tops
}

// someLib has no fault; its numbers are small, but for now and then one that leads out of the places.
func someLib(seed int64) []impl.Cell {
	chance := rand.New(rand.NewSource(seed))
	names := []string{"a", "Z9", "_", "top_1", strings.Repeat("w", 16), "b", "B"}
	list := make([]impl.Cell, 0, len(names))
	small := func() int64 { return chance.Int63n(13) - 6 }
	for n := range 1 + chance.Intn(len(names)) {
		c := impl.Cell{Name: names[n]}
		for range chance.Intn(4) {
			x, y := small(), small()
			c.Boxes = append(c.Boxes, on(chance.Int63n(3), box(x, y, x+1+chance.Int63n(4), y+1+chance.Int63n(4))))
		}
		for range min(n, chance.Intn(3)) {
			p := impl.Place{Cell: names[chance.Intn(n)], X: small(), Y: small(), Turn: chance.Int63n(4), Flip: chance.Intn(2) == 1,
				Nx: 1 + chance.Int63n(3), Ny: 1 + chance.Int63n(3), Dx: small(), Dy: small()}
			if chance.Intn(12) == 0 {
				p.X = 10000 - chance.Int63n(4)
			}
			c.Places = append(c.Places, p)
		}
		list = append(list, c)
	}
	return list
}

// spoiled has, mostly, one thing or some that are at a bound or beyond it.
func spoiled(list []impl.Cell, seed int64) []impl.Cell {
	chance := rand.New(rand.NewSource(seed))
	list = copyLib(list)
	edges := append(edgePlaces(), -1, 0, 1, 3, 4, 15, 16, 20, 21)
	pick := func() int64 { return edges[chance.Intn(len(edges))] }
	words := []string{"", "9a", "a", "none", "Z9", "a b", "é", strings.Repeat("w", 17)}
	for range 1 + chance.Intn(3) {
		c := &list[chance.Intn(len(list))]
		switch chance.Intn(7) {
		case 0:
			c.Name = words[chance.Intn(len(words))]
		case 1:
			c.Boxes = append(c.Boxes, on(pick(), box(pick(), 0, pick(), 5)))
		case 2:
			c.Boxes = append(c.Boxes, on(1, box(pick(), pick(), pick(), pick())))
		case 3:
			c.Places = append(c.Places, impl.Place{Cell: words[chance.Intn(len(words))], Turn: pick(), Nx: 1, Ny: 1})
		case 4:
			c.Places = append(c.Places, impl.Place{Cell: "a", X: pick(), Y: pick(), Nx: pick(), Ny: pick()})
		case 5:
			c.Places = append(c.Places, impl.Place{Cell: "a", Nx: 20, Ny: 20, Dx: pick(), Dy: pick()})
		case 6:
			list = append(list, list...)
		}
	}
	return list
}

// someLibs are right and wrong ones, and those that stand at the bounds; the same at every run.
func someLibs(n int) [][]impl.Cell {
	list := [][]impl.Cell{
		nil, {}, {{}}, {unit("a")}, {unit("a"), unit("a")}, make([]impl.Cell, 20), make([]impl.Cell, 21),
		chainOf(unit("a"), 3, 2, 2), chainOf(unit("a"), 4, 20, 1),
		{cellWith("a", make([]impl.LBox, 61))}, {cellWith("a", nil, make([]impl.Place, 21)...)},
	}
	for i := range int64(n) {
		right := someLib(i)
		list = append(list, right, spoiled(right, i))
	}
	return list
}

// someNames are of cells that layouts have, or have not.
func someNames() []string {
	return []string{"a", "Z9", "_", "top_1", "b", "B", strings.Repeat("w", 16), "", "none", "é", "9a", strings.Repeat("w", 17), strings.Repeat("x", 5000)}
}
