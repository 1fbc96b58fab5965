package tests

import (
	"math"
	"slices"
	"strconv"
	"strings"
	"testing"

	"loop.example/g00057/impl"
)

func checkName(t *testing.T, name string, want int64) {
	t.Helper()
	if got := impl.NameFault(name); got != want {
		t.Errorf("NameFault(%q) = %d, want %d", name, got, want)
	}
}

func checkLib(t *testing.T, what string, list []impl.Cell, want int64) {
	t.Helper()
	if got := impl.LibFault(list); got != want {
		t.Errorf("LibFault, %s: %d, want %d", what, got, want)
	}
	if own := libFaultWant(list); own != want {
		t.Errorf("the tests' own reckoning, %s: %d, want %d", what, own, want)
	}
}

func TestNameFault(t *testing.T) {
	long := strings.Repeat("n", impl.MaxName)
	for _, name := range []string{"a", "z", "A", "Z", "_", "__", "_9", "a0", "nand2", "Cell_1", long, long[1:], "_" + strings.Repeat("9", 15)} {
		checkName(t, name, impl.OK)
	}
	for _, name := range []string{"", "0", "9", "0a", "a b", " a", "a ", "a-b", "a.b", "a\n", "a\x00", "\x00", long + "n", long + "\x00",
		strings.Repeat("n", 100000), "é", "aé", "ñ", "Ａ", "a٣", "\xff", "a\x80", "\u212a", "ſ", "ﬁ", "1" + long[1:], strings.Repeat("é", 8)} {
		checkName(t, name, impl.ErrForm)
	}
}

// Every byte, as a name of its own, first of three, between and last.
func TestNameFaultOfEveryByte(t *testing.T) {
	const letters = "abcdefghijklmnopqrstuvwxyzABCDEFGHIJKLMNOPQRSTUVWXYZ_"
	for i := range 256 {
		c := string([]byte{byte(i)})
		first, later := int64(impl.ErrForm), int64(impl.ErrForm)
		if strings.Contains(letters, c) {
			first = impl.OK
		}
		if strings.Contains(letters+"0123456789", c) {
			later = impl.OK
		}
		checkName(t, c, first)
		checkName(t, c+"ab", first)
		checkName(t, "a"+c+"b", later)
		checkName(t, "ab"+c, later)
		checkName(t, strings.Repeat("b", 15)+c, later)
		checkName(t, strings.Repeat("b", 16)+c, impl.ErrForm)
	}
}

func TestLibFaultOfRightOnes(t *testing.T) {
	full := cellWith("full", slices.Repeat(lboxes(on(15, box(-10000, -10000, 10000, 10000))), 60),
		slices.Repeat([]impl.Place{{Cell: "a", X: -10000, Y: 10000, Turn: 3, Flip: true, Nx: 20, Ny: 20, Dx: 10000, Dy: -10000}}, 20)...)
	checkLib(t, "none", nil, impl.OK)
	checkLib(t, "an empty list", []impl.Cell{}, impl.OK)
	checkLib(t, "an empty cell", []impl.Cell{{Name: "a"}}, impl.OK)
	checkLib(t, "all at its bounds", []impl.Cell{unit("a"), full}, impl.OK)
	checkLib(t, "20 cells", chainOf(unit("a"), 20, 20, 20), impl.OK)
	checkLib(t, "names alike but for their case", []impl.Cell{unit("a"), unit("A"), unit("aa")}, impl.OK)
	for seed := range int64(200) {
		checkLib(t, "some layout", someLib(seed), impl.OK)
	}
}

func TestLibFaultOfNames(t *testing.T) {
	checkLib(t, "no name", []impl.Cell{{}}, impl.ErrForm)
	checkLib(t, "a wrong name behind", []impl.Cell{unit("a"), unit("9")}, impl.ErrForm)
	checkLib(t, "twice", []impl.Cell{unit("a"), unit("a")}, impl.ErrForm)
	checkLib(t, "twice, one between", []impl.Cell{unit("a"), unit("b"), unit("a")}, impl.ErrForm)
	checkLib(t, "placed itself", []impl.Cell{cellWith("a", nil, once("a", 0, 0))}, impl.ErrNone)
	checkLib(t, "placed from behind", []impl.Cell{cellWith("b", nil, once("a", 0, 0)), unit("a")}, impl.ErrNone)
	checkLib(t, "placed, but not there", []impl.Cell{unit("a"), cellWith("b", nil, once("A", 0, 0))}, impl.ErrNone)
	checkLib(t, "placed without a name", []impl.Cell{unit("a"), cellWith("b", nil, once("", 0, 0))}, impl.ErrNone)
	checkLib(t, "placed by a beginning", []impl.Cell{unit("ab"), cellWith("b", nil, once("a", 0, 0))}, impl.ErrNone)
}

func TestLibFaultOfBoxes(t *testing.T) {
	for layer, code := range map[int64]int64{-1: impl.ErrForm, 0: impl.OK, 1: impl.OK, 15: impl.OK, 16: impl.ErrForm,
		math.MinInt64: impl.ErrForm, math.MaxInt64: impl.ErrForm} {
		checkLib(t, "layer", []impl.Cell{cellWith("a", lboxes(on(layer, box(0, 0, 1, 1))))}, code)
		checkLib(t, "layer behind", []impl.Cell{cellWith("a", lboxes(on(3, box(0, 0, 1, 1)), on(layer, box(0, 0, 1, 1))))}, code)
	}
	for _, x := range edgePlaces() {
		for _, y := range edgePlaces() {
			for _, b := range boxes(box(x, 0, y, 1), box(0, x, 1, y), box(x, x, y, y), box(x, y, x, y), box(x, y, y, x)) {
				checkLib(t, "a box", []impl.Cell{cellWith("a", lboxes(on(2, b)))}, boxesFaultWant(boxes(b)))
			}
		}
	}
}

// withPlaceOf is a layout whose one place is changed.
func withPlaceOf(change func(p *impl.Place)) []impl.Cell {
	p := once("a", 0, 0)
	change(&p)
	return []impl.Cell{unit("a"), cellWith("b", nil, p)}
}

func TestLibFaultOfPlaces(t *testing.T) {
	for _, n := range append(edgePlaces(), -1, 0, 1, 2, 3, 4, 19, 20, 21, 1<<32, 1<<32+1) {
		turn, times, far := int64(impl.OK), int64(impl.OK), int64(impl.OK)
		if n < 0 || n > 3 {
			turn = impl.ErrForm
		}
		if n < 1 || n > 20 {
			times = impl.ErrForm
		}
		if n < -10000 || n > 10000 {
			far = impl.ErrRange
		}
		what := "a place with " + strconv.FormatInt(n, 10) + " as "
		checkLib(t, what+"Turn", withPlaceOf(func(p *impl.Place) { p.Turn = n }), turn)
		checkLib(t, what+"Nx", withPlaceOf(func(p *impl.Place) { p.Nx = n }), times)
		checkLib(t, what+"Ny", withPlaceOf(func(p *impl.Place) { p.Ny = n }), times)
		checkLib(t, what+"X", withPlaceOf(func(p *impl.Place) { p.X = n }), far)
		checkLib(t, what+"Y", withPlaceOf(func(p *impl.Place) { p.Y = n }), far)
		checkLib(t, what+"Dx", withPlaceOf(func(p *impl.Place) { p.Dx = n }), far)
		checkLib(t, what+"Dy", withPlaceOf(func(p *impl.Place) { p.Dy = n }), far)
	}
}

// spoil makes one thing wrong with a cell; the code is what the document names for it.
type spoil struct {
	name string
	code int64
	do   func(c *impl.Cell)
}

// longer puts what is there already behind it, till there are n.
func longer[T any](list []T, n int) []T {
	return slices.Repeat(list, n)[:n]
}

// cellSpoils stand in the order in which they are told: each is asked ahead of those behind it.
func cellSpoils() []spoil {
	list := []spoil{
		{"name", impl.ErrForm, func(c *impl.Cell) { c.Name = "9" }},
		{"twice", impl.ErrForm, func(c *impl.Cell) { c.Name = "a" }},
		{"boxes", impl.ErrMany, func(c *impl.Cell) { c.Boxes = longer(c.Boxes, 61) }},
		{"places", impl.ErrMany, func(c *impl.Cell) { c.Places = longer(c.Places, 21) }},
	}
	for i := range 2 {
		list = append(list,
			spoil{"layer", impl.ErrForm, func(c *impl.Cell) { c.Boxes[i].Layer = 16 }},
			spoil{"form", impl.ErrForm, func(c *impl.Cell) { c.Boxes[i].Box.Y0 = 20000 }},
			spoil{"range", impl.ErrRange, func(c *impl.Cell) { c.Boxes[i].Box.X1 = 10001 }})
	}
	for i := range 2 {
		list = append(list,
			spoil{"none", impl.ErrNone, func(c *impl.Cell) { c.Places[i].Cell = "none" }},
			spoil{"turn", impl.ErrForm, func(c *impl.Cell) { c.Places[i].Turn = 4 }},
			spoil{"columns", impl.ErrForm, func(c *impl.Cell) { c.Places[i].Nx = 0 }},
			spoil{"rows", impl.ErrForm, func(c *impl.Cell) { c.Places[i].Ny = 21 }},
			spoil{"across", impl.ErrRange, func(c *impl.Cell) { c.Places[i].X = -10001 }},
			spoil{"upward", impl.ErrRange, func(c *impl.Cell) { c.Places[i].Y = 10001 }},
			spoil{"apart", impl.ErrRange, func(c *impl.Cell) { c.Places[i].Dx = 10001 }},
			spoil{"over", impl.ErrRange, func(c *impl.Cell) { c.Places[i].Dy = -10001 }})
	}
	return list
}

// rightCell has two boxes and two places of a cell a.
func rightCell(name string) impl.Cell {
	return cellWith(name, lboxes(on(1, box(0, 0, 1, 1)), on(2, box(0, 0, 2, 2))), once("a", 1, 2), once("a", 3, 4))
}

func TestLibFaultInOrder(t *testing.T) {
	for i, first := range cellSpoils() {
		for _, second := range cellSpoils()[i:] {
			one := []impl.Cell{unit("a"), rightCell("b")}
			// From the last to the first: lists are made longer behind what is put into them.
			second.do(&one[1])
			first.do(&one[1])
			checkLib(t, first.name+" and "+second.name+" of one cell", one, first.code)
		}
		for _, second := range cellSpoils() {
			two := []impl.Cell{unit("a"), rightCell("b"), rightCell("c")}
			first.do(&two[1])
			second.do(&two[2])
			checkLib(t, first.name+" ahead of "+second.name, two, first.code)
			many := append(two, make([]impl.Cell, 17)...)
			checkLib(t, "20 cells, with "+first.name, many, first.code)
			checkLib(t, "21 cells, with "+first.name, append(many, impl.Cell{}), impl.ErrMany)
		}
	}
}

func TestLibFaultOfBoundsWithOthers(t *testing.T) {
	for _, c := range cellSpoils()[4:] {
		most := rightCell("b")
		most.Boxes, most.Places = longer(most.Boxes, 60), longer(most.Places, 20)
		c.do(&most)
		checkLib(t, "60 boxes and 20 places, with "+c.name, []impl.Cell{unit("a"), most}, c.code)
		most.Boxes = append(most.Boxes, most.Boxes[1])
		checkLib(t, "61 boxes, with "+c.name, []impl.Cell{unit("a"), most}, impl.ErrMany)
		most.Boxes, most.Places = most.Boxes[:60], append(most.Places, most.Places[1])
		checkLib(t, "21 places, with "+c.name, []impl.Cell{unit("a"), most}, impl.ErrMany)
	}
}

func TestLibFaultOfMany(t *testing.T) {
	lists := someLibs(1500)
	met := map[int64]int{}
	for _, list := range lists {
		want := libFaultWant(list)
		met[want]++
		if got := impl.LibFault(list); got != want {
			t.Errorf("LibFault(%v) = %d, want %d", list, got, want)
		}
	}
	for _, code := range []int64{impl.OK, impl.ErrForm, impl.ErrMany, impl.ErrRange, impl.ErrNone} {
		if met[code] < 2 {
			t.Errorf("the code %d was met %d times: the lists do not ask for it", code, met[code])
		}
	}
}
