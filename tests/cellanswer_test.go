package tests

import (
	"math/rand"
	"slices"
	"strings"
	"testing"

	"loop.example/g00057/impl"
)

// layoutAnswer is all that the calls of chapter 3 answer of one layout, name and layer.
type layoutAnswer struct {
	name, lib    int64
	count, depth impl.ShapeInt
	flat         impl.FlatResult
	layer        impl.ShapeResult
	tops         []string
	text         string
	read         impl.LibResult
}

func answersOf(list []impl.Cell, name string, layer int64) layoutAnswer {
	text := impl.FormatLib(list)
	return layoutAnswer{impl.NameFault(name), impl.LibFault(list), impl.CountFlat(list, name), impl.DepthOf(list, name),
		impl.Flatten(list, name), impl.LayerOf(list, name, layer), impl.TopsOf(list), text, impl.ParseLib(text)}
}

func (a layoutAnswer) same(b layoutAnswer) bool {
	return a.name == b.name && a.lib == b.lib && a.count == b.count && a.depth == b.depth && sameFlat(a.flat, b.flat) &&
		sameShape(a.layer, b.layer) && slices.Equal(a.tops, b.tops) && a.text == b.text && sameLibResult(a.read, b.read)
}

// withRoom has room behind its end, filled with that.
func withRoom[T any](list []T, fill T) []T {
	return append(slices.Clone(list), longer([]T{fill}, 30)...)[:len(list)]
}

// roomyLib is a layout with room behind each list, which no call may write into.
func roomyLib(list []impl.Cell) []impl.Cell {
	out := withRoom(list, unit("room"))
	for i, c := range out {
		out[i].Boxes = withRoom(c.Boxes, on(7, box(-77, -77, 77, 77)))
		out[i].Places = withRoom(c.Places, once("room", 77, 77))
	}
	return out
}

// wholeLib is a layout with what lies behind the ends of its lists.
func wholeLib(list []impl.Cell) []impl.Cell {
	out := slices.Clone(list[:cap(list)])
	for i, c := range out {
		out[i].Boxes, out[i].Places = c.Boxes[:cap(c.Boxes)], c.Places[:cap(c.Places)]
	}
	return out
}

func scribbleAll[T any](list []T, with T) {
	for i := range list[:cap(list)] {
		list[:cap(list)][i] = with
	}
}

func scribbleLib(list []impl.Cell) {
	for _, c := range list[:cap(list)] {
		scribbleAll(c.Boxes, on(-5, box(-5, -6, -7, -8)))
		scribbleAll(c.Places, once("scribble", -5, -6))
	}
	scribbleAll(list, impl.Cell{Name: "scribble"})
}

func (a layoutAnswer) scribble() {
	scribbleAll(a.flat.Boxes, on(-5, box(-5, -6, -7, -8)))
	scribble(a.layer.Boxes)
	scribbleAll(a.tops, "scribble")
	scribbleLib(a.read.Cells)
}

func TestEveryLayoutIsAnswered(t *testing.T) {
	names, layers := someNames(), edgePlaces()
	for i, list := range someLibs(400) {
		roomed := roomyLib(list)
		kept := copyLib(wholeLib(roomed))
		name, layer := names[i%len(names)], layers[i%len(layers)]
		got := answersOf(roomed, name, layer)
		if !got.same(answersOf(roomed, name, layer)) || !got.same(answersOf(copyLib(list), name, layer)) {
			t.Fatalf("%v with %.20q has two answers", list, name)
		}
		if !sameLib(wholeLib(roomed), kept) {
			t.Fatalf("the layout %v with %.20q is changed", list, name)
		}
	}
}

func TestZeroBesideACodeOfCells(t *testing.T) {
	for _, list := range someLibs(300) {
		for _, name := range someNames() {
			a := answersOf(list, name, 1)
			if a.count.Code != impl.OK && a.count.Value != 0 || a.depth.Code != impl.OK && a.depth.Value != 0 {
				t.Errorf("%v, %.20q: %v, %v", list, name, a.count, a.depth)
			}
			if a.flat.Code != impl.OK && len(a.flat.Boxes) > 0 || a.layer.Code != impl.OK && len(a.layer.Boxes) > 0 {
				t.Errorf("%v, %.20q: codes %d and %d with boxes", list, name, a.flat.Code, a.layer.Code)
			}
			if a.lib != impl.OK && (len(a.tops) > 0 || a.text != "" || a.count.Code != a.lib || a.flat.Code != a.lib || a.layer.Code != a.lib || a.depth.Code != a.lib) {
				t.Errorf("%v has the fault %d, and answers", list, a.lib)
			}
		}
	}
}

func TestLayoutsAreNewMemory(t *testing.T) {
	for i, list := range someLibs(200) {
		for _, name := range someNames()[:4] {
			roomed := roomyLib(list)
			kept := copyLib(wholeLib(roomed))
			first, second, third := answersOf(roomed, name, int64(i%3)), answersOf(roomed, name, int64(i%3)), answersOf(copyLib(list), name, int64(i%3))
			first.scribble()
			if !sameLib(wholeLib(roomed), kept) {
				t.Fatalf("an answer of %v, %.20q has memory of the layout", list, name)
			}
			if !second.same(third) || !answersOf(roomed, name, int64(i%3)).same(third) {
				t.Fatalf("two answers of %v, %.20q share memory", list, name)
			}
			scribbleLib(roomed)
			if !second.same(third) {
				t.Fatalf("an answer of %v, %.20q hangs on the layout's memory", list, name)
			}
		}
	}
}

// The lists of one layout that is read: what is put into one, or behind it, is not seen in another.
func TestListsOfOneAnswerAreApart(t *testing.T) {
	for seed := range int64(100) {
		list := someLib(seed)
		for i := range list {
			read := impl.ParseLib(textWant(list)).Cells
			scribbleAll(read[i].Boxes, on(-5, box(-5, -6, -7, -8)))
			read[i].Boxes = list[i].Boxes
			if !sameLib(read, list) {
				t.Fatalf("the boxes of cell %d of %v are those of others, too", i, list)
			}
			scribbleAll(read[i].Places, once("scribble", 1, 1))
			read[i].Places = list[i].Places
			if !sameLib(read, list) {
				t.Fatalf("the places of cell %d of %v are those of others, too", i, list)
			}
		}
	}
}

func TestEveryLayoutTextIsAnswered(t *testing.T) {
	chance := rand.New(rand.NewSource(4))
	texts := []string{"", "\x00", "\xff\xfe", strings.Repeat("\n", 4000), strings.Repeat("cell a ", 4000), strings.Repeat(" ", 100000)}
	for range 3000 {
		bytes := make([]byte, chance.Intn(60))
		for i := range bytes {
			bytes[i] = byte(chance.Intn(256))
		}
		texts = append(texts, string(bytes), "cell a\n"+string(bytes), "cell a\nbox 0 0 0 1 1"+string(bytes))
	}
	for _, text := range texts {
		got := impl.ParseLib(text)
		if !sameLibResult(got, impl.ParseLib(strings.Clone(text))) {
			t.Errorf("%.100q has two answers", text)
		}
		if got.Code != impl.OK && len(got.Cells) > 0 || got.Code != impl.ErrText && got.At != 0 {
			t.Errorf("ParseLib(%.100q) = %v", text, got)
		}
		checkLibText(t, text, parseLibWant(text))
		checkName(t, text, nameWant(text))
	}
}

func TestNoLayoutIsNoLayout(t *testing.T) {
	for _, name := range someNames() {
		if !answersOf(nil, name, 0).same(answersOf([]impl.Cell{}, name, 0)) {
			t.Errorf("with %.20q nil and an empty list differ", name)
		}
		bare := []impl.Cell{{Name: "a"}, {Name: "b"}}
		empty := []impl.Cell{{Name: "a", Boxes: []impl.LBox{}, Places: []impl.Place{}}, {Name: "b", Boxes: []impl.LBox{}, Places: []impl.Place{}}}
		if !answersOf(bare, name, 0).same(answersOf(empty, name, 0)) {
			t.Errorf("with %.20q cells with nil and with empty lists differ", name)
		}
	}
}
