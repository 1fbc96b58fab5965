package tests

import (
	"math/rand"
	"regexp"
	"slices"
	"strconv"
	"strings"
	"testing"

	"loop.example/g00057/impl"
)

func checkLibText(t *testing.T, text string, want impl.LibResult) {
	t.Helper()
	if got := impl.ParseLib(text); !sameLibResult(got, want) {
		t.Errorf("ParseLib(%.200q) of %d bytes = %v, want %v", text, len(text), got, want)
	}
}

func libFailed(code int64, at int64) impl.LibResult {
	return impl.LibResult{Code: code, At: at}
}

func libOf(list ...impl.Cell) impl.LibResult {
	return impl.LibResult{Cells: list}
}

const numberForm = `-?[0-9]{1,9}`

var cellLine = regexp.MustCompile(`\A *cell +[^ ]+ *\z`)
var boxLine = regexp.MustCompile(`\A *box( +` + numberForm + `){5} *\z`)
var placeLine = regexp.MustCompile(`\A *place +[^ ]+( +` + numberForm + `){3} +(-?0{1,9}|0{0,8}1)( +` + numberForm + `){4} *\z`)

// wordsBetween are the words of a line, and its numbers, where they are some.
func wordsBetween(line string) (words []string, numbers []int64) {
	for _, word := range strings.Split(line, " ") {
		if word == "" {
			continue
		}
		n, _ := strconv.ParseInt(word, 10, 64)
		words, numbers = append(words, word), append(numbers, n)
	}
	return words, numbers
}

// parseLibWant asks whole lines by their forms.
func parseLibWant(text string) impl.LibResult {
	if len(text) > 4000 {
		return libFailed(impl.ErrMany, 0)
	}
	var list []impl.Cell
	at := int64(0)
	for _, line := range strings.Split(text, "\n") {
		words, n := wordsBetween(line)
		last := len(list) - 1
		switch {
		case len(words) == 0:
		case cellLine.MatchString(line):
			list = append(list, impl.Cell{Name: words[1]})
		case last >= 0 && boxLine.MatchString(line):
			list[last].Boxes = append(list[last].Boxes, on(n[1], box(n[2], n[3], n[4], n[5])))
		case last >= 0 && placeLine.MatchString(line):
			list[last].Places = append(list[last].Places,
				impl.Place{Cell: words[1], X: n[2], Y: n[3], Turn: n[4], Flip: n[5] == 1, Nx: n[6], Ny: n[7], Dx: n[8], Dy: n[9]})
		default:
			return libFailed(impl.ErrText, at)
		}
		at += int64(len(line)) + 1
	}
	if code := libFaultWant(list); code != impl.OK {
		return libFailed(code, 0)
	}
	return impl.LibResult{Cells: list}
}

// textWant is the text of a layout without a fault.
func textWant(list []impl.Cell) string {
	var lines []string
	number := func(n int64) string { return strconv.FormatInt(n, 10) }
	for _, c := range list {
		lines = append(lines, "cell "+c.Name+"\n")
		for _, b := range c.Boxes {
			words := []string{"box", number(b.Layer), number(b.Box.X0), number(b.Box.Y0), number(b.Box.X1), number(b.Box.Y1)}
			lines = append(lines, strings.Join(words, " ")+"\n")
		}
		for _, p := range c.Places {
			flip := map[bool]string{false: "0", true: "1"}[p.Flip]
			words := []string{"place", p.Cell, number(p.X), number(p.Y), number(p.Turn), flip, number(p.Nx), number(p.Ny), number(p.Dx), number(p.Dy)}
			lines = append(lines, strings.Join(words, " ")+"\n")
		}
	}
	return strings.Join(lines, "")
}

func formatLibWant(list []impl.Cell) string {
	if libFaultWant(list) != impl.OK || len(textWant(list)) > 4000 {
		return ""
	}
	return textWant(list)
}

func TestFormatLib(t *testing.T) {
	list := []impl.Cell{
		cellWith("a", lboxes(on(0, box(-10000, -5, 0, 10000)), on(15, box(1, 2, 3, 4)))),
		{Name: "_"},
		cellWith("b", lboxes(on(7, box(0, 0, 1, 1))), once("a", 0, 0), impl.Place{Cell: "_", X: -10000, Y: 10000, Turn: 3, Flip: true, Nx: 20, Ny: 2, Dx: -1, Dy: 5}),
	}
	want := "cell a\nbox 0 -10000 -5 0 10000\nbox 15 1 2 3 4\ncell _\ncell b\nbox 7 0 0 1 1\nplace a 0 0 0 0 1 1 0 0\nplace _ -10000 10000 3 1 20 2 -1 5\n"
	if got := impl.FormatLib(list); got != want {
		t.Errorf("FormatLib: %q, want %q", got, want)
	}
	checkLibText(t, want, impl.LibResult{Cells: list})
	wrong := [][]impl.Cell{nil, {}, {{}}, {unit("a"), unit("a")}, {unit("9")}, {cellWith("a", nil, once("a", 0, 0))}, make([]impl.Cell, 21)}
	for _, list := range wrong {
		if got := impl.FormatLib(list); got != "" {
			t.Errorf("FormatLib(%v) = %q, want the empty text", list, got)
		}
	}
}

// libOfBytes has a text of n bytes, from 3940 on: boxes of 14 bytes a line, and a name that makes up for the rest.
func libOfBytes(n int) []impl.Cell {
	var list []impl.Cell
	short := on(0, box(0, 0, 1, 1))
	for i := 0; len(textWant(list)) < n-60; i++ {
		if i%60 == 0 {
			list = append(list, impl.Cell{Name: "a" + strconv.Itoa(i)})
		}
		c := &list[len(list)-1]
		c.Boxes = append(c.Boxes, short)
	}
	for len(textWant(list)) < n-20 {
		c := &list[len(list)-1]
		c.Boxes = append(c.Boxes, short)
	}
	rest := n - len(textWant(list)) - len("cell \n")
	return append(list, impl.Cell{Name: strings.Repeat("n", rest)})
}

func TestFormatLibOfJustSoManyBytes(t *testing.T) {
	for n := 3990; n <= 4010; n++ {
		list := libOfBytes(n)
		if len(textWant(list)) != n || libFaultWant(list) != impl.OK {
			t.Fatalf("the layout of %d bytes has %d, code %d", n, len(textWant(list)), libFaultWant(list))
		}
		got := impl.FormatLib(list)
		if want := formatLibWant(list); got != want || (want == "") != (n > 4000) {
			t.Errorf("FormatLib of %d bytes has %d, want %d", n, len(got), len(want))
		}
		if n <= 4000 {
			checkLibText(t, got, impl.LibResult{Cells: list})
		} else {
			checkLibText(t, textWant(list), libFailed(impl.ErrMany, 0))
		}
	}
	full := rightCell("b")
	full.Boxes, full.Places = longer(full.Boxes, 60), longer(full.Places, 20)
	list := []impl.Cell{unit("a"), full, full, full, full}
	list[2].Name, list[3].Name, list[4].Name = "c", "d", "e"
	if got := impl.FormatLib(list); got != "" {
		t.Errorf("FormatLib of %d bytes has %d", len(textWant(list)), len(got))
	}
}

func TestLayoutsAreReadBack(t *testing.T) {
	full := 0
	for _, list := range someLibs(1000) {
		text := impl.FormatLib(list)
		if want := formatLibWant(list); text != want {
			t.Errorf("FormatLib(%v) = %.300q, want %.300q", list, text, want)
		}
		if text == "" {
			continue
		}
		full++
		checkLibText(t, text, impl.LibResult{Cells: list})
		checkLibText(t, strings.TrimSuffix(text, "\n"), impl.LibResult{Cells: list})
		if again := impl.FormatLib(impl.ParseLib(text).Cells); again != text {
			t.Errorf("%.300q is told again as %.300q", text, again)
		}
	}
	if full < 900 {
		t.Errorf("only %d layouts have a text", full)
	}
}

func TestParseLibOfBlanksAndLines(t *testing.T) {
	a := impl.Cell{Name: "a"}
	two := []impl.Cell{unit("a"), cellWith("b", nil, once("a", 5, -6))}
	for _, text := range []string{"", "\n", "\n\n\n", " ", "   \n ", " \n\n  \n"} {
		checkLibText(t, text, impl.LibResult{})
	}
	for _, text := range []string{"cell a", "cell a\n", " cell a", "cell a ", "  cell   a  \n", "\ncell a", "\n\n cell a\n\n", "cell a\n ", "   \ncell a\n   \n"} {
		checkLibText(t, text, libOf(a))
	}
	for _, text := range []string{
		"cell a\nbox 0 0 0 1 1\ncell b\nplace a 5 -6 0 0 1 1 0 0\n",
		"cell a\nbox 0 0 0 1 1\ncell b\nplace a 5 -6 0 0 1 1 0 0",
		"\n cell  a \n\n   box 0  0 0   1 1 \n cell b\n\n\nplace   a 5 -6  0 0 1 1 0    0 \n\n",
		"cell a\nbox 00 -0 000000000 01 000000001\ncell b\nplace a 0005 -00006 -0 00 01 0001 -000 -000000000",
	} {
		checkLibText(t, text, libOf(two...))
	}
}

func TestParseLibDividesByBlanksAlone(t *testing.T) {
	for _, c := range []string{"\t", "\r", "\v", "\f", "\x00", "\u00a0", "\u2003", "\x85"} {
		checkLibText(t, "cell"+c+"a\n", libFailed(impl.ErrText, 0))
		checkLibText(t, c+"cell a\n", libFailed(impl.ErrText, 0))
		checkLibText(t, "cell a"+c+"\n", libFailed(impl.ErrForm, 0))
		checkLibText(t, "cell a"+c+"cell b\n", libFailed(impl.ErrText, 0))
		checkLibText(t, "cell a\n"+c+"\n", libFailed(impl.ErrText, 7))
		checkLibText(t, "cell a\nbox 0 0 0 1"+c+"1\n", libFailed(impl.ErrText, 7))
		checkLibText(t, "cell a\nbox 0 0 0 1 1"+c+"\n", libFailed(impl.ErrText, 7))
	}
}

// wrongNumbers are no words of chapter 3's numbers.
func wrongNumbers() []string {
	return []string{"-", "--1", "+1", "1-", "-1-", "a", "1a", "a1", "1.0", "1e1", "0x1", "1_0", "1000000000", "0000000000", "-0000000001",
		"12345678901234567890123", "９", "٣", "1\x80", "\xff", "1/1", "1,", "", "²", "true", ":", "/", "-/"}
}

// withWord has one of the words of a line replaced.
func withWord(line string, at int, word string) string {
	words := strings.Split(line, " ")
	words[at] = word
	return strings.Join(words, " ")
}

const aheadLines = "cell a\n\nbox 0 0 0 1 1\ncell b\n"

func TestParseLibOfWrongWords(t *testing.T) {
	at := int64(len(aheadLines))
	for _, line := range []string{"box 1 2 3 4 5", "place a 1 2 3 1 5 6 7 8"} {
		first := 1
		if strings.HasPrefix(line, "place") {
			first = 2
		}
		for i := first; i < len(strings.Fields(line)); i++ {
			for _, word := range wrongNumbers() {
				wrong := withWord(line, i, word)
				checkLibText(t, aheadLines+wrong+"\n", libFailed(impl.ErrText, at))
				checkLibText(t, aheadLines+wrong, libFailed(impl.ErrText, at))
				checkLibText(t, aheadLines+"  "+wrong+"\ncell c\n", libFailed(impl.ErrText, at))
				checkLibText(t, aheadLines+line+"\n"+wrong+"\nwrong", libFailed(impl.ErrText, at+int64(len(line))+1))
			}
		}
	}
}

func TestParseLibOfFirstWords(t *testing.T) {
	at := int64(len(aheadLines))
	for _, word := range []string{"Cell", "CELL", "cel", "cells", "Box", "boxes", "bo", "Place", "places", "lace", "#", "a", "0", "-", "cellb", "\xff", "é", "end"} {
		for _, behind := range []string{"", " c", " 1 2 3 4 5", " a 1 2 3 1 5 6 7 8"} {
			checkLibText(t, aheadLines+word+behind+"\n", libFailed(impl.ErrText, at))
			checkLibText(t, word+behind, libFailed(impl.ErrText, 0))
		}
	}
}

func TestParseLibOfNumbersOfWords(t *testing.T) {
	at := int64(len(aheadLines))
	for _, line := range []string{"cell c", "box 1 2 3 4 5", "place a 1 2 3 1 5 6 7 8"} {
		words := strings.Fields(line)
		for n := 1; n < len(words); n++ {
			checkLibText(t, aheadLines+strings.Join(words[:n], " ")+"\n", libFailed(impl.ErrText, at))
		}
		for _, more := range []string{" 1", " a", " 1 1", " box", " \xff", " 1 2 3 4 5"} {
			checkLibText(t, aheadLines+line+more+"\n", libFailed(impl.ErrText, at))
		}
		if got := impl.ParseLib(aheadLines + line); got.Code != impl.OK {
			t.Errorf("ParseLib of %q: %v", aheadLines+line, got)
		}
	}
}

func TestParseLibOfFlips(t *testing.T) {
	list := []impl.Cell{unit("a"), cellWith("b", nil, once("a", 1, 2))}
	mirrored := copyLib(list)
	mirrored[1].Places[0].Flip = true
	for word, want := range map[string]impl.LibResult{
		"0": libOf(list...), "1": libOf(mirrored...), "00": libOf(list...), "-0": libOf(list...), "01": libOf(mirrored...), "000000001": libOf(mirrored...),
		"2": libFailed(impl.ErrText, 28), "-1": libFailed(impl.ErrText, 28), "10": libFailed(impl.ErrText, 28), "999999999": libFailed(impl.ErrText, 28),
		"0000000001": libFailed(impl.ErrText, 28), "false": libFailed(impl.ErrText, 28), "-01": libFailed(impl.ErrText, 28),
	} {
		checkLibText(t, "cell a\nbox 0 0 0 1 1\ncell b\nplace a 1 2 0 "+word+" 1 1 0 0\n", want)
	}
}

func TestParseLibAheadOfTheFirstCell(t *testing.T) {
	for _, line := range []string{"box 0 0 0 1 1", "place a 0 0 0 0 1 1 0 0"} {
		checkLibText(t, line, libFailed(impl.ErrText, 0))
		checkLibText(t, line+"\ncell a\n", libFailed(impl.ErrText, 0))
		checkLibText(t, "\n  \n"+line+"\ncell a\n", libFailed(impl.ErrText, 4))
		checkLibText(t, "cell a\n"+line, parseLibWant("cell a\n"+line))
	}
}

func TestParseLibOfLayoutsWithAFault(t *testing.T) {
	cases := map[string]int64{
		"cell 9": impl.ErrForm, "cell é": impl.ErrForm, "cell -": impl.ErrForm, "cell " + strings.Repeat("n", 17): impl.ErrForm,
		"cell cell\ncell box\ncell place": impl.OK, "cell a\ncell a": impl.ErrForm, "cell a\nbox 16 0 0 1 1": impl.ErrForm,
		"cell a\nbox -1 0 0 1 1": impl.ErrForm, "cell a\nbox 0 1 0 1 1": impl.ErrForm, "cell a\nbox 0 0 0 999999999 1": impl.ErrRange,
		"cell a\nbox 0 -999999999 0 1 1": impl.ErrRange, "cell a\nplace a 0 0 0 0 1 1 0 0": impl.ErrNone, "cell a\nplace b 0 0 0 0 1 1 0 0\ncell b": impl.ErrNone,
		"cell a\ncell b\nplace a 0 0 4 0 1 1 0 0": impl.ErrForm, "cell a\ncell b\nplace a 0 0 0 0 0 1 0 0": impl.ErrForm,
		"cell a\ncell b\nplace a 0 0 0 0 1 21 0 0": impl.ErrForm, "cell a\ncell b\nplace a 10001 0 0 0 1 1 0 0": impl.ErrRange,
		"cell a\ncell b\nplace a 0 0 0 0 1 1 0 -10001": impl.ErrRange, "cell a" + strings.Repeat("\nbox 0 0 0 1 1", 60): impl.OK,
		"cell a" + strings.Repeat("\nbox 0 0 0 1 1", 61): impl.ErrMany, "cell a\ncell b" + strings.Repeat("\nplace a 0 0 0 0 1 1 0 0", 21): impl.ErrMany,
		strings.Repeat("cell a\n", 21): impl.ErrMany, strings.Repeat("cell a\n", 570): impl.ErrMany, "cell 9\nbox 16 0 0 1 1": impl.ErrForm,
	}
	for text, code := range cases {
		if got := impl.ParseLib(text); got.Code != code || got.At != 0 || code != impl.OK && len(got.Cells) > 0 {
			t.Errorf("ParseLib(%.100q) = %v, want the code %d", text, got, code)
		}
		checkLibText(t, text, parseLibWant(text))
		// A line that cannot be read is told, though a layout's fault stands ahead of it.
		checkLibText(t, text+"\nbox", libFailed(impl.ErrText, int64(len(text))+1))
	}
}

func TestParseLibOfLongTexts(t *testing.T) {
	a := impl.Cell{Name: "a"}
	for _, fill := range []string{" ", "\n"} {
		checkLibText(t, "cell a"+strings.Repeat(fill, impl.MaxText-6), libOf(a))
		checkLibText(t, "cell a"+strings.Repeat(fill, impl.MaxText-5), libFailed(impl.ErrMany, 0))
		checkLibText(t, strings.Repeat(fill, impl.MaxText), impl.LibResult{})
		checkLibText(t, strings.Repeat(fill, impl.MaxText+1), libFailed(impl.ErrMany, 0))
	}
	checkLibText(t, strings.Repeat("\n", impl.MaxText-1)+"x", libFailed(impl.ErrText, impl.MaxText-1))
	checkLibText(t, strings.Repeat("\n", impl.MaxText)+"x", libFailed(impl.ErrMany, 0))
	checkLibText(t, strings.Repeat("x", impl.MaxText), libFailed(impl.ErrText, 0))
	checkLibText(t, strings.Repeat("x", 100*impl.MaxText), libFailed(impl.ErrMany, 0))
	checkLibText(t, strings.Repeat("é", impl.MaxText/2)+"x", libFailed(impl.ErrMany, 0))
}

// Every byte of a text, left out, put in twice, or another in its place.
func TestParseLibOfTextsWithAByteTurned(t *testing.T) {
	text := "cell a\nbox 1 0 -10 1 2\ncell bc\nplace a 5 0 1 0 2 1 3 0\nbox 0 0 0 1 1\n"
	others := []string{"", " ", "\n", "0", "1", "9", "-", "a", "c", "_", "\t", "\x00", "\xff", "  ", "\n\n", " \n ", "00", "é"}
	for i := range len(text) {
		for _, other := range others {
			checkLibText(t, text[:i]+other+text[i+1:], parseLibWant(text[:i]+other+text[i+1:]))
			checkLibText(t, text[:i]+other+text[i:], parseLibWant(text[:i]+other+text[i:]))
		}
		checkLibText(t, text[:i], parseLibWant(text[:i]))
		checkLibText(t, text[i:], parseLibWant(text[i:]))
	}
}

func TestParseLibOfSomeTexts(t *testing.T) {
	chance := rand.New(rand.NewSource(8))
	pieces := []string{"cell", "box", "place", " ", " ", " ", "\n", "\n", "a", "b", "_", "0", "1", "1", "2", "-", "20", "9", "x",
		"cell a\n", "cell b\n", "box 0 0 0 1 1\n", "place a 0 0 0 0 1 1 0 0\n", "place b 1 1 1 1 1 1 1 1\n"}
	met := map[int64]int{}
	for range 20000 {
		var text strings.Builder
		for range chance.Intn(14) {
			text.WriteString(pieces[chance.Intn(len(pieces))])
		}
		want := parseLibWant(text.String())
		met[want.Code]++
		checkLibText(t, text.String(), want)
	}
	for _, code := range []int64{impl.OK, impl.ErrForm, impl.ErrNone, impl.ErrText} {
		if met[code] < 20 {
			t.Errorf("the code %d was met %d times: the texts do not ask for it", code, met[code])
		}
	}
}

func TestTextsOfEachOrder(t *testing.T) {
	// A box behind a place is read as one of the cell's boxes, and told ahead of the places.
	text := "cell a\ncell b\nplace a 1 2 0 0 1 1 0 0\nbox 1 0 0 1 1\nplace a 3 4 0 0 1 1 0 0\nbox 2 0 0 1 1\n"
	want := "cell a\ncell b\nbox 1 0 0 1 1\nbox 2 0 0 1 1\nplace a 1 2 0 0 1 1 0 0\nplace a 3 4 0 0 1 1 0 0\n"
	read := impl.ParseLib(text)
	if got := impl.FormatLib(read.Cells); got != want {
		t.Errorf("%q is told as %q, want %q", text, got, want)
	}
	if !slices.Equal(read.Cells[1].Boxes, lboxes(on(1, box(0, 0, 1, 1)), on(2, box(0, 0, 1, 1)))) {
		t.Errorf("the boxes of %q are %v", text, read.Cells[1].Boxes)
	}
}
