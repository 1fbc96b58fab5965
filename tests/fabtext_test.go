package tests

import (
	"math/rand"
	"strconv"
	"strings"
	"testing"

	"loop.example/g00057/impl"
)

// checkFabToldAndRead asks for both ways round.
func checkFabToldAndRead(t *testing.T, what string, f impl.Fab, text string) {
	t.Helper()
	checkFabFormat(t, what, f, text)
	checkFabText(t, text, fabRead(f))
}

// fabOfLots has the lots in a book of five steps.
func fabOfLots(lots ...impl.Lot) impl.Fab {
	return fab(0, lotBook(5, lots...))
}

func TestFormatFabByHand(t *testing.T) {
	window := timeWindow(0, 1, 7)
	for text, f := range map[string]impl.Fab{
		plainFabText:                                              plainFab(),
		"clock 0\nsteps 1\n":                                      bareFab(),
		"clock 999999999\nsteps 40\n":                             fab(999999999, lotBook(40)),
		"clock 3\nsteps 2\nwindow 0 1 7\n":                        fab(3, withWindows(lotBook(2), window)),
		"clock 3\nsteps 2\nwindow 0 1 7\nwindow 0 1 7\n":          fab(3, withWindows(lotBook(2), window, window)),
		"clock 0\nsteps 5\nlot 4 0 0 0\n":                         fabOfLots(lot(4)),
		"clock 0\nsteps 5\nlot 4 0 1 0\n":                         fabOfLots(heldLot(lot(4))),
		"clock 0\nsteps 5\nlot 4 0 0 1 9\n":                       fabOfLots(lot(4, 9)),
		"clock 0\nsteps 5\nlot 4 0 0 0 9\n":                       fabOfLots(doneAt(lot(4), 9)),
		"clock 0\nsteps 5\nlot 4 0 1 1 9 9\n":                     fabOfLots(heldLot(doneAt(lot(4, 9), 9))),
		"clock 0\nsteps 5\nlot 4 0 0 2 9 8 7 7\n":                 fabOfLots(doneAt(lot(4, 9, 8), 7, 7)),
		"clock 0\nsteps 5\nlot 4 0 0 0\nlot 3 4 0 0\n":            fabOfLots(lot(4), childOf(4, lot(3))),
		"clock 0\nsteps 1\nscrap 9\n":                             fab(0, withScrap(lotBook(1), 9)),
		"clock 0\nsteps 1\nscrap 9 8 7\n":                         fab(0, withScrap(lotBook(1), 9, 8, 7)),
		"clock 0\nsteps 1\ntank a 1 0 0\n":                        withTanks(tank("a", 1, 0, 0)),
		"clock 0\nsteps 1\ntank tank 9 9 0\ntank a 1 7 7\n":       withTanks(tank("tank", 9, 9, 0), tank("a", 1, 7, 7)),
		"clock 0\nsteps 2\nwindow 0 1 7\nscrap 9\ntank a 1 0 0\n": fab(0, withScrap(withWindows(lotBook(2), window), 9), tank("a", 1, 0, 0)),
		"clock 0\nsteps 5\nlot 1000000 0 0 1 1000000\n":           fabOfLots(lot(1000000, 1000000)),
	} {
		checkFabToldAndRead(t, "by hand", f, text)
	}
}

// A number of ten digits is not told; those of nine are.
func TestFormatFabOfLongNumbers(t *testing.T) {
	f := plainFab()
	const long = latest - 1
	for what, turn := range map[string]func(f *impl.Fab, n int64){
		"Clock":               func(f *impl.Fab, n int64) { f.Clock = n },
		"Most of a window":    func(f *impl.Fab, n int64) { f.Book.Windows[2].Most = n },
		"a time":              func(f *impl.Fab, n int64) { f.Book.Lots[1].Done[1] = n },
		"the only time":       func(f *impl.Fab, n int64) { f.Book.Lots[3].Done = numbers(n) },
		"Filled":              func(f *impl.Fab, n int64) { f.Tanks[0].Filled, f.Tanks[0].Used = n, long },
		"Used, and so Filled": func(f *impl.Fab, n int64) { f.Tanks[2].Filled, f.Tanks[2].Used = n, n },
		"Clock, and all of it": func(f *impl.Fab, n int64) {
			f.Clock, f.Book.Windows[0].Most, f.Tanks[2].Filled, f.Tanks[2].Used = n, n, n, n
		},
	} {
		nine := fabWith(f, func(f *impl.Fab) { turn(f, long) })
		checkFabToldAndRead(t, what+" of nine digits", nine, fabTextWant(nine))
		ten := fabWith(f, func(f *impl.Fab) { turn(f, latest) })
		checkFabFormat(t, what+" of ten digits", ten, "")
		checkFabFault(t, what+" of ten digits", ten, impl.OK)
	}
}

// longFab has a text of so many bytes, of some 3800 at least.
func longFab(bytes int) impl.Fab {
	f := fab(0, lotBook(40))
	for i := range int64(20) {
		f.Book.Lots = append(f.Book.Lots, lot(i+1, runOf(100001+25*i, 25)...))
	}
	f.Book.Scrap = numbers(900000)
	for len(fabTextWant(f))+7 <= bytes {
		f.Book.Scrap = append(f.Book.Scrap, 900000+int64(len(f.Book.Scrap)))
	}
	for len(fabTextWant(f)) < bytes {
		f.Clock = max(1, f.Clock) * 10
	}
	return f
}

func TestFabsOfLongTexts(t *testing.T) {
	for bytes := 3990; bytes <= 4010; bytes++ {
		f := longFab(bytes)
		text := fabTextWant(f)
		if len(text) != bytes || fabFaultWant(f) != impl.OK {
			t.Fatalf("%d bytes are %d, with the fault %d", bytes, len(text), fabFaultWant(f))
		}
		bare := strings.TrimSuffix(text, "\n")
		if bytes > 4000 {
			checkFabFormat(t, "too long", f, "")
			checkFabText(t, text, fabFailed(impl.ErrMany, 0))
		} else {
			checkFabToldAndRead(t, "long", f, text)
			checkFabText(t, bare, fabFailed(impl.ErrForm, 0))
		}
		if bytes > 4001 {
			checkFabText(t, bare, fabFailed(impl.ErrMany, 0))
		}
	}
	// It is one byte too long for a text, but what is read is not.
	checkFabText(t, strings.TrimSuffix(fabTextWant(longFab(4001)), "\n"), fabFailed(impl.ErrForm, 0))
}

func TestReadFabOfLongTexts(t *testing.T) {
	for bytes := 3997; bytes <= 4003; bytes++ {
		for text, want := range map[string]impl.FabText{
			strings.Repeat("x", bytes):                                  fabFailed(impl.ErrText, 0),
			strings.Repeat("\n", bytes):                                 fabFailed(impl.ErrText, 0),
			"clock 5\nsteps 3" + strings.Repeat(" ", bytes-15):          fabFailed(impl.ErrForm, 0),
			"clock 5\nsteps 3\n" + strings.Repeat("#", bytes-16):        fabFailed(impl.ErrText, 16),
			"clock 5\nsteps 3\n" + strings.Repeat("\n", bytes-16):       fabFailed(impl.ErrText, 16),
			"clock " + strings.Repeat("5", bytes-6):                     fabFailed(impl.ErrText, 0),
			"clock" + strings.Repeat(" ", bytes-6) + "5":                fabFailed(impl.ErrText, int64(bytes)),
			"clock 5" + strings.Repeat(" ", bytes-8) + "\n":             fabFailed(impl.ErrText, int64(bytes)),
			"clock 5\nsteps 99" + strings.Repeat(" ", bytes-17) + "\n":  fabFailed(impl.ErrRange, 0),
			strings.Repeat("é", bytes/2) + strings.Repeat("x", bytes%2): fabFailed(impl.ErrText, 0),
		} {
			if bytes > 4000 {
				want = fabFailed(impl.ErrMany, 0)
			}
			checkFabText(t, text, want)
		}
	}
	checkFabText(t, strings.Repeat("x", 1000000), fabFailed(impl.ErrMany, 0))
	checkFabText(t, strings.Repeat(plainFabText, 100), fabFailed(impl.ErrMany, 0))
}

func TestReadFabOfTooFewLines(t *testing.T) {
	for text, at := range map[string]int64{
		"": 0, "\n": 0, "\n\n": 0, " ": 0, "#": 0, "x": 0, "clock": 0, "clock 5": 7, "clock 5\n": 8, "clock 5\n\n": 8, "clock 5\n \n": 8, "clock 5  ": 9, "  clock 5\n": 10,
		"clock 999999999": 15, "clock -5": 8, "clock -5\n": 9, "clock 05\n": 9, "steps 5": 0, "steps 5\n": 0, "clock x\n": 0, "lot 1 0 0 0\n": 0, "\nclock 5": 0,
	} {
		checkFabText(t, text, fabFailed(impl.ErrText, at))
	}
}

// fabAhead are the two lines that each text has; eachLine may stand behind them, one of each kind.
const fabAhead = "clock 5\nsteps 3\n"

func eachLine() []string {
	return []string{"window 0 1 7", "lot 4 0 1 2 9 8 7 7", "scrap 6 5", "tank a 9 8 7"}
}

func TestReadFabOfTheOrderOfLines(t *testing.T) {
	for text, at := range map[string]int64{
		"steps 3\nclock 5\n": 0, "clock 5\nclock 5\n": 8, "clock 5\nclock 5\nsteps 3\n": 8, fabAhead + "steps 3\n": 16, fabAhead + "clock 5\n": 16, fabAhead + fabAhead: 16,
		"clock 5\nwindow 0 1 7\n": 8, "clock 5\nlot 4 0 0 0\nsteps 3\n": 8, "steps 3\n": 0, "steps 3\nwindow 0 1 7\n": 0, "window 0 1 7\n": 0,
		fabAhead + "lot 4 0 0 0\nwindow 0 1 7\n": 28, fabAhead + "scrap 6\nwindow 0 1 7\n": 24, fabAhead + "tank a 1 0 0\nwindow 0 1 7\n": 29, fabAhead + "scrap 6\nlot 4 0 0 0\n": 24,
		fabAhead + "tank a 1 0 0\nlot 4 0 0 0\n": 29, fabAhead + "tank a 1 0 0\nscrap 6\n": 29, fabAhead + "scrap 6\nscrap 5\n": 24, fabAhead + "scrap 6\nscrap 6": 24,
		fabAhead + "window 0 1 7\nlot 4 0 0 0\nwindow 0 1 7\n": 41, fabAhead + "scrap 6\ntank a 1 0 0\nscrap 5\n": 37, fabAhead + "lot 4 0 0 0\nsteps 3\n": 28,
		fabAhead + "lot 4 0 0 0\nscrap 6\nlot 5 0 0 0\n": 36, fabAhead + "tank a 1 0 0\nclock 5\n": 29,
	} {
		checkFabText(t, text, fabFailed(impl.ErrText, at))
	}
}

// All lists of up to four lines, in every order, with the two first lines ahead and without.
func TestReadFabOfAllOrdersOfLines(t *testing.T) {
	lines := append(eachLine(), "clock 5", "steps 3", "lot 2 0 0 0", "tank b 9 0 0", "", "# so")
	met := map[int64]int{}
	for n := range 10000 {
		text := ""
		for _, digit := range strconv.Itoa(n) {
			text += lines[digit-'0'] + "\n"
		}
		for _, ahead := range []string{"", fabAhead} {
			want := readFabWant(ahead + text)
			met[want.Code]++
			checkFabText(t, ahead+text, want)
		}
	}
	if met[impl.OK] < 50 || met[impl.ErrText] < 1000 {
		t.Errorf("the codes are %v", met)
	}
}

func TestReadFabOfTheNumberOfWords(t *testing.T) {
	ahead := map[string]string{"clock 5": "", "steps 3": "clock 5\n"}
	for _, line := range eachLine() {
		ahead[line] = fabAhead
	}
	for line, head := range ahead {
		at, words := int64(len(head)), strings.Fields(line)
		least := map[string]int{"lot": 7, "scrap": 2}[words[0]]
		if least == 0 {
			least = len(words)
		}
		for n := range len(words) + 1 {
			text := head + strings.Join(words[:n], " ") + "\n"
			if n < least {
				checkFabText(t, text, fabFailed(impl.ErrText, at))
			} else {
				checkFabText(t, text, readFabWant(text))
			}
		}
		for _, more := range []string{" x", " #", " # so", " 5 x", " -", " 5.", " \xff", "\t5"} {
			checkFabText(t, head+line+more+"\n", fabFailed(impl.ErrText, at))
		}
		more := head + line + " 5\n"
		if words[0] != "lot" && words[0] != "scrap" {
			checkFabText(t, more, fabFailed(impl.ErrText, at))
		}
		checkFabText(t, more, readFabWant(more))
		checkFabText(t, head+strings.ToUpper(line)+"\n", fabFailed(impl.ErrText, at))
		checkFabText(t, head+"x"+line+"\n", fabFailed(impl.ErrText, at))
	}
}

// A text that says the same in other words is not the fab's one text.
func TestReadFabOfOtherWordsForTheSame(t *testing.T) {
	for _, text := range []string{plainFabText, fabAhead, fabAhead + strings.Join(eachLine(), "\n") + "\n"} {
		f := impl.ReadFab(text).Fab
		checkFabText(t, text, fabRead(f))
		checkFabText(t, strings.TrimSuffix(text, "\n"), fabFailed(impl.ErrForm, 0))
		checkFabText(t, " "+text, fabFailed(impl.ErrForm, 0))
		for at := range len(text) {
			switch text[at] {
			case ' ':
				checkFabText(t, text[:at]+" "+text[at:], fabFailed(impl.ErrForm, 0))
				if text[at+1] != '_' && (text[at+1] < 'a' || text[at+1] > 'z') {
					checkFabText(t, text[:at+1]+"0"+text[at+1:], fabFailed(impl.ErrForm, 0))
					checkFabText(t, text[:at+1]+"00000"+text[at+1:], readFabWant(text[:at+1]+"00000"+text[at+1:]))
				}
				if text[at+1] == '0' {
					checkFabText(t, text[:at+1]+"-"+text[at+1:], fabFailed(impl.ErrForm, 0))
				}
			case '\n':
				line := int64(at) + 1
				checkFabText(t, text[:at]+" "+text[at:], fabFailed(impl.ErrForm, 0))
				checkFabText(t, text[:at+1]+"\n"+text[at+1:], fabFailed(impl.ErrText, line))
				checkFabText(t, text[:at+1]+"# so\n"+text[at+1:], fabFailed(impl.ErrText, line))
				checkFabText(t, text[:at+1]+" \n"+text[at+1:], fabFailed(impl.ErrText, line))
			}
		}
	}
	checkFabText(t, "clock 5\nsteps 3", fabFailed(impl.ErrForm, 0))
	checkFabText(t, "clock 5\r\nsteps 3\r\n", fabFailed(impl.ErrText, 0))
	checkFabText(t, "# so\n"+plainFabText, fabFailed(impl.ErrText, 0))
	checkFabText(t, "\n"+plainFabText, fabFailed(impl.ErrText, 0))
}

func TestReadFabOfHeldAndTheNumberOfWafers(t *testing.T) {
	for words, want := range map[string]impl.FabText{
		"0 2 9 8":       fabRead(fab(5, lotBook(3, lot(4, 9, 8)))),
		"1 2 9 8":       fabRead(fab(5, lotBook(3, heldLot(lot(4, 9, 8))))),
		"0 1 9 8":       fabRead(fab(5, lotBook(3, doneAt(lot(4, 9), 8)))),
		"0 0 8 9":       fabRead(fab(5, lotBook(3, doneAt(lot(4), 8, 9)))),
		"0 0":           fabRead(fab(5, lotBook(3, lot(4)))),
		"2 2 9 8":       fabFailed(impl.ErrText, 16),
		"-1 2 9 8":      fabFailed(impl.ErrText, 16),
		"999999999 0":   fabFailed(impl.ErrText, 16),
		"10 2 9 8":      fabFailed(impl.ErrText, 16),
		"0 3 9 8":       fabFailed(impl.ErrText, 16),
		"0 1":           fabFailed(impl.ErrText, 16),
		"0 -1":          fabFailed(impl.ErrText, 16),
		"0 -1 9":        fabFailed(impl.ErrText, 16),
		"0 999999999":   fabFailed(impl.ErrText, 16),
		"0 -999999999":  fabFailed(impl.ErrText, 16),
		"01 2 9 8":      fabFailed(impl.ErrForm, 0),
		"00 2 9 8":      fabFailed(impl.ErrForm, 0),
		"-0 2 9 8":      fabFailed(impl.ErrForm, 0),
		"0 02 9 8":      fabFailed(impl.ErrForm, 0),
		"0 -0":          fabFailed(impl.ErrForm, 0),
		"0 03 9 8":      fabFailed(impl.ErrText, 16),
		"0":             fabFailed(impl.ErrText, 16),
		"0 0 9 8":       fabFailed(impl.ErrForm, 0),
		"0 0 1 2 3 4":   fabFailed(impl.ErrMany, 0),
		"0 2 9 9":       fabFailed(impl.ErrTaken, 0),
		"0 2 9 0":       fabFailed(impl.ErrRange, 0),
		"0 2 9 8 -1":    fabFailed(impl.ErrRange, 0),
		"0 2 9 1000001": fabFailed(impl.ErrRange, 0),
	} {
		for _, behind := range []string{"", "tank a 5 0 0\n"} {
			text := fabAhead + "lot 4 0 " + words + "\n" + behind
			checkFabText(t, text, readFabWant(text))
			if behind == "" {
				checkFabText(t, text, want)
			}
		}
	}
}

func TestReadFabOfNumbers(t *testing.T) {
	lines := append(strings.SplitAfter(fabAhead, "\n")[:2:2], "window 0 1 7\n", "lot 4 0 1 2 9 8 7 7\n", "scrap 6 5\n", "tank a 9 8 7\n")
	for i, line := range lines {
		at := int64(len(strings.Join(lines[:i], "")))
		words := strings.Fields(line)
		for place := 1; place < len(words); place++ {
			if isNamed(words[0], place) {
				continue
			}
			for word, right := range numberWords() {
				turned := strings.Fields(line)
				turned[place] = word
				text := strings.Join(lines[:i], "") + strings.Join(turned, " ") + "\n" + strings.Join(lines[i+1:], "")
				want := readFabWant(text)
				checkFabText(t, text, want)
				if !right && word != "" && want.Code != impl.ErrText {
					t.Errorf("%q is read", text)
				}
				if !right && word != "" {
					checkFabText(t, text, fabFailed(impl.ErrText, at))
				}
			}
		}
	}
}

// A line that cannot be read is told ahead of too few lines, these ahead of a fault, and a fault ahead of other words for the same.
func TestOrderOfCodesOfTextsOfFabs(t *testing.T) {
	for text, want := range map[string]impl.FabText{
		"clock -5\nsteps 0\nx":                        fabFailed(impl.ErrText, 17),
		"clock -5\nsteps 0\nwindow 0 0":               fabFailed(impl.ErrText, 17),
		"clock -5\nsteps 0\n":                         fabFailed(impl.ErrRange, 0),
		"clock  -5\nsteps 00":                         fabFailed(impl.ErrRange, 0),
		"clock -5":                                    fabFailed(impl.ErrText, 8),
		"clock  05":                                   fabFailed(impl.ErrText, 9),
		"clock 5\nsteps  3\nlot 0 0 0 0":              fabFailed(impl.ErrForm, 0),
		"clock 5\nsteps  3\nlot 4 4 0 0\n":            fabFailed(impl.ErrNone, 0),
		"clock 5\nsteps 3\ntank  9 5 0 0\n":           fabFailed(impl.ErrForm, 0),
		"clock 5\nsteps 3\ntank  a 0 0 0\n":           fabFailed(impl.ErrRange, 0),
		"clock 05\nsteps 3\ntank a 5 0\n":             fabFailed(impl.ErrText, 17),
		"clock 5\nsteps 3\nlot 4 4 0 0\nscrap\n":      fabFailed(impl.ErrText, 28),
		"clock 5\nsteps 3\nlot 4 4 2 0\nscrap\n":      fabFailed(impl.ErrText, 16),
		"clock 5\nsteps 3\nscrap 5 05\n":              fabFailed(impl.ErrTaken, 0),
		"clock 5\nsteps 99\nlot 4 0 0 0\nlot 4 0 0 0": fabFailed(impl.ErrRange, 0),
	} {
		checkFabText(t, text, want)
		if want.Code != impl.ErrText {
			checkFabText(t, text+strings.Repeat(" ", 4001-len(text)), fabFailed(impl.ErrMany, 0))
			checkFabText(t, strings.TrimSuffix(text, "\n")+"\nclock 5", fabFailed(impl.ErrText, int64(len(strings.TrimSuffix(text, "\n")))+1))
		}
	}
}

func TestReadFabOfFabsWithAFault(t *testing.T) {
	met := map[int64]int{}
	check := func(f impl.Fab, code int64) {
		text := fabTextWant(f)
		if len(text) > 4000 || longNumber.MatchString(strings.ReplaceAll(text, "-", " ")) {
			return
		}
		met[code]++
		if code == impl.OK {
			checkFabText(t, text, fabRead(f))
			return
		}
		checkFabText(t, text, fabFailed(code, 0))
		checkFabText(t, " "+text, fabFailed(code, 0))
		checkFabText(t, text+"x", fabFailed(impl.ErrText, int64(len(text))))
	}
	for _, c := range allBookCases() {
		check(fab(5, c.book), c.code)
	}
	for _, cases := range [][]fabCase{clockCases(), tankNumberCases()} {
		for _, c := range cases {
			check(c.fab, c.code)
		}
	}
	for _, name := range []string{"9", "é", "a#", "#", "$a", "a-", "\xff", "\t", "-5", strings.Repeat("w", 17), strings.Repeat("x", 3000)} {
		check(withTanks(tank(name, 5, 0, 0)), impl.ErrForm)
	}
	check(withTanks(manyTanks(13)...), impl.ErrMany)
	check(withTanks(tank("a", 5, 0, 0), tank("a", 5, 0, 0)), impl.ErrForm)
	for _, code := range numbers(impl.OK, impl.ErrForm, impl.ErrMany, impl.ErrRange, impl.ErrNone, impl.ErrTaken) {
		if met[code] < 4 {
			t.Errorf("the codes are %v", met)
		}
	}
}

// A fab that is told is read back.
func TestFabsAreReadBack(t *testing.T) {
	chance, told := rand.New(rand.NewSource(306)), 0
	for range 2500 {
		f := someFab(chance)
		want := formatFabWant(f)
		checkFabFormat(t, "some fab", f, want)
		if want == "" {
			continue
		}
		told++
		checkFabText(t, want, fabRead(f))
		checkFabFormat(t, "read back", impl.ReadFab(want).Fab, want)
	}
	if told < 500 || told > 2450 {
		t.Errorf("%d of 2500 fabs are told", told)
	}
}

// A text that is read is that of what it tells: whatever byte of it is left out, put in or turned.
func TestReadFabOfTextsWithAByteTurned(t *testing.T) {
	others := []string{"", " ", "\n", "0", "1", "9", "-", "a", "t", "#", "_", "\t", "\x00", "\xff", "  ", "\n\n", " \n ", "00", "é", "1 ", " 1"}
	read := 0
	for i := range len(plainFabText) {
		for _, other := range others {
			for _, from := range []int{i, i + 1} {
				text := plainFabText[:i] + other + plainFabText[from:]
				checkFabText(t, text, readFabWant(text))
				if got := impl.ReadFab(text); got.Code == impl.OK {
					read++
					checkFabFormat(t, "a byte turned", got.Fab, text)
				}
			}
		}
		checkFabText(t, plainFabText[:i], readFabWant(plainFabText[:i]))
		checkFabText(t, plainFabText[i:], readFabWant(plainFabText[i:]))
	}
	if read < 500 {
		t.Errorf("%d texts are read", read)
	}
}

// Every byte of all 256 stands once in a name, in a number, and around lines.
func TestReadFabOfEachByte(t *testing.T) {
	for n := range 256 {
		b := string([]byte{byte(n)})
		for _, text := range []string{b + fabAhead, fabAhead + b, "clock 5" + b + "steps 3\n", "clock " + b + "\nsteps 3\n", "clock 5\nsteps " + b + "3\n", fabAhead + "tank " + b + " 5 0 0\n",
			fabAhead + "tank a" + b + " 5 0 0\n", fabAhead + "scrap 5" + b + "\n", fabAhead + "lot" + b + "4 0 0 0\n"} {
			checkFabText(t, text, readFabWant(text))
		}
	}
}

func TestReadFabOfSomeTexts(t *testing.T) {
	chance, met := rand.New(rand.NewSource(307)), map[int64]int{}
	pieces := []string{"window 0 1 7\n", "window 1 2 0\n", "window 1 1 7\n", "lot 4 0 0 0\n", "lot 5 4 1 1 9\n", "lot 6 0 0 1 9\n", "lot 7 0 0 1 8 3\n", "lot 5 0 0 2 1\n", "scrap 6\n",
		"scrap 6 6\n", "scrap 5 0\n", "tank a 9 0 0\n", "tank b 9 8 7\n", "tank 9 9 0 0\n", "tank c 0 0 0\n", "\n", "# so\n", " ", "0", "x", "clock 5\n"}
	for i := range 20000 {
		text := []string{fabAhead, fabAhead, fabAhead, "", "clock 5\n", "clock 05\nsteps 3\n"}[i%6]
		for range chance.Intn(7) {
			text += pieces[min(len(pieces)-1, chance.Intn(len(pieces)+1))]
		}
		want := readFabWant(text)
		met[want.Code]++
		checkFabText(t, text, want)
	}
	for _, code := range numbers(impl.OK, impl.ErrForm, impl.ErrRange, impl.ErrNone, impl.ErrText, impl.ErrTaken) {
		if met[code] < 50 {
			t.Errorf("the codes are %v", met)
		}
	}
}
