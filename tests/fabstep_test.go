package tests

import (
	"math/rand"
	"slices"
	"strconv"
	"strings"
	"testing"

	"loop.example/g00057/impl"
)

// plainAt is the plain fab at another time.
func plainAt(clock int64) impl.Fab {
	return fabWith(plainFab(), func(f *impl.Fab) { f.Clock = clock })
}

// bookTurned is told where a command turns the book alone.
func bookTurned(f impl.Fab, turn func(b *impl.LotBook)) impl.FabResult {
	return fabTold(fabWith(f, func(f *impl.Fab) { turn(&f.Book) }), "ok")
}

func tankTurned(f impl.Fab, place int, turn func(t *impl.Tank)) impl.FabResult {
	return fabTold(fabWith(f, func(f *impl.Fab) { turn(&f.Tanks[place]) }), "ok")
}

func TestEachCommandByHand(t *testing.T) {
	f := plainFab()
	for line, want := range map[string]impl.FabResult{
		"tick 5": fabTold(plainAt(125), "125"),
		"tick 0": fabTold(f, "120"),
		"lot 20 21 22": bookTurned(f, func(b *impl.LotBook) {
			b.Lots = append(b.Lots, lot(20, 21, 22))
		}),
		"split 7 8 12 11": bookTurned(f, func(b *impl.LotBook) {
			b.Lots[0].Wafers = numbers(13)
			b.Lots = append(b.Lots, childOf(7, doneAt(lot(8, 12, 11), 100, 104)))
		}),
		"merge 9 7": bookTurned(f, func(b *impl.LotBook) {
			b.Lots[0].Wafers, b.Lots[1].Wafers, b.Lots[1].Done[1] = nil, numbers(15, 14, 11, 12, 13), 104
		}),
		"hold 7": bookTurned(f, func(b *impl.LotBook) { b.Lots[0].Held = true }),
		"hold 4": fabTold(f, "ok"),
		"free 4": bookTurned(f, func(b *impl.LotBook) { b.Lots[4].Held = false }),
		"free 7": fabTold(f, "ok"),
		"scrap 12": bookTurned(f, func(b *impl.LotBook) {
			b.Lots[0].Wafers, b.Scrap = numbers(11, 13), numbers(18, 17, 12)
		}),
		"done 5":   bookTurned(f, func(b *impl.LotBook) { b.Lots[3].Done = numbers(120) }),
		"done 7":   fabCode(impl.ErrText),
		"left 7":   fabTold(f, "-10"),
		"left 9":   fabTold(f, "-10"),
		"left 3":   fabCode(impl.ErrZero),
		"where 15": fabTold(f, "9"),
		"where 16": fabTold(f, "5"),
		"where 18": fabTold(f, "0"),
		"where 99": fabCode(impl.ErrNone),
		"tank gas 9": fabTold(fabWith(f, func(f *impl.Fab) {
			f.Tanks = append(f.Tanks, tank("gas", 9, 0, 0))
		}), "ok"),
		"fill n2 10": tankTurned(f, 0, func(t *impl.Tank) { t.Filled = 460 }),
		"use n2 90":  tankTurned(f, 0, func(t *impl.Tank) { t.Used = 450 }),
		"have n2":    fabTold(f, "450 360 90"),
		"have water": fabTold(f, "0 0 0"),
		"have _O2":   fabTold(f, "1000007 7 1000000"),
	} {
		checkObeyed(t, "plain", f, line, want)
	}
	checkObeyed(t, "in time", plainAt(108), "done 7", bookTurned(plainAt(108), func(b *impl.LotBook) { b.Lots[0].Done = numbers(100, 104, 108) }))
	checkObeyed(t, "in time", plainAt(108), "left 7", fabTold(plainAt(108), "2"))
	checkObeyed(t, "just in time", plainAt(110), "left 7", fabTold(plainAt(110), "0"))
}

// commandLines are right in the plain fab, whatever they do; each stands with the fewest words that it may have.
func commandLines() []string {
	return []string{"tick 5", "lot 20", "split 7 8", "merge 7 9", "hold 7", "free 4", "scrap 12", "done 5", "left 7", "where 15", "tank gas 9", "fill n2 5", "use n2 5", "have n2"}
}

func TestCommandsOfTooFewAndTooManyWords(t *testing.T) {
	f := plainFab()
	for _, line := range commandLines() {
		words := strings.Fields(line)
		for n := 1; n < len(words); n++ {
			checkObeyed(t, "too few", f, strings.Join(words[:n], " "), fabCode(impl.ErrText))
		}
		more := words[0] == "lot" || words[0] == "split"
		for _, behind := range []string{" 21", " 21 22", " x", " 21 x", " #", " # so", " $", " 5.", " 21\t"} {
			want := fabCode(impl.ErrText)
			if more && strings.Trim(behind, " 12") == "" {
				want = stepFabWant(f, line+behind)
			}
			checkObeyed(t, "too many", f, line+behind, want)
		}
	}
}

// No wafers are as many as there may be: that is for the calls of lots to say.
func TestCommandsOfNoWafers(t *testing.T) {
	f := plainFab()
	checkObeyed(t, "no wafers", f, "lot 20", fabCode(impl.ErrNone))
	checkObeyed(t, "no wafers", f, "lot 7", fabCode(impl.ErrForm))
	checkObeyed(t, "no wafers", f, "split 7 8", fabCode(impl.ErrNone))
	checkObeyed(t, "no wafers", f, "split 7 9", fabCode(impl.ErrForm))
	checkObeyed(t, "no wafers", f, "split 77 8", fabCode(impl.ErrNone))
	checkObeyed(t, "no id", f, "lot", fabCode(impl.ErrText))
	checkObeyed(t, "no second id", f, "split 7", fabCode(impl.ErrText))
	many := strings.Repeat(" 5", 100000)
	checkObeyed(t, "far too many wafers", f, "lot 20"+many, fabCode(impl.ErrMany))
	checkObeyed(t, "far too many wafers", f, "split 7 8"+many, fabCode(impl.ErrNone))
	checkObeyed(t, "far too many wafers", f, "lot 20"+many+" x", fabCode(impl.ErrText))
	checkObeyed(t, "far too many words", f, "tick 1"+many, fabCode(impl.ErrText))
}

// isNamed tells whether any word may stand in that place of a command.
func isNamed(word string, place int) bool {
	return place == 1 && strings.Contains(" tank fill use have ", " "+word+" ")
}

func TestNumbersOfCommands(t *testing.T) {
	f := plainFab()
	for _, line := range append(commandLines(), "lot 20 21 22", "split 7 8 12 11") {
		words := strings.Fields(line)
		for place := 1; place < len(words); place++ {
			for number, right := range numberWords() {
				turned := strings.Fields(line)
				turned[place] = number
				said := strings.Join(turned, " ")
				want := stepFabWant(f, said)
				checkObeyed(t, "a number", f, said, want)
				if number == "" || isNamed(words[0], place) {
					continue
				}
				if !right {
					checkObeyed(t, "no number", f, said, fabCode(impl.ErrText))
				} else if words[0] != "done" && want.Code == impl.ErrText {
					t.Errorf("%q is not read", said)
				}
			}
		}
	}
}

// Noughts ahead of a number, and a sign ahead of 0, are as if they were not there.
func TestNoughtsAheadOfNumbersOfCommands(t *testing.T) {
	f := plainFab()
	for _, line := range append(commandLines(), "lot 20 21 22", "split 7 8 12 11", "where 18", "left 3") {
		words := strings.Fields(line)
		for place := 1; place < len(words); place++ {
			if isNamed(words[0], place) {
				continue
			}
			for _, ahead := range []string{"0", "00", strings.Repeat("0", 9-len(words[place]))} {
				turned := strings.Fields(line)
				turned[place] = ahead + turned[place]
				checkObeyed(t, "noughts ahead", f, strings.Join(turned, " "), stepFabWant(f, line))
			}
			turned := strings.Fields(line)
			turned[place] = strings.Repeat("0", 10-len(words[place])) + turned[place]
			checkObeyed(t, "noughts ahead, ten digits", f, strings.Join(turned, " "), fabCode(impl.ErrText))
		}
	}
	checkObeyed(t, "a sign", f, "tick -0", fabTold(f, "120"))
	checkObeyed(t, "a sign", f, "tick -000000000", fabTold(f, "120"))
	checkObeyed(t, "a sign", f, "tick +0", fabCode(impl.ErrText))
	checkObeyed(t, "a sign", f, "fill n2 -0", fabCode(impl.ErrRange))
	checkObeyed(t, "a sign", f, "where -15", fabCode(impl.ErrNone))
	checkObeyed(t, "too great", f, "tick 99999999999999999999", fabCode(impl.ErrText))
	checkObeyed(t, "too great", f, "tick 9223372036854775808", fabCode(impl.ErrText))
	checkObeyed(t, "too great", f, "where -9223372036854775809", fabCode(impl.ErrText))
	checkObeyed(t, "ten digits", f, "tick 1000000000", fabCode(impl.ErrText))
}

func TestLinesWithAByteTen(t *testing.T) {
	f := plainFab()
	for _, line := range append(commandLines(), "", " ", "#", "# so", "x") {
		for at := range len(line) + 1 {
			checkObeyed(t, "a byte 10", f, line[:at]+"\n"+line[at:], fabCode(impl.ErrText))
		}
		checkObeyed(t, "two of them", f, "\n"+line+"\n", fabCode(impl.ErrText))
	}
}

func TestBlanksAndTabsInLines(t *testing.T) {
	f := plainFab()
	for _, line := range append(commandLines(), "lot 20 21 22") {
		want := stepFabWant(f, line)
		for _, blanks := range []string{" ", "  ", strings.Repeat(" ", 5000)} {
			checkObeyed(t, "blanks ahead", f, blanks+line, want)
			checkObeyed(t, "blanks behind", f, line+blanks, want)
			checkObeyed(t, "blanks between", f, strings.ReplaceAll(line, " ", " "+blanks), want)
			checkObeyed(t, "blanks everywhere", f, blanks+strings.ReplaceAll(line, " ", blanks)+blanks, want)
		}
		for _, other := range []string{"\t", "\r", "\x00", "\v", "\u00a0", "\u2003", "\xff"} {
			checkObeyed(t, "ahead", f, other+line, fabCode(impl.ErrText))
			checkObeyed(t, "alone ahead", f, other+" "+line, fabCode(impl.ErrText))
			checkObeyed(t, "between", f, strings.Replace(line, " ", other, 1), fabCode(impl.ErrText))
			checkObeyed(t, "alone behind", f, line+" "+other, fabCode(impl.ErrText))
			if !strings.HasPrefix(line, "have") {
				checkObeyed(t, "behind", f, line+other, fabCode(impl.ErrText))
			}
		}
	}
	checkObeyed(t, "a tab behind a name", f, "have n2\t", fabCode(impl.ErrNone))
	checkObeyed(t, "a tab in a name", f, "tank a\tb 5", fabCode(impl.ErrForm))
}

func TestLinesThatSayNothing(t *testing.T) {
	f := plainFab()
	for _, line := range []string{"", " ", "     ", strings.Repeat(" ", 100000), "#", "##", "# so", "#so", "  #", "   # so", "#tick 5", "# tick 5", " #\t", "#\xff\x80", "#\x00é", "#" + strings.Repeat("x", 100000)} {
		checkObeyed(t, "nothing to say", f, line, fabTold(f, ""))
	}
	for _, line := range []string{"tick 5 #", "tick 5 # so", "tick # 5", "tick #5", "\t#", "x#", "x #", "\r", "\t", "tick 5#", "$#"} {
		checkObeyed(t, "no remark", f, line, fabCode(impl.ErrText))
	}
	checkObeyed(t, "a name with a mark", f, "tank a# 5", fabCode(impl.ErrForm))
	checkObeyed(t, "a mark as a name", f, "have #", fabCode(impl.ErrNone))
}

func TestUnknownCommands(t *testing.T) {
	f := plainFab()
	for _, line := range []string{"x", "x 5", "clock 5", "steps 3", "window 0 1 5", "5", "-", "\xff", "é 5", "ticks 5", "tic 5", "ticktick 5", "lots 5 6", "OK", "ok", "!", "! 5", "$tick 5", "tick5", "hold7", "0"} {
		checkObeyed(t, "unknown", f, line, fabCode(impl.ErrText))
	}
	for _, line := range commandLines() {
		checkObeyed(t, "in capitals", f, strings.ToUpper(line), fabCode(impl.ErrText))
		checkObeyed(t, "with a capital", f, strings.ToUpper(line[:1])+line[1:], fabCode(impl.ErrText))
		checkObeyed(t, "twice", f, line+" "+line, fabCode(impl.ErrText))
	}
}

func TestTickToTheLastTime(t *testing.T) {
	at := func(clock int64) impl.Fab { return fab(clock, lotBook(1)) }
	for _, clock := range numbers(0, 1, 120, 500000000, 999999998, 999999999, latest) {
		for _, n := range numbers(-999999999, -2, -1, 0, 1, 2, 499999999, 500000000, 500000001, 999999998, 999999999) {
			want := fabCode(impl.ErrRange)
			if n >= 0 && clock+n <= latest {
				want = fabTold(at(clock+n), strconv.FormatInt(clock+n, 10))
			}
			checkObeyed(t, "a time", at(clock), "tick "+strconv.FormatInt(n, 10), want)
		}
	}
	checkObeyed(t, "the last time", at(1), "tick 999999999", fabTold(at(latest), "1000000000"))
	checkObeyed(t, "one more", at(2), "tick 999999999", fabCode(impl.ErrRange))
}

func TestCommandTank(t *testing.T) {
	with := func(n int) impl.Fab { return withTanks(manyTanks(n)...) }
	added := func(f impl.Fab, t impl.Tank) impl.FabResult {
		return fabTold(fabWith(f, func(f *impl.Fab) { f.Tanks = append(f.Tanks, t) }), "ok")
	}
	checkObeyed(t, "the first", with(0), "tank a 5", added(with(0), tank("a", 5, 0, 0)))
	checkObeyed(t, "the last", with(11), "tank a 5", added(with(11), tank("a", 5, 0, 0)))
	for _, line := range []string{"tank a 5", "tank t1 5", "tank 9 0", "tank a 0"} {
		checkObeyed(t, "one too many", with(12), line, fabCode(impl.ErrMany))
	}
	checkObeyed(t, "no number, and one too many", with(12), "tank a b", fabCode(impl.ErrText))
	for n, code := range map[int64]int64{-999999999: impl.ErrRange, -1: impl.ErrRange, 0: impl.ErrRange, 1: impl.OK, 2: impl.OK, 999999: impl.OK, 1000000: impl.OK, 1000001: impl.ErrRange, 999999999: impl.ErrRange} {
		want := fabCode(code)
		if code == impl.OK {
			want = added(with(3), tank("a", n, 0, 0))
		}
		checkObeyed(t, "Most", with(3), "tank a "+strconv.FormatInt(n, 10), want)
	}
	checkObeyed(t, "a name that is there", with(3), "tank t2 5", fabCode(impl.ErrForm))
	checkObeyed(t, "a name that is there, no Most", with(3), "tank t0 0", fabCode(impl.ErrForm))
	for _, name := range recipeNames() {
		checkObeyed(t, "a name", with(3), "tank "+name+" 5", added(with(3), tank(name, 5, 0, 0)))
	}
	for _, name := range []string{"9", "é", "a#", "#", "$a", "a-", "\xff", "\t", "-5", "5", strings.Repeat("w", 17), strings.Repeat("x", 5000)} {
		checkObeyed(t, "no name", with(3), "tank "+name+" 5", fabCode(impl.ErrForm))
		checkObeyed(t, "no name, no Most", with(3), "tank "+name+" 0", fabCode(impl.ErrForm))
	}
	checkObeyed(t, "a nought ahead is no name", with(3), "tank 0a 5", fabCode(impl.ErrForm))
}

// Filled and Used grow to their bounds, and not beyond.
func TestCommandsFillAndUse(t *testing.T) {
	holding := func(filled int64, used int64) impl.Fab {
		return withTanks(tank("a", 9, 3, 0), tank("b", 100, filled, used), tank("c", 9, 3, 0))
	}
	for _, c := range []struct {
		filled, used int64
		most, all    int64
	}{
		{0, 0, 100, 0}, {1, 0, 99, 1}, {100, 0, 0, 100}, {450, 360, 10, 90}, {99, 0, 1, 99}, {1000, 1000, 100, 0}, {latest, latest, 0, 0}, {latest - 1, latest - 1, 1, 0},
		{latest - 40, latest - 50, 40, 10}, {latest - 95, latest - 100, 95, 5}, {latest - 100, latest - 100, 100, 0}, {latest, latest - 100, 0, 100},
	} {
		f := holding(c.filled, c.used)
		for _, n := range numbers(-999999999, -1, 0, 1, 2, c.most-1, c.most, c.most+1, c.all-1, c.all, c.all+1, 100, 101, 999999999) {
			number := strconv.FormatInt(n, 10)
			filled, used := fabCode(impl.ErrRange), fabCode(impl.ErrRange)
			if n >= 1 && n <= c.most {
				filled = fabTold(holding(c.filled+n, c.used), "ok")
			}
			if n >= 1 && n <= c.all {
				used = fabTold(holding(c.filled, c.used+n), "ok")
			}
			checkObeyed(t, "fill", f, "fill b "+number, filled)
			checkObeyed(t, "use", f, "use b "+number, used)
			checkObeyed(t, "fill what is not there", f, "fill d "+number, fabCode(impl.ErrNone))
			checkObeyed(t, "use what is not there", f, "use B "+number, fabCode(impl.ErrNone))
		}
		checkObeyed(t, "have", f, "have b", fabTold(f, numberWordsOf(c.filled, c.used, c.all)))
	}
	for _, name := range append(recipeNames(), "9", "é", "#", "-5", "tank", strings.Repeat("w", 17)) {
		for _, line := range []string{"fill " + name + " 0", "fill " + name + " 5", "use " + name + " -1", "use " + name + " 5", "have " + name} {
			checkObeyed(t, "no such tank", bareFab(), line, fabCode(impl.ErrNone))
		}
	}
}

// A lot has done so many steps of five, at 100, 104, ..; any of the windows may be there.
func TestCommandLeftAtEachWindow(t *testing.T) {
	windows := []impl.Window{timeWindow(0, 2, 10), timeWindow(1, 3, 5), timeWindow(0, 4, 30)}
	ends := numbers(110, 109, 130)
	open := [][]int{nil, {0, 2}, {0, 1, 2}, {1, 2}, {2}, nil}
	for done := range 6 {
		times := numbers(100, 104, 108, 112, 116)[:done]
		for _, clock := range numbers(0, 104, 108, 109, 110, 130, 131, latest) {
			for kinds := range 8 {
				f := fab(clock, lotBook(5, doneAt(lot(7, 1), times...)))
				var left []int64
				for i, w := range windows {
					if kinds>>i%2 == 0 {
						continue
					}
					f.Book.Windows = append(f.Book.Windows, w)
					if slices.Contains(open[done], i) {
						left = append(left, ends[i]-clock)
					}
				}
				want := fabCode(impl.ErrZero)
				if len(left) > 0 {
					want = fabTold(f, numberWordsOf(slices.Min(left)))
				}
				checkObeyed(t, "windows", f, "left 7", want)
			}
		}
	}
	checkObeyed(t, "no such lot", plainFab(), "left 8", fabCode(impl.ErrNone))
	checkObeyed(t, "no lot", bareFab(), "left 1", fabCode(impl.ErrNone))
}

// fullBook has as many lots, and as much in Scrap, as there may be.
func fullBook() impl.LotBook {
	return withScrap(lotBook(3, manyLots(30)...), runOf(1, 200)...)
}

func TestCodesOfCallsOfLots(t *testing.T) {
	f, full := plainFab(), fab(7, fullBook())
	busy := fab(7, lotBook(3, doneAt(lot(1, 5), 3, 9), doneAt(lot(2, 6), 1, 2, 3), lot(3, runOf(10, 13)...), lot(4, runOf(30, 13)...)))
	for _, c := range []struct {
		f    impl.Fab
		line string
		code int64
	}{
		{full, "lot 77 999", impl.ErrMany}, {f, "lot 77" + strings.Repeat(" 5", 26), impl.ErrMany}, {f, "lot 0 99", impl.ErrForm}, {f, "lot 1000001 99", impl.ErrForm},
		{f, "lot 9 99", impl.ErrForm}, {f, "lot 77", impl.ErrNone}, {f, "lot 77 0", impl.ErrRange}, {f, "lot 77 1000001", impl.ErrRange}, {f, "lot 77 11", impl.ErrTaken},
		{f, "lot 77 18", impl.ErrTaken}, {f, "lot 77 5 5", impl.ErrTaken}, {f, "lot -5 99", impl.ErrForm},
		{f, "split 77 78 5", impl.ErrNone}, {full, "split 1 77 5001", impl.ErrMany}, {f, "split 7 9 11", impl.ErrForm}, {f, "split 7 0 11", impl.ErrForm},
		{f, "split 7 77", impl.ErrNone}, {f, "split 7 77 14", impl.ErrNone}, {f, "split 7 77 11 11", impl.ErrTaken}, {f, "split 7 77 11 12 13", impl.ErrZero},
		{f, "merge 77 7", impl.ErrNone}, {f, "merge 7 77", impl.ErrNone}, {f, "merge 7 7", impl.ErrForm}, {f, "merge 7 4", impl.ErrTaken}, {f, "merge 7 3", impl.ErrRange},
		{busy, "merge 3 4", impl.ErrMany}, {f, "hold 77", impl.ErrNone}, {f, "free 77", impl.ErrNone}, {f, "hold 0", impl.ErrNone},
		{f, "scrap 77", impl.ErrNone}, {f, "scrap 18", impl.ErrNone}, {full, "scrap 5001", impl.ErrMany}, {full, "scrap 1", impl.ErrNone},
		{f, "done 77", impl.ErrNone}, {f, "done 4", impl.ErrTaken}, {f, "done 3", impl.ErrTaken}, {busy, "done 2", impl.ErrRange}, {busy, "done 1", impl.ErrForm},
		{f, "done 7", impl.ErrText}, {f, "done 9", impl.ErrText}, {f, "left 77", impl.ErrNone}, {f, "left 3", impl.ErrZero}, {f, "left 5", impl.ErrZero},
		{f, "where 77", impl.ErrNone}, {f, "where 0", impl.ErrNone}, {f, "where -11", impl.ErrNone},
	} {
		checkObeyed(t, "a code of a call", c.f, c.line, fabCode(c.code))
	}
}

// numberNear is one that a command may be asked with.
func numberNear(chance *rand.Rand, f impl.Fab) int64 {
	id := idIn(chance, f.Book)
	wafers := append(wafersIn(chance, f.Book, id), f.Book.Scrap...)
	return numbers(id, id, 1+chance.Int63n(70), append(wafers, 5)[0], chance.Int63n(30), 2000+chance.Int63n(5000), numbers(0, -1, 1000000, 1000001, 999999999)[chance.Intn(5)])[chance.Intn(7)]
}

func tankNear(chance *rand.Rand, f impl.Fab) string {
	names := append(recipeNames(), "n2", "gas", "9", "t1", "x")
	for _, t := range f.Tanks {
		names = append(names, t.Name, t.Name)
	}
	return names[chance.Intn(len(names))]
}

// someCommand is a line that fits the fab, more often than not.
func someCommand(chance *rand.Rand, f impl.Fab) string {
	near := func() string { return " " + strconv.FormatInt(numberNear(chance, f), 10) }
	id := idIn(chance, f.Book)
	own := " " + strconv.FormatInt(id, 10)
	switch name := []string{"tick", "lot", "split", "split", "merge", "hold", "free", "scrap", "done", "done", "left", "where", "tank", "fill", "use", "have"}[chance.Intn(16)]; name {
	case "tick":
		return name + " " + strconv.FormatInt(chance.Int63n(6), 10)
	case "lot":
		return name + near() + " " + numberWordsOf(runOf(2000+chance.Int63n(5000), chance.Intn(5))...)
	case "split":
		return name + own + near() + " " + numberWordsOf(wafersIn(chance, f.Book, id)...)
	case "merge":
		return name + own + " " + strconv.FormatInt(idIn(chance, f.Book), 10)
	case "scrap", "where":
		return name + near()
	case "tank", "fill", "use":
		return name + " " + tankNear(chance, f) + " " + strconv.FormatInt(chance.Int63n(20), 10)
	case "have":
		return name + " " + tankNear(chance, f)
	default:
		return name + own
	}
}

// someLine may be no command, too.
func someLine(chance *rand.Rand, f impl.Fab) string {
	line := someCommand(chance, f)
	switch chance.Intn(14) {
	case 0:
		return []string{"", " ", "#", "# so", "x", "tick", "have", "\t", "tick 1 2", "Tick 1", "done x"}[chance.Intn(11)]
	case 1:
		return strings.ReplaceAll(line, " ", "  ") + " "
	case 2:
		at := chance.Intn(len(line) + 1)
		return line[:at] + []string{"0", "-", " ", "5", "#", "\t", "9", "x"}[chance.Intn(8)] + line[at:]
	}
	return line
}

func TestSomeCommands(t *testing.T) {
	chance, met := rand.New(rand.NewSource(301)), map[int64]int{}
	for range 1200 {
		f := someFab(chance)
		for range 12 {
			line := someLine(chance, f)
			want := stepFabWant(f, line)
			checkObeyed(t, "some fab", f, line, want)
			met[want.Code]++
		}
		if f = spoiledFab(chance, f); fabFaultWant(f) != impl.OK {
			checkObeyed(t, "a fault", f, someLine(chance, f), fabCode(fabFaultWant(f)))
		}
	}
	for code := range int64(8) {
		if met[code] < 50 {
			t.Errorf("the codes are %v", met)
		}
	}
}
