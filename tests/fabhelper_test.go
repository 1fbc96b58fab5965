package tests

import (
	"math/big"
	"math/rand"
	"regexp"
	"slices"
	"strconv"
	"strings"
	"testing"

	"loop.example/g00057/impl"
)

func tank(name string, most int64, filled int64, used int64) impl.Tank {
	return impl.Tank{Name: name, Most: most, Filled: filled, Used: used}
}

func fab(clock int64, b impl.LotBook, tanks ...impl.Tank) impl.Fab {
	return impl.Fab{Clock: clock, Book: b, Tanks: tanks}
}

// bareFab has one step to do, and nothing else.
func bareFab() impl.Fab {
	return fab(0, lotBook(1))
}

// plainFab has no fault; plainFabText is its text.
func plainFab() impl.Fab {
	return fab(120, plainBook(), tank("n2", 100, 450, 360), tank("water", 7, 0, 0), tank("_O2", 1000000, 1000007, 7))
}

const plainFabText = "clock 120\nsteps 5\nwindow 0 2 10\nwindow 1 3 20\nwindow 0 4 30\n" +
	"lot 7 0 0 3 11 12 13 100 104\nlot 9 7 0 2 15 14 100 106\nlot 3 0 0 0\nlot 5 9 0 1 16\nlot 4 0 1 1 19\nscrap 18 17\n" +
	"tank n2 100 450 360\ntank water 7 0 0\ntank _O2 1000000 1000007 7\n"

// manyTanks have the names t0, t1, ..
func manyTanks(n int) []impl.Tank {
	var list []impl.Tank
	for i := range n {
		list = append(list, tank("t"+strconv.Itoa(i), 5, 3, 1))
	}
	return list
}

func copyFab(f impl.Fab) impl.Fab {
	return impl.Fab{Clock: f.Clock, Book: copyBook(f.Book), Tanks: slices.Clone(f.Tanks)}
}

// fabWith turns one thing of a copy.
func fabWith(f impl.Fab, turn func(f *impl.Fab)) impl.Fab {
	f = copyFab(f)
	turn(&f)
	return f
}

func fabTold(f impl.Fab, say string) impl.FabResult {
	return impl.FabResult{Fab: f, Say: say}
}

func fabCode(code int64) impl.FabResult {
	return impl.FabResult{Code: code}
}

func fabRan(f impl.Fab, says ...string) impl.FabRun {
	return impl.FabRun{Fab: f, Says: says}
}

func fabRunCode(code int64) impl.FabRun {
	return impl.FabRun{Code: code}
}

func fabRead(f impl.Fab) impl.FabText {
	return impl.FabText{Fab: f}
}

func fabFailed(code int64, at int64) impl.FabText {
	return impl.FabText{Code: code, At: at}
}

func sameFab(a impl.Fab, b impl.Fab) bool {
	return a.Clock == b.Clock && sameLotBook(a.Book, b.Book) && slices.Equal(a.Tanks, b.Tanks)
}

func sameFabStep(a impl.FabResult, b impl.FabResult) bool {
	return a.Code == b.Code && a.Say == b.Say && sameFab(a.Fab, b.Fab)
}

func sameFabRun(a impl.FabRun, b impl.FabRun) bool {
	return a.Code == b.Code && slices.Equal(a.Says, b.Says) && sameFab(a.Fab, b.Fab)
}

func sameFabText(a impl.FabText, b impl.FabText) bool {
	return a.Code == b.Code && a.At == b.At && sameFab(a.Fab, b.Fab)
}

func scribbleFab(f impl.Fab) {
	scribbleBook(f.Book)
	scribbleAll(f.Tanks, tank("scribble", -5, -6, -7))
}

// The following hold a call against the plain reckoning, too.
func checkObeyed(t *testing.T, what string, f impl.Fab, line string, want impl.FabResult) {
	t.Helper()
	if got, plain := impl.StepFab(f, line), stepFabWant(f, line); !sameFabStep(got, want) || !sameFabStep(plain, want) {
		t.Errorf("%s, %.100q: %s, want %s (by the plain reckoning %s)", what, line, brief(got), brief(want), brief(plain))
	}
}

func checkScript(t *testing.T, what string, f impl.Fab, text string, want impl.FabRun) {
	t.Helper()
	if got, plain := impl.RunFab(f, text), runFabWant(f, text); !sameFabRun(got, want) || !sameFabRun(plain, want) {
		t.Errorf("%s, %.100q: %s, want %s (by the plain reckoning %s)", what, text, brief(got), brief(want), brief(plain))
	}
}

func checkFabFormat(t *testing.T, what string, f impl.Fab, want string) {
	t.Helper()
	if got, plain := impl.FormatFab(f), formatFabWant(f); got != want || plain != want {
		t.Errorf("%s, %s: %.300q, want %.300q (by the plain reckoning %.300q)", what, brief(f), got, want, plain)
	}
}

func checkFabText(t *testing.T, text string, want impl.FabText) {
	t.Helper()
	if got, plain := impl.ReadFab(text), readFabWant(text); !sameFabText(got, want) || !sameFabText(plain, want) {
		t.Errorf("ReadFab(%.300q) of %d bytes = %s, want %s (by the plain reckoning %s)", text, len(text), brief(got), brief(want), brief(plain))
	}
}

func checkTanks(t *testing.T, what string, f impl.Fab, want impl.IntsResult) {
	t.Helper()
	checkInts(t, what, impl.TanksOf(f), want)
	checkInts(t, what+", by the plain reckoning", tanksWant(f), want)
}

func checkPacked(t *testing.T, what string, list []float64, want impl.BytesResult) {
	t.Helper()
	if got, plain := impl.PackTrace(list), packWant(list); !sameBytes(got, want) || !sameBytes(plain, want) {
		t.Errorf("%s: %s, want %s (by the plain reckoning %s) of %s", what, brief(got), brief(want), brief(plain), brief(list))
	}
}

func checkUnpacked(t *testing.T, what string, b []byte, want impl.FloatsResult) {
	t.Helper()
	checkFloats(t, what, impl.UnpackTrace(b), want)
	checkFloats(t, what+", by the plain reckoning", unpackWant(b), want)
}

// checkFabFault asks every call, too: whatever else is wrong beside it, the fault of the fab is told, and nothing more.
func checkFabFault(t *testing.T, what string, f impl.Fab, code int64) {
	t.Helper()
	if got, want := impl.FabFault(f), fabFaultWant(f); got != code || want != code {
		t.Errorf("%s, %s: the fault is %d, want %d (by the plain reckoning %d)", what, brief(f), got, code, want)
	}
	if code == impl.OK {
		checkObeyed(t, what, f, "", fabTold(f, ""))
		checkScript(t, what, f, "", fabRan(f))
		checkTanks(t, what, f, tanksWant(f))
		checkFabFormat(t, what, f, formatFabWant(f))
		return
	}
	for _, line := range []string{"", "#", "tick 1", "lot 77 88", "have n2", "where 11", "x", "tick", "\n", "tank 9 0"} {
		checkObeyed(t, what, f, line, fabCode(code))
		checkScript(t, what, f, line+"\n"+line, fabRunCode(code))
	}
	checkScript(t, what, f, strings.Repeat("\n", 121), fabRunCode(code))
	checkScript(t, what, f, strings.Repeat("x", 4001), fabRunCode(code))
	checkTanks(t, what, f, intsCode(code))
	checkFabFormat(t, what, f, "")
}

func tankAtWant(tanks []impl.Tank, name string) int {
	return slices.IndexFunc(tanks, func(t impl.Tank) bool { return t.Name == name })
}

func tankBeyondWant(t impl.Tank) bool {
	has := new(big.Int).Sub(big.NewInt(t.Filled), big.NewInt(t.Used))
	return anyBeyond(numbers(t.Most), 1, 1000000) || anyBeyond(numbers(t.Filled, t.Used), 0, latest) || has.Sign() < 0 || has.Cmp(big.NewInt(t.Most)) > 0
}

func tankFaultWant(tanks []impl.Tank, place int) int64 {
	t := tanks[place]
	var codes faults
	codes.found(nameWant(t.Name))
	codes.wrong(impl.ErrForm, tankAtWant(tanks, t.Name) < place)
	codes.wrong(impl.ErrRange, tankBeyondWant(t))
	return codes.first()
}

func fabFaultWant(f impl.Fab) int64 {
	var codes faults
	codes.wrong(impl.ErrRange, f.Clock <= -1, f.Clock >= 1000000001)
	codes.found(bookFaultWant(f.Book))
	codes.wrong(impl.ErrMany, len(f.Tanks) >= 13)
	if len(codes) > 0 {
		return codes.first()
	}
	for place := range f.Tanks {
		codes.found(tankFaultWant(f.Tanks, place))
	}
	return codes.first()
}

// lineForm is the form of a line of these words: N stands for a number, NAME for any word, M for a number and any more of them.
func lineForm(words string) *regexp.Regexp {
	form := strings.NewReplacer(" ", " +", "NAME", `[^ ]+`, "N", numberForm, "W", `(`+numberForm+` *)*`, "M", numberForm+`( +`+numberForm+`)*`).Replace(words)
	return regexp.MustCompile(`\A *` + form + ` *\z`)
}

var commandForms = []*regexp.Regexp{
	lineForm("(tick|hold|free|scrap|done|left|where) N"), lineForm("lot M"), lineForm("split N M"), lineForm("merge N N"),
	lineForm("(tank|fill|use) NAME N"), lineForm("have NAME"),
}

// madeFabWant is the fab with the book that a call answers.
func madeFabWant(f impl.Fab, made impl.BookResult) impl.FabResult {
	if made.Code != impl.OK {
		return fabCode(made.Code)
	}
	return fabTold(fab(f.Clock, made.Book, f.Tanks...), "ok")
}

func saidFabWant(f impl.Fab, told impl.ShapeInt) impl.FabResult {
	if told.Code != impl.OK {
		return fabCode(told.Code)
	}
	return fabTold(f, strconv.FormatInt(told.Value, 10))
}

// stepFabWant asks whole lines by their forms.
func stepFabWant(f impl.Fab, line string) impl.FabResult {
	if code := fabFaultWant(f); code != impl.OK {
		return fabCode(code)
	}
	words, n := wordsBetween(line)
	isForm := func(form *regexp.Regexp) bool { return form.MatchString(line) }
	switch {
	case strings.Count(line, "\n") > 0:
		return fabCode(impl.ErrText)
	case len(words) == 0 || words[0][0] == '#':
		return fabTold(f, "")
	case !slices.ContainsFunc(commandForms, isForm):
		return fabCode(impl.ErrText)
	}
	f, b := copyFab(f), f.Book
	switch words[0] {
	case "tick":
		if n[1] < 0 || f.Clock+n[1] >= latest+1 {
			return fabCode(impl.ErrRange)
		}
		return fabTold(fab(f.Clock+n[1], b, f.Tanks...), strconv.FormatInt(f.Clock+n[1], 10))
	case "lot":
		return madeFabWant(f, startLotWant(b, n[1], n[2:]))
	case "split":
		return madeFabWant(f, splitLotWant(b, n[1], n[2], n[3:]))
	case "merge":
		return madeFabWant(f, mergeLotsWant(b, n[1], n[2]))
	case "hold", "free":
		return madeFabWant(f, holdLotWant(b, n[1], words[0] == "hold"))
	case "scrap":
		return madeFabWant(f, scrapWaferWant(b, n[1]))
	case "done":
		return madeFabWant(f, stepLotWant(b, n[1], f.Clock))
	case "left":
		return saidFabWant(f, windowLeftWant(b, n[1], f.Clock))
	case "where":
		return saidFabWant(f, findWaferWant(b, n[1]))
	}
	return stepTankWant(f, words, n)
}

// stepTankWant may change the tanks.
func stepTankWant(f impl.Fab, words []string, n []int64) impl.FabResult {
	at := tankAtWant(f.Tanks, words[1])
	switch {
	case words[0] == "tank" && len(f.Tanks) == 12:
		return fabCode(impl.ErrMany)
	case words[0] == "tank":
		f.Tanks = append(f.Tanks, tank(words[1], n[2], 0, 0))
		if code := tankFaultWant(f.Tanks, len(f.Tanks)-1); code != impl.OK {
			return fabCode(code)
		}
		return fabTold(f, "ok")
	case at < 0:
		return fabCode(impl.ErrNone)
	case words[0] == "have":
		t := f.Tanks[at]
		return fabTold(f, numberWordsOf(t.Filled, t.Used, t.Filled-t.Used))
	case words[0] == "fill":
		f.Tanks[at].Filled += n[2]
	default:
		f.Tanks[at].Used += n[2]
	}
	if n[2] <= 0 || tankBeyondWant(f.Tanks[at]) {
		return fabCode(impl.ErrRange)
	}
	return fabTold(f, "ok")
}

// numberWordsOf has one blank between two numbers.
func numberWordsOf(list ...int64) string {
	var words []string
	for _, n := range list {
		words = append(words, strconv.FormatInt(n, 10))
	}
	return strings.Join(words, " ")
}

// linesWant are the lines of a text; a byte 10 at its end begins none.
func linesWant(text string) []string {
	lines := strings.Split(text, "\n")
	if last := len(lines) - 1; lines[last] == "" {
		lines = lines[:last]
	}
	return lines
}

func runFabWant(f impl.Fab, text string) impl.FabRun {
	var codes faults
	codes.found(fabFaultWant(f))
	codes.wrong(impl.ErrMany, len(text) >= 4001, len(linesWant(text)) >= 121)
	if len(codes) > 0 {
		return fabRunCode(codes.first())
	}
	run := fabRan(f)
	for _, line := range linesWant(text) {
		step := stepFabWant(run.Fab, line)
		if step.Code != impl.OK {
			step = fabTold(run.Fab, "! "+strconv.FormatInt(step.Code, 10))
		}
		run.Fab = step.Fab
		run.Says = append(run.Says, step.Say)
	}
	run.Says = slices.DeleteFunc(run.Says, func(say string) bool { return say == "" })
	return run
}

// fabTextWant is the text of a fab without a fault, however long it is and its numbers are.
func fabTextWant(f impl.Fab) string {
	lines := []string{"clock " + numberWordsOf(f.Clock), "steps " + numberWordsOf(f.Book.Steps)}
	for _, w := range f.Book.Windows {
		lines = append(lines, "window "+numberWordsOf(w.From, w.To, w.Most))
	}
	for _, l := range f.Book.Lots {
		list := append(numbers(l.Id, l.Parent, bit(l.Held), int64(len(l.Wafers))), l.Wafers...)
		lines = append(lines, "lot "+numberWordsOf(append(list, l.Done...)...))
	}
	if len(f.Book.Scrap) > 0 {
		lines = append(lines, "scrap "+numberWordsOf(f.Book.Scrap...))
	}
	for _, t := range f.Tanks {
		lines = append(lines, "tank "+t.Name+" "+numberWordsOf(t.Most, t.Filled, t.Used))
	}
	return strings.Join(lines, "\n") + "\n"
}

var longNumber = regexp.MustCompile(`[ ][0-9]{10,}[ \n]`)

func formatFabWant(f impl.Fab) string {
	if fabFaultWant(f) != impl.OK {
		return ""
	}
	text := fabTextWant(f)
	if len(text) >= 4001 || longNumber.MatchString(text) {
		return ""
	}
	return text
}

// fabLineForms stand by a letter for each kind; fabLinesOrder is how the letters may follow one another.
var fabLineForms = map[string]*regexp.Regexp{
	"c": lineForm("clock N"), "s": lineForm("steps N"), "w": lineForm("window N N N"), "l": lineForm("lot N N (-?0{1,9}|0{0,8}1) M"),
	"p": lineForm("scrap M"), "t": lineForm("tank NAME N N N"),
}
var fabLinesOrder = regexp.MustCompile(`\A(c(s(w*l*p?t*)?)?)?\z`)

// fabLineWant puts what a line says into the fab, and tells of which kind it is; x is none.
func fabLineWant(f *impl.Fab, line string) string {
	words, n := wordsBetween(line)
	for kind, form := range fabLineForms {
		if !form.MatchString(line) {
			continue
		}
		switch kind {
		case "c":
			f.Clock = n[1]
		case "s":
			f.Book.Steps = n[1]
		case "w":
			f.Book.Windows = append(f.Book.Windows, timeWindow(n[1], n[2], n[3]))
		case "l":
			if n[4] < 0 || n[4] > int64(len(n)-5) {
				return "x"
			}
			f.Book.Lots = append(f.Book.Lots, impl.Lot{Id: n[1], Parent: n[2], Held: n[3] == 1, Wafers: n[5 : 5+n[4]], Done: n[5+n[4]:]})
		case "p":
			f.Book.Scrap = n[1:]
		case "t":
			f.Tanks = append(f.Tanks, tank(words[1], n[2], n[3], n[4]))
		}
		return kind
	}
	return "x"
}

func readFabWant(text string) impl.FabText {
	if len(text) >= 4001 {
		return fabFailed(impl.ErrMany, 0)
	}
	var f impl.Fab
	kinds, at := "", int64(0)
	for _, line := range linesWant(text) {
		kinds += fabLineWant(&f, line)
		if !fabLinesOrder.MatchString(kinds) {
			return fabFailed(impl.ErrText, at)
		}
		at += int64(len(line)) + 1
	}
	if len(kinds) <= 1 {
		return fabFailed(impl.ErrText, int64(len(text)))
	}
	var codes faults
	codes.found(fabFaultWant(f))
	codes.wrong(impl.ErrForm, formatFabWant(f) != text)
	if len(codes) > 0 {
		return fabFailed(codes.first(), 0)
	}
	return fabRead(f)
}

func tanksWant(f impl.Fab) impl.IntsResult {
	if code := fabFaultWant(f); code != impl.OK {
		return intsCode(code)
	}
	var list []int64
	for _, t := range f.Tanks {
		list = append(list, t.Filled-t.Used)
	}
	return ints(list...)
}

// binaryOf has the bits of a number as digits, the highest first, and no more than it needs.
func binaryOf(n uint64) string {
	return strconv.FormatUint(n, 2)
}

// bitsPacked cuts the digits of 64 bits into sevens from their end.
func bitsPacked(bits uint64) []byte {
	var packed []byte
	for digits := binaryOf(bits); digits != ""; {
		cut := max(0, len(digits)-7)
		part, _ := strconv.ParseUint(digits[cut:], 2, 8)
		digits = digits[:cut]
		if digits != "" {
			part += 128
		}
		packed = append(packed, byte(part))
	}
	return packed
}

func packWant(list []float64) impl.BytesResult {
	if len(list) >= 201 {
		return bytesCode(impl.ErrMany)
	}
	var packed []byte
	for i, number := range list {
		bits := bitsWant(number)
		if i > 0 {
			bits ^= bitsWant(list[i-1])
		}
		packed = append(packed, bitsPacked(bits)...)
	}
	return bytesOf(packed...)
}

// unpackWant puts the digits of each number together, and asks whether a number can have these and no nought ahead.
func unpackWant(b []byte) impl.FloatsResult {
	var list []float64
	ahead := uint64(0)
	digits := ""
	for _, part := range b {
		whole := "0000000" + binaryOf(uint64(part)%128)
		digits = whole[len(whole)-7:] + digits
		if part >= 128 {
			continue
		}
		turned, err := strconv.ParseUint(digits, 2, 64)
		ahead ^= turned
		isNoNumber := ahead%(1<<63) > 0x7FF<<52 && ahead != nanBits
		if err != nil || isNoNumber || whole[len(whole)-7:] == "0000000" && len(digits) > 7 {
			return floatsCode(impl.ErrText)
		}
		list, digits = append(list, floatWant(ahead)), ""
	}
	if digits != "" || len(list) >= 201 {
		return floatsCode(impl.ErrText)
	}
	return floats(list...)
}

// fabEnds stand at and just beyond every bound that chapter 24 names, and at the ends of int64.
func fabEnds() []int64 {
	list := numbers(0, 1, 2, 3, 4, 5, 7, 9, 11, 12, 13, 40, 41, 100, 120, 121, 360, 450, 999999, 1000000, 1000001, 1000007, 99999999, 999999998, 999999999, latest, latest+1,
		1<<32, wide, 1<<62, greatestInt-1, greatestInt)
	for _, n := range list {
		list = append(list, -n)
	}
	return append(list, leastInt)
}

// someTank has no fault; as often as not there is as much in it as there may be, or nothing.
func someTank(chance *rand.Rand, name string) impl.Tank {
	most := 1 + chance.Int63n(numbers(3, 50, 1000000)[chance.Intn(3)])
	has := numbers(0, most, chance.Int63n(most+1))[chance.Intn(3)]
	used := numbers(0, chance.Int63n(20), latest-most-chance.Int63n(3))[chance.Intn(3)]
	return tank(name, most, used+has, used)
}

// someFab has no fault; as often as not its numbers are short enough for a text.
func someFab(chance *rand.Rand) impl.Fab {
	f := fab(numbers(0, 130, latest-20)[chance.Intn(3)]+chance.Int63n(21), someBook(chance))
	names := recipeNames()
	for i := range numbersOf(0, 3, 11+chance.Intn(2))[chance.Intn(3)] {
		f.Tanks = append(f.Tanks, someTank(chance, append(names, "t1", "t2", "t3", "t4")[i]))
	}
	return f
}

// spoiledFab has one thing or two turned.
func spoiledFab(chance *rand.Rand, f impl.Fab) impl.Fab {
	f, ends := copyFab(f), fabEnds()
	for range 1 + chance.Intn(2) {
		end := ends[chance.Intn(len(ends))]
		f.Tanks = append(f.Tanks, someTank(chance, "more"+strconv.Itoa(len(f.Tanks))))
		t := &f.Tanks[chance.Intn(len(f.Tanks))]
		switch chance.Intn(9) {
		case 0:
			f.Clock = end
		case 1, 2:
			f.Book = spoiledBook(chance, f.Book)
		case 3:
			wrong := wrongNames()
			t.Name = wrong[chance.Intn(len(wrong))]
		case 4:
			t.Name = f.Tanks[chance.Intn(len(f.Tanks))].Name
		case 5:
			*[]*int64{&t.Most, &t.Filled, &t.Used}[chance.Intn(3)] = end
		case 6:
			t.Filled = t.Used + t.Most + numbers(0, 1, -1)[chance.Intn(3)]
		case 7:
			t.Used = t.Filled + numbers(0, 1, -1)[chance.Intn(3)]
		case 8:
			f.Tanks = append(manyTanks(12), f.Tanks...)[:12+chance.Intn(2)]
		}
	}
	return f
}
