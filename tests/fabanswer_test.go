package tests

import (
	"math/rand"
	"slices"
	"strings"
	"testing"

	"loop.example/g00057/impl"
)

// fabAsk has what the calls of chapter 24 are given; each takes what it needs.
type fabAsk struct {
	f      impl.Fab
	line   string
	script string
	text   string
	trace  []float64
	bytes  []byte
}

// fabAnswer has what a call answers, and else nothing.
type fabAnswer struct {
	value  impl.ShapeInt
	step   impl.FabResult
	run    impl.FabRun
	told   string
	read   impl.FabText
	tanks  impl.IntsResult
	packed impl.BytesResult
	trace  impl.FloatsResult
}

type fabCall = callLike[fabAsk, fabAnswer]

// fabCalls stand beside what the plain reckoning answers.
func fabCalls() []fabCall {
	return []fabCall{
		{"FabFault",
			func(q fabAsk) fabAnswer { return fabAnswer{value: valueCode(impl.FabFault(q.f))} },
			func(q fabAsk) fabAnswer { return fabAnswer{value: valueCode(fabFaultWant(q.f))} }},
		{"StepFab",
			func(q fabAsk) fabAnswer { return fabAnswer{step: impl.StepFab(q.f, q.line)} },
			func(q fabAsk) fabAnswer { return fabAnswer{step: stepFabWant(q.f, q.line)} }},
		{"RunFab",
			func(q fabAsk) fabAnswer { return fabAnswer{run: impl.RunFab(q.f, q.script)} },
			func(q fabAsk) fabAnswer { return fabAnswer{run: runFabWant(q.f, q.script)} }},
		{"FormatFab",
			func(q fabAsk) fabAnswer { return fabAnswer{told: impl.FormatFab(q.f)} },
			func(q fabAsk) fabAnswer { return fabAnswer{told: formatFabWant(q.f)} }},
		{"ReadFab",
			func(q fabAsk) fabAnswer { return fabAnswer{read: impl.ReadFab(q.text)} },
			func(q fabAsk) fabAnswer { return fabAnswer{read: readFabWant(q.text)} }},
		{"TanksOf",
			func(q fabAsk) fabAnswer { return fabAnswer{tanks: impl.TanksOf(q.f)} },
			func(q fabAsk) fabAnswer { return fabAnswer{tanks: tanksWant(q.f)} }},
		{"PackTrace",
			func(q fabAsk) fabAnswer { return fabAnswer{packed: impl.PackTrace(q.trace)} },
			func(q fabAsk) fabAnswer { return fabAnswer{packed: packWant(q.trace)} }},
		{"UnpackTrace",
			func(q fabAsk) fabAnswer { return fabAnswer{trace: impl.UnpackTrace(q.bytes)} },
			func(q fabAsk) fabAnswer { return fabAnswer{trace: unpackWant(q.bytes)} }},
	}
}

// fabMaps say what becomes of each kind of list.
type fabMaps struct {
	lots    lotMaps
	ofTanks func([]impl.Tank) []impl.Tank
	ofTrace func([]float64) []float64
	ofBytes func([]byte) []byte
}

// mapped has the lists of an ask as the functions answer them.
func (q fabAsk) mapped(of fabMaps) fabAsk {
	q.f.Book = lotAsk{b: q.f.Book}.mapped(of.lots).b
	q.f.Tanks, q.trace, q.bytes = of.ofTanks(q.f.Tanks), of.ofTrace(q.trace), of.ofBytes(q.bytes)
	return q
}

func (q fabAsk) copied() fabAsk {
	lots := lotMaps{slices.Clone[[]int64], slices.Clone[[]impl.Window], slices.Clone[[]impl.Lot]}
	return q.mapped(fabMaps{lots, slices.Clone[[]impl.Tank], slices.Clone[[]float64], slices.Clone[[]byte]})
}

// roomed has room behind each list, and each within it, which no call may write into.
func (q fabAsk) roomed() fabAsk {
	lots := lotMaps{roomFor(int64(77)), roomFor(timeWindow(77, 78, 79)), roomFor(lot(77))}
	return q.mapped(fabMaps{lots, roomFor(tank("room", 77, 77, 77)), roomFor(77.0), roomFor(byte(77))})
}

// wholly has what lies behind the ends of the lists, too; it is a copy.
func (q fabAsk) wholly() fabAsk {
	lots := lotMaps{wholeCopy[int64], wholeCopy[impl.Window], wholeCopy[impl.Lot]}
	return q.mapped(fabMaps{lots, wholeCopy[impl.Tank], wholeCopy[float64], wholeCopy[byte]})
}

func (q fabAsk) same(p fabAsk) bool {
	return sameFab(q.f, p.f) && q.line == p.line && q.script == p.script && q.text == p.text &&
		slices.EqualFunc(q.trace, p.trace, sameFloat) && slices.Equal(q.bytes, p.bytes)
}

func (q fabAsk) scribble() {
	scribbleFab(q.f)
	scribbleAll(q.trace, -5)
	scribbleAll(q.bytes, 5)
}

func (a fabAnswer) same(b fabAnswer) bool {
	return a.value == b.value && sameFabStep(a.step, b.step) && sameFabRun(a.run, b.run) && a.told == b.told && sameFabText(a.read, b.read) &&
		sameInts(a.tanks, b.tanks) && sameBytes(a.packed, b.packed) && sameFloats(a.trace, b.trace)
}

func (a fabAnswer) scribble() {
	for _, f := range []impl.Fab{a.step.Fab, a.run.Fab, a.read.Fab} {
		scribbleFab(f)
	}
	scribbleAll(a.run.Says, "scribble")
	scribbleAll(a.tanks.List, -5)
	scribbleAll(a.packed.Bytes, 5)
	scribbleAll(a.trace.List, -5)
}

func (a fabAnswer) code() int64 {
	return a.value.Code + a.step.Code + a.run.Code + a.read.Code + a.tanks.Code + a.packed.Code + a.trace.Code
}

// zeroed: a line that cannot be read has its place beside the code.
func (a fabAnswer) zeroed() bool {
	at := a.read.At * bit(a.read.Code == impl.ErrText)
	return a.same(fabAnswer{value: valueCode(a.value.Code), step: fabCode(a.step.Code), run: fabRunCode(a.run.Code), read: fabFailed(a.read.Code, at),
		tanks: intsCode(a.tanks.Code), packed: bytesCode(a.packed.Code), trace: floatsCode(a.trace.Code)})
}

// rightFabAsk has a fab without a fault; what is asked of it may have a code.
func rightFabAsk(chance *rand.Rand) fabAsk {
	f := someFab(chance)
	q := fabAsk{f: f, line: someLine(chance, f), script: someScript(chance, f, chance.Intn(20)), trace: someTrace(chance, chance.Intn(12))}
	q.text, q.bytes = fabTextWant(f), packWant(q.trace).Bytes
	return q
}

// turnedIn has a byte of a text turned.
func turnedIn(chance *rand.Rand, text string) string {
	at := chance.Intn(len(text) + 1)
	return text[:at] + string([]byte{byte(chance.Intn(256))}) + text[min(len(text), at+chance.Intn(2)):]
}

// someFabAsks are right and wrong ones, the same at every run.
func someFabAsks(n int) []fabAsk {
	chance := rand.New(rand.NewSource(311))
	var asks []fabAsk
	for i := range n {
		q := rightFabAsk(chance)
		switch i % 8 {
		case 1:
			q.f = spoiledFab(chance, q.f)
		case 2:
			q.line, q.script, q.text = turnedIn(chance, q.line), turnedIn(chance, q.script), turnedIn(chance, q.text)
		case 3:
			q.text = fabTextWant(spoiledFab(chance, q.f))
		case 4:
			q.bytes = append(q.bytes, someBytes(chance, 5)...)
		case 5:
			q.trace, q.bytes = longer(append(q.trace, 0), 199+chance.Intn(4)), longer(append(q.bytes, 1), 199+chance.Intn(4))
		case 6:
			q.script = strings.Repeat(q.line+"\n", 119+chance.Intn(4))
			q.line = strings.Repeat(" ", 30) + q.line
		case 7:
			q.text = fabTextWant(longFab(3990 + chance.Intn(20)))
		}
		asks = append(asks, q)
	}
	return append(asks, fabAsk{}, greatFabAsk(), fullFabAsk())
}

// greatFabAsk has far too much of all.
func greatFabAsk() fabAsk {
	f := impl.Fab{Clock: greatestInt, Book: greatLotAsk().b, Tanks: longer([]impl.Tank{tank("t", leastInt, greatestInt, leastInt)}, 10000)}
	many := strings.Repeat("lot 9223372036854775807\n", 10000)
	return fabAsk{f, many, many, many, longer(reading(mostFloat, -inf, nan), 10000), longer([]byte{0xFF}, 3000)}.copied()
}

// fullFabAsk has as much as there may be.
func fullFabAsk() fabAsk {
	f := fab(latest, fullLotAsk().b, manyTanks(12)...)
	trace := longer(reading(mostFloat, -mostFloat), 200)
	return fabAsk{f, "split 999971 1000000 " + numberWordsOf(runOf(2, 24)...), strings.Repeat("fill t0 1\nuse t0 1\n", 60), fabTextWant(longFab(4000)), trace, packWant(trace).Bytes}
}

func TestEveryFabAskIsAnswered(t *testing.T) {
	checkSteady(t, someFabAsks(900), fabCalls())
}

func TestEveryFabAskIsAnsweredRightly(t *testing.T) {
	answers := checkRightly(t, someFabAsks(2500), fabCalls())
	says := func(a fabAnswer) bool { return a.step.Say != "" && a.step.Say != "ok" || len(a.run.Says) > 5 }
	checkCodesMet(t, answers, says, impl.OK, impl.ErrForm, impl.ErrMany, impl.ErrRange, impl.ErrNone, impl.ErrText, impl.ErrZero, impl.ErrTaken)
}

func TestZeroBesideACodeOfFabs(t *testing.T) {
	checkZeroed(t, someFabAsks(1500), fabCalls())
}

func TestFabsAnswerNewMemory(t *testing.T) {
	checkNewMemory(t, someFabAsks(900), fabCalls())
}

func TestFabsKeepNothing(t *testing.T) {
	checkKeepsNothing(t, someFabAsks(200), fabCalls())
}

// The wafers and the times of all lots of an answer, and Scrap, and the room behind them, are each their own.
func TestListsOfFabsAreApart(t *testing.T) {
	for _, q := range someFabAsks(600) {
		for _, c := range fabCalls() {
			got := c.call(q)
			for _, f := range []impl.Fab{got.step.Fab, got.run.Fab, got.read.Fab} {
				checkApart(t, c.name, listsOfBook(f.Book), -5, slices.Equal[[]int64])
			}
		}
	}
}

// One list may be handed in as several: what is answered has each of its own.
func TestOneListInTwoPlacesOfAFab(t *testing.T) {
	list := numbers(3, 4, 5)
	f := fab(9, withScrap(lotBook(5, doneAt(lot(1, list...), list...), doneAt(lot(2, list[:0]...), list...)), list[3:]...), tank("a", 5, 3, 1))
	for _, line := range []string{"", "tick 1", "lot 8 7", "split 1 9 4 5", "merge 2 1", "hold 1", "free 1", "scrap 4", "done 1", "where 4", "tank b 5", "fill a 1", "have a"} {
		step, run := impl.StepFab(f, line), impl.RunFab(f, line+"\n"+line)
		checkObeyed(t, "one list", f, line, stepFabWant(f, line))
		for _, made := range []impl.Fab{step.Fab, run.Fab} {
			checkApart(t, line, append(listsOfBook(made.Book), list), -5, slices.Equal[[]int64])
		}
		if step.Code != impl.OK {
			t.Errorf("%q has the code %d", line, step.Code)
		}
	}
	if !slices.Equal(list, numbers(3, 4, 5)) {
		t.Errorf("what was given is %v", list)
	}
}

// Every end stands once in each place where a number is given, in a fab and its text, in a line and a script, and in bytes.
func TestEveryEndOfFabs(t *testing.T) {
	lines := []string{"tick N", "lot N 99", "lot 20 N", "split 7 N 11", "split N 20 11", "split 7 20 N", "merge 7 N", "hold N", "free N", "scrap N", "done N", "left N", "where N", "tank x N", "fill n2 N", "use n2 N"}
	for _, n := range fabEnds() {
		var asks []fabAsk
		number := numberWordsOf(n)
		for i := range 16 {
			f := plainFab()
			first, window, held := &f.Book.Lots[0], &f.Book.Windows[0], &f.Tanks[0]
			*[]*int64{&f.Clock, &f.Book.Steps, &window.From, &window.To, &window.Most, &first.Id, &first.Parent, &first.Wafers[1], &f.Book.Lots[1].Done[1], &f.Book.Scrap[1],
				&held.Most, &held.Filled, &held.Used, &f.Tanks[1].Most, &f.Tanks[1].Filled, &f.Tanks[1].Used}[i] = n
			line := strings.ReplaceAll(lines[i], "N", number)
			asks = append(asks, fabAsk{f, line, line + "\n" + line, fabTextWant(f), reading(floatWant(uint64(n))), bitsPacked(uint64(n))},
				fabAsk{f: plainFab(), line: line, script: line + "\n" + line, text: plainFabText})
		}
		checkRightly(t, asks, fabCalls())
		checkSteady(t, asks, fabCalls())
	}
}

func TestNoTankIsNoTank(t *testing.T) {
	bare := fabAsk{f: fab(5, lotBook(3, impl.Lot{Id: 7})), line: "where 7", script: "have a", text: fabAhead}
	empty := bare
	empty.f = impl.Fab{Clock: 5, Book: lotBook(3, doneAt(lot(7, []int64{}...), []int64{}...)), Tanks: []impl.Tank{}}
	empty.f.Book.Windows, empty.f.Book.Scrap = []impl.Window{}, []int64{}
	empty.trace, empty.bytes = []float64{}, []byte{}
	none := fabAsk{f: impl.Fab{Book: impl.LotBook{Windows: []impl.Window{}, Lots: []impl.Lot{}, Scrap: []int64{}}, Tanks: []impl.Tank{}}, trace: []float64{}, bytes: []byte{}}
	noLots, emptyLots := bare, bare
	noLots.f, emptyLots.f = fab(5, lotBook(3)), fab(5, lotBook(3, []impl.Lot{}...), []impl.Tank{}...)
	checkNoneIsNone(t, [][2]fabAsk{{bare, empty}, {noLots, emptyLots}, {{}, none}}, fabCalls())
}
