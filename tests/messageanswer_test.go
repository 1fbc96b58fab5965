package tests

import (
	"bytes"
	"math/rand"
	"slices"
	"strings"
	"testing"

	"loop.example/g00057/impl"
)

// messageAsk has what the calls of chapter 18 are given; each takes what it needs.
type messageAsk struct {
	items  []impl.Item
	bytes  []byte
	m      impl.Message
	block  []byte
	blocks [][]byte
	talk   impl.Talk
	event  int64
	events []int64
}

// messageAnswer has what a call answers, and else nothing.
type messageAnswer struct {
	fault  impl.ShapeInt
	bytes  impl.BytesResult
	items  impl.ItemsResult
	blocks impl.BlocksResult
	block  impl.BlockResult
	joined impl.MessageResult
	step   impl.TalkResult
	run    impl.TalkRun
}

type messageCall = callLike[messageAsk, messageAnswer]

// messageCalls stand beside what the plain reckoning answers.
func messageCalls() []messageCall {
	return []messageCall{
		{"ItemsFault",
			func(q messageAsk) messageAnswer { return messageAnswer{fault: valueCode(impl.ItemsFault(q.items))} },
			func(q messageAsk) messageAnswer { return messageAnswer{fault: valueCode(itemsFaultWant(q.items))} }},
		{"EncodeItems",
			func(q messageAsk) messageAnswer { return messageAnswer{bytes: impl.EncodeItems(q.items)} },
			func(q messageAsk) messageAnswer { return messageAnswer{bytes: encodeWant(q.items)} }},
		{"DecodeItems",
			func(q messageAsk) messageAnswer { return messageAnswer{items: impl.DecodeItems(q.bytes)} },
			func(q messageAsk) messageAnswer { return messageAnswer{items: decodeWant(q.bytes)} }},
		{"MessageFault",
			func(q messageAsk) messageAnswer { return messageAnswer{fault: valueCode(impl.MessageFault(q.m))} },
			func(q messageAsk) messageAnswer { return messageAnswer{fault: valueCode(messageFaultWant(q.m))} }},
		{"CutBlocks",
			func(q messageAsk) messageAnswer { return messageAnswer{blocks: impl.CutBlocks(q.m)} },
			func(q messageAsk) messageAnswer { return messageAnswer{blocks: cutBlocksWant(q.m)} }},
		{"ReadBlock",
			func(q messageAsk) messageAnswer { return messageAnswer{block: impl.ReadBlock(q.block)} },
			func(q messageAsk) messageAnswer { return messageAnswer{block: blockWant(q.block)} }},
		{"JoinBlocks",
			func(q messageAsk) messageAnswer { return messageAnswer{joined: impl.JoinBlocks(q.blocks)} },
			func(q messageAsk) messageAnswer { return messageAnswer{joined: joinBlocksWant(q.blocks)} }},
		{"TalkStep",
			func(q messageAsk) messageAnswer { return messageAnswer{step: impl.TalkStep(q.talk, q.event)} },
			func(q messageAsk) messageAnswer { return messageAnswer{step: talkWant(q.talk, q.event)} }},
		{"RunTalk",
			func(q messageAsk) messageAnswer { return messageAnswer{run: impl.RunTalk(q.events)} },
			func(q messageAsk) messageAnswer { return messageAnswer{run: talkRunWant(q.events)} }},
	}
}

// messageMaps say what becomes of each kind of list.
type messageMaps struct {
	ofItems   func([]impl.Item) []impl.Item
	ofNumbers func([]int64) []int64
	ofBytes   func([]byte) []byte
	ofBlocks  func([][]byte) [][]byte
}

// mapped has the lists of an ask as the functions answer them.
func (q messageAsk) mapped(of messageMaps) messageAsk {
	q.items, q.events = mappedItems(q.items, of.ofItems, of.ofNumbers), of.ofNumbers(q.events)
	q.bytes, q.m.Data, q.block = of.ofBytes(q.bytes), of.ofBytes(q.m.Data), of.ofBytes(q.block)
	q.blocks = mappedRows(q.blocks, of.ofBlocks, of.ofBytes)
	return q
}

func (q messageAsk) copied() messageAsk {
	return q.mapped(messageMaps{slices.Clone[[]impl.Item], slices.Clone[[]int64], slices.Clone[[]byte], slices.Clone[[][]byte]})
}

// roomed has room behind each list, and each within it, which no call may write into.
func (q messageAsk) roomed() messageAsk {
	return q.mapped(messageMaps{roomFor(textItem("room")), roomFor(int64(77)), roomFor(byte(77)), roomFor(raw(77, 77))})
}

// wholly has what lies behind the ends of the lists, too; it is a copy.
func (q messageAsk) wholly() messageAsk {
	return q.mapped(messageMaps{wholeCopy[impl.Item], wholeCopy[int64], wholeCopy[byte], wholeCopy[[]byte]})
}

func (q messageAsk) same(p messageAsk) bool {
	return slices.EqualFunc(q.items, p.items, sameItem) && slices.Equal(q.events, p.events) && bytes.Equal(q.bytes, p.bytes) && sameTold(q.m, p.m) &&
		bytes.Equal(q.block, p.block) && slices.EqualFunc(q.blocks, p.blocks, bytes.Equal)
}

func scribbleItems(list []impl.Item) {
	for _, item := range list[:cap(list)] {
		scribbleAll(item.Ints, -5)
	}
	scribbleAll(list, textItem("scribble"))
}

func scribbleBlocks(list [][]byte) {
	for _, b := range list[:cap(list)] {
		scribbleAll(b, 250)
	}
	scribbleAll(list, raw(250, 251))
}

func (q messageAsk) scribble() {
	scribbleItems(q.items)
	scribbleAll(q.events, -5)
	for _, b := range [][]byte{q.bytes, q.m.Data, q.block} {
		scribbleAll(b, 250)
	}
	scribbleBlocks(q.blocks)
}

func (a messageAnswer) same(b messageAnswer) bool {
	return a.fault == b.fault && sameBytes(a.bytes, b.bytes) && sameItems(a.items, b.items) && sameBlocks(a.blocks, b.blocks) && sameBlock(a.block, b.block) &&
		sameMessage(a.joined, b.joined) && a.step == b.step && sameTalkRun(a.run, b.run)
}

func (a messageAnswer) scribble() {
	for _, b := range [][]byte{a.bytes.Bytes, a.block.Block.Data, a.joined.Message.Data} {
		scribbleAll(b, 250)
	}
	scribbleItems(a.items.Items)
	scribbleBlocks(a.blocks.Blocks)
	scribbleAll(a.run.Says, -5)
}

func (a messageAnswer) code() int64 {
	return a.fault.Code + a.bytes.Code + a.items.Code + a.blocks.Code + a.block.Code + a.joined.Code + a.run.Code
}

// zeroed tells whether there is nothing beside the code, but for the places of items and blocks.
func (a messageAnswer) zeroed() bool {
	a.items.At *= bit(a.items.Code == impl.ErrMany || a.items.Code == impl.ErrForm || a.items.Code == impl.ErrRange)
	a.joined.At = 0
	return a.fault.Value+a.items.At == 0 && len(a.bytes.Bytes)+len(a.items.Items)+len(a.blocks.Blocks)+len(a.run.Says) == 0 &&
		sameBlock(a.block, blockCode(a.block.Code)) && sameMessage(a.joined, messageFailed(a.joined.Code, 0)) && a.run.Talk == impl.Talk{}
}

// rightMessageAsk has no fault, but that items may have too many bytes.
func rightMessageAsk(chance *rand.Rand, i int) messageAsk {
	q := messageAsk{items: someItems(chance, 1+chance.Intn(numbersOf(5, 30, 100)[i%3]), 0, numbersOf(3, 20, 61)[i/3%3])}
	q.bytes, q.m = plainBytes(q.items), someMessage(chance, numbersOf(40, 300, 2000)[i%3])
	q.blocks = sentTwice(chance, cutBlocksWant(q.m).Blocks)
	q.block = q.blocks[chance.Intn(len(q.blocks))]
	q.talk, q.event = talk(chance.Int63n(5), chance.Int63n(5), chance.Int63n(4)), chance.Int63n(6)
	q.events = someEvents(chance, chance.Intn(40))
	return q
}

// someMessageAsks are right and wrong ones, the same at every run.
func someMessageAsks(n int) []messageAsk {
	chance, ends := rand.New(rand.NewSource(210)), messageEnds()
	end := func() int64 { return ends[chance.Intn(len(ends))] }
	var asks []messageAsk
	for i := range n {
		q := rightMessageAsk(chance, i)
		switch i % 6 {
		case 1:
			q.items = spoiledItems(chance, q.items)
		case 2:
			q.bytes, q.block = turnedBytes(chance, q.bytes), turnedBytes(chance, q.block)
		case 3:
			*[]*int64{&q.m.Stream, &q.m.Function, &q.m.System}[chance.Intn(3)] = end()
			q.blocks = spoiledBlocks(chance, q.blocks)
		case 4:
			q.m.Data = someBytes(chance, 1999+chance.Intn(4))
			q.talk, q.event = talk(1, end(), end()), end()
		case 5:
			q.events, q.bytes = someEvents(chance, 199+chance.Intn(4)), someBytes(chance, chance.Intn(12))
			q.block = sealed(someBytes(chance, 4+chance.Intn(35))...)
		}
		asks = append(asks, q)
	}
	return append(asks, messageAsk{}, greatMessageAsk(), fullMessageAsk())
}

// greatMessageAsk has far too much of all.
func greatMessageAsk() messageAsk {
	return messageAsk{items: make([]impl.Item, 10000), bytes: make([]byte, 10000), m: message(1, 2, 3, make([]byte, 10000)...), block: make([]byte, 10000),
		blocks: make([][]byte, 10000), events: make([]int64, 10000)}
}

// fullMessageAsk has as much as there may be.
func fullMessageAsk() messageAsk {
	q := messageAsk{items: append(items(listOf(99)), longer(items(intItem(-1<<31), textItem(strings.Repeat("x", 20)), boolItem(1, 0, 1)), 99)...)}
	q.bytes, q.m = plainBytes(longItems(2000)), message(127, 255, 255, bytes.Repeat(raw(255), 2000)...)
	q.blocks, q.events = cutBlocksWant(q.m).Blocks, append(numbers(1), longer(numbers(4), 199)...)
	q.block = q.blocks[0]
	return q
}

func TestEveryMessageAskIsAnswered(t *testing.T) {
	checkSteady(t, someMessageAsks(800), messageCalls())
}

func TestEveryMessageAskIsAnsweredRightly(t *testing.T) {
	answers := checkRightly(t, someMessageAsks(1500), messageCalls())
	many := func(a messageAnswer) bool { return len(a.items.Items) > 5 }
	checkCodesMet(t, answers, many, impl.OK, impl.ErrForm, impl.ErrMany, impl.ErrRange, impl.ErrNone, impl.ErrText, impl.ErrZero, impl.ErrTaken)
}

func TestZeroBesideACodeOfMessages(t *testing.T) {
	checkZeroed(t, someMessageAsks(1500), messageCalls())
}

func TestMessagesAnswerNewMemory(t *testing.T) {
	checkNewMemory(t, someMessageAsks(800), messageCalls())
}

// The numbers of each item and the bytes of each block, and the room behind them, are its own.
func TestListsOfMessagesAreApart(t *testing.T) {
	for _, q := range someMessageAsks(300) {
		var lists [][]int64
		for _, item := range impl.DecodeItems(q.bytes).Items {
			lists = append(lists, item.Ints)
		}
		checkApart(t, brief(q.bytes), lists, -5, slices.Equal[[]int64])
		checkApart(t, brief(q.m), impl.CutBlocks(q.m).Blocks, 250, bytes.Equal)
	}
}

func TestMessagesKeepNothing(t *testing.T) {
	checkKeepsNothing(t, someMessageAsks(120), messageCalls())
}

// Every end stands once in each place where a number is given.
func TestEveryEndOfMessages(t *testing.T) {
	for _, n := range messageEnds() {
		var asks []messageAsk
		for i := range 14 {
			q := messageAsk{items: copyItems(plainItems()), bytes: []byte(plainItemBytes), m: message(1, 2, 3, 4), talk: talk(1, 2, 2), event: 4, events: numbers(1, 4, 2)}
			*[]*int64{&q.items[0].Kind, &q.items[0].Kids, &q.items[1].Kind, &q.items[2].Kids, &q.items[3].Ints[1], &q.items[5].Ints[0], &q.items[5].Kids,
				&q.m.Stream, &q.m.Function, &q.m.System, &q.talk.Phase, &q.talk.Tries, &q.talk.Wait, &q.event}[i] = n
			asks = append(asks, q)
		}
		for i := range 3 {
			q := messageAsk{events: numbers(1, 4, 2)}
			q.events[i] = n
			asks = append(asks, q)
		}
		checkRightly(t, asks, messageCalls())
		checkSteady(t, asks, messageCalls())
	}
}

func TestNoMessageIsNoMessage(t *testing.T) {
	bare := messageAsk{items: items(listOf(0)), m: message(1, 2, 3)}
	empty := messageAsk{items: items(impl.Item{Ints: numbers()}), bytes: raw(), m: message(1, 2, 3, raw()...), block: raw(), blocks: [][]byte{}, events: numbers()}
	none := empty
	none.items, none.m = items(), impl.Message{Data: raw()}
	checkNoneIsNone(t, [][2]messageAsk{{bare, empty}, {{}, none}, {{blocks: [][]byte{nil}}, {blocks: [][]byte{raw()}}}}, messageCalls())
}
