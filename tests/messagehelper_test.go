package tests

import (
	"bytes"
	"encoding/binary"
	"math/big"
	"math/rand"
	"slices"
	"strings"
	"testing"

	"loop.example/g00057/impl"
)

func listOf(kids int64) impl.Item {
	return impl.Item{Kind: impl.ItemList, Kids: kids}
}

func textItem(text string) impl.Item {
	return impl.Item{Kind: impl.ItemText, Text: text}
}

func boolItem(list ...int64) impl.Item {
	return impl.Item{Kind: impl.ItemBool, Ints: list}
}

func intItem(list ...int64) impl.Item {
	return impl.Item{Kind: impl.ItemInt, Ints: list}
}

func items(list ...impl.Item) []impl.Item {
	return list
}

func itemsOf(list ...impl.Item) impl.ItemsResult {
	return impl.ItemsResult{Items: list}
}

func itemsFailed(code int64, at int64) impl.ItemsResult {
	return impl.ItemsResult{Code: code, At: at}
}

func raw(list ...byte) []byte {
	return list
}

func bytesOf(list ...byte) impl.BytesResult {
	return impl.BytesResult{Bytes: list}
}

func bytesCode(code int64) impl.BytesResult {
	return impl.BytesResult{Code: code}
}

func message(stream int64, function int64, system int64, data ...byte) impl.Message {
	return impl.Message{Stream: stream, Function: function, System: system, Data: data}
}

func messageOf(m impl.Message) impl.MessageResult {
	return impl.MessageResult{Message: m}
}

func messageFailed(code int64, at int64) impl.MessageResult {
	return impl.MessageResult{Code: code, At: at}
}

func blocksCode(code int64) impl.BlocksResult {
	return impl.BlocksResult{Code: code}
}

func blockCode(code int64) impl.BlockResult {
	return impl.BlockResult{Code: code}
}

func talk(phase int64, tries int64, wait int64) impl.Talk {
	return impl.Talk{Phase: phase, Tries: tries, Wait: wait}
}

func sameItem(a impl.Item, b impl.Item) bool {
	return a.Kind == b.Kind && a.Kids == b.Kids && a.Text == b.Text && slices.Equal(a.Ints, b.Ints)
}

func sameItems(a impl.ItemsResult, b impl.ItemsResult) bool {
	return a.Code == b.Code && a.At == b.At && slices.EqualFunc(a.Items, b.Items, sameItem)
}

func sameBytes(a impl.BytesResult, b impl.BytesResult) bool {
	return a.Code == b.Code && bytes.Equal(a.Bytes, b.Bytes)
}

func sameTold(a impl.Message, b impl.Message) bool {
	return a.Stream == b.Stream && a.Function == b.Function && a.System == b.System && bytes.Equal(a.Data, b.Data)
}

func sameMessage(a impl.MessageResult, b impl.MessageResult) bool {
	return a.Code == b.Code && a.At == b.At && sameTold(a.Message, b.Message)
}

func sameBlock(a impl.BlockResult, b impl.BlockResult) bool {
	first, second := a.Block, b.Block
	return a.Code == b.Code && first.Stream == second.Stream && first.Function == second.Function && first.Number == second.Number &&
		first.Last == second.Last && first.System == second.System && bytes.Equal(first.Data, second.Data)
}

func sameBlocks(a impl.BlocksResult, b impl.BlocksResult) bool {
	return a.Code == b.Code && slices.EqualFunc(a.Blocks, b.Blocks, bytes.Equal)
}

func sameTalkRun(a impl.TalkRun, b impl.TalkRun) bool {
	return a.Code == b.Code && a.Talk == b.Talk && slices.Equal(a.Says, b.Says)
}

// checkItemsFault asks the call that tells the fault, too.
func checkItemsFault(t *testing.T, what string, list []impl.Item, code int64) {
	t.Helper()
	if got := impl.ItemsFault(list); got != code {
		t.Errorf("%s, %s: the fault is %d, want %d", what, brief(list), got, code)
	}
	if got := impl.EncodeItems(list); code != impl.OK && !sameBytes(got, bytesCode(code)) {
		t.Errorf("%s, %s: the bytes are %s, want the code %d", what, brief(list), brief(got), code)
	}
}

func checkEncoded(t *testing.T, what string, list []impl.Item, want impl.BytesResult) {
	t.Helper()
	if got := impl.EncodeItems(list); !sameBytes(got, want) {
		t.Errorf("%s, %s: the bytes are %s, want %s", what, brief(list), brief(got), brief(want))
	}
}

func checkDecoded(t *testing.T, b []byte, want impl.ItemsResult) {
	t.Helper()
	if got := impl.DecodeItems(b); !sameItems(got, want) {
		t.Errorf("%d bytes, %.120x: %s, want %s", len(b), b, brief(got), brief(want))
	}
}

func checkBlock(t *testing.T, what string, b []byte, want impl.BlockResult) {
	t.Helper()
	if got := impl.ReadBlock(b); !sameBlock(got, want) {
		t.Errorf("%s, %.120x: %s, want %s", what, b, brief(got), brief(want))
	}
}

func checkMessage(t *testing.T, what string, list [][]byte, want impl.MessageResult) {
	t.Helper()
	if got := impl.JoinBlocks(list); !sameMessage(got, want) {
		t.Errorf("%s, %d blocks: %s, want %s", what, len(list), brief(got), brief(want))
	}
}

func checkTalkRun(t *testing.T, events []int64, want impl.TalkRun) {
	t.Helper()
	if got := impl.RunTalk(events); !sameTalkRun(got, want) {
		t.Errorf("RunTalk(%s) = %v, want %v", brief(events), got, want)
	}
}

// endWant is the place behind an item with all that is in it; it is beyond the list, if items are missing.
func endWant(list []impl.Item, at int) int {
	if at >= len(list) {
		return len(list) + 1
	}
	end := at + 1
	for range min(list[at].Kids, 1000) {
		if end <= len(list) {
			end = endWant(list, end)
		}
	}
	return end
}

// listsAround is in how many lists an item lies.
func listsAround(ends []int, at int) int {
	n := 0
	for _, end := range ends[:at] {
		n += int(bit(at < end))
	}
	return n
}

func itemsFaultWant(list []impl.Item) int64 {
	if len(list) >= 101 {
		return impl.ErrMany
	}
	var ends []int
	for i := range list {
		ends = append(ends, endWant(list, i))
	}
	var codes faults
	for i, item := range list {
		inList, inText, inBool, inInt := item.Kind == 0, item.Kind == 16, item.Kind == 9, item.Kind == 28
		codes.wrong(impl.ErrForm, !inList && !inText && !inBool && !inInt, item.Kids < 0, item.Kids != 0 && !inList, len(item.Ints) != 0 && (inList || inText),
			len(item.Text) != 0 && !inText)
		codes.wrong(impl.ErrMany, item.Kids >= 101, len(item.Text) >= 301, len(item.Ints) >= 61)
		for _, n := range item.Ints {
			codes.wrong(impl.ErrRange, inBool && n != 0 && n != 1, inInt && (n < -2147483648 || n > 2147483647))
		}
		codes.wrong(impl.ErrForm, i >= ends[0])
		codes.wrong(impl.ErrMany, listsAround(ends, i) >= 8)
	}
	codes.wrong(impl.ErrForm, len(list) == 0)
	codes.wrong(impl.ErrForm, slices.Contains(ends, len(list)+1))
	return codes.first()
}

// lengthWant has the bytes of a number of any size, of 0 one.
func lengthWant(n int64) []byte {
	if n == 0 {
		return raw(0)
	}
	return big.NewInt(n).Bytes()
}

// followWant are the bytes behind an item's length.
func followWant(item impl.Item) []byte {
	out := []byte(item.Text)
	for _, n := range item.Ints {
		four := binary.BigEndian.AppendUint32(nil, uint32(n))
		out = append(out, map[int64][]byte{9: four[3:], 28: four}[item.Kind]...)
	}
	return out
}

// plainBytes are those of items without a fault, however many they are.
func plainBytes(list []impl.Item) []byte {
	var out []byte
	for _, item := range list {
		follow := followWant(item)
		length := lengthWant(map[bool]int64{true: item.Kids, false: int64(len(follow))}[item.Kind == 0])
		out = slices.Concat(out, raw(byte(item.Kind)<<2|byte(len(length))), length, follow)
	}
	return out
}

func encodeWant(list []impl.Item) impl.BytesResult {
	if code := itemsFaultWant(list); code != impl.OK {
		return bytesCode(code)
	}
	if len(plainBytes(list)) >= 2001 {
		return bytesCode(impl.ErrMany)
	}
	return bytesOf(plainBytes(list)...)
}

// headWant reads an item's first byte and its length: the item, its number of bytes that follow, and the bytes behind the length; or a code.
func headWant(b []byte) (impl.Item, int, []byte, int64) {
	kind, count := int64(b[0]&0xFC)/4, int(b[0]&3)
	if !slices.Contains(numbers(0, 9, 16, 28), kind) || count == 0 {
		return impl.Item{}, 0, nil, impl.ErrText
	}
	if len(b) < 1+count {
		return impl.Item{}, 0, nil, impl.ErrNone
	}
	length := new(big.Int).SetBytes(b[1 : 1+count]).Int64()
	if !bytes.Equal(lengthWant(length), b[1:1+count]) {
		return impl.Item{}, 0, nil, impl.ErrText
	}
	if kind == 0 {
		return listOf(length), 0, b[1+count:], impl.OK
	}
	return impl.Item{Kind: kind}, int(length), b[1+count:], impl.OK
}

// itemWant reads one item at the beginning of the bytes, and what is left of them behind it; or a code.
func itemWant(b []byte) (impl.Item, []byte, int64) {
	item, follow, rest, code := headWant(b)
	if code != impl.OK {
		return item, nil, code
	}
	if len(rest) < follow {
		return item, nil, impl.ErrNone
	}
	if item.Kind == 28 && follow%4 != 0 {
		return item, nil, impl.ErrText
	}
	for i, one := range rest[:follow] {
		switch {
		case item.Kind == 16:
			item.Text += string(raw(one))
		case item.Kind == 9:
			item.Ints = append(item.Ints, int64(one))
		case i%4 == 0:
			item.Ints = append(item.Ints, int64(int32(binary.BigEndian.Uint32(rest[i:]))))
		}
	}
	return item, rest[follow:], impl.OK
}

// treeWant reads an item and all that is in it: the items, and what is left of the bytes; or a code, which is told of what is left.
func treeWant(b []byte) ([]impl.Item, []byte, int64) {
	if len(b) == 0 {
		return nil, b, impl.ErrNone
	}
	item, rest, code := itemWant(b)
	if code != impl.OK {
		return nil, b, code
	}
	list := items(item)
	for range item.Kids {
		var kid []impl.Item
		kid, rest, code = treeWant(rest)
		if code != impl.OK {
			return nil, rest, code
		}
		list = append(list, kid...)
	}
	return list, rest, impl.OK
}

func decodeWant(b []byte) impl.ItemsResult {
	if len(b) >= 2001 {
		return itemsFailed(impl.ErrMany, 0)
	}
	list, rest, code := treeWant(b)
	at := int64(len(b) - len(rest))
	if code != impl.OK {
		return itemsFailed(code, at)
	}
	if len(rest) > 0 {
		return itemsFailed(impl.ErrTaken, at)
	}
	if code := itemsFaultWant(list); code != impl.OK {
		return itemsFailed(code, 0)
	}
	return itemsOf(list...)
}

func messageFaultWant(m impl.Message) int64 {
	var codes faults
	codes.wrong(impl.ErrRange, m.Stream <= 0, m.Stream >= 128, m.Function <= -1, m.Function >= 256, m.System <= -1, m.System >= 256)
	codes.wrong(impl.ErrMany, len(m.Data) >= 2001)
	return codes.first()
}

// sealed has its length ahead of the bytes and their sum behind them.
func sealed(inner ...byte) []byte {
	sum := 0
	for _, b := range inner {
		sum += int(b)
	}
	return binary.BigEndian.AppendUint16(append(raw(byte(len(inner))), inner...), uint16(sum%65536))
}

func blockOf(stream int64, function int64, number int64, last bool, system int64, data ...byte) []byte {
	return sealed(append(raw(byte(stream), byte(function), byte(number), byte(system), byte(bit(last))), data...)...)
}

func cutBlocksWant(m impl.Message) impl.BlocksResult {
	if code := messageFaultWant(m); code != impl.OK {
		return blocksCode(code)
	}
	pieces := slices.Collect(slices.Chunk(m.Data, 32))
	if len(pieces) == 0 {
		pieces = [][]byte{nil}
	}
	var list [][]byte
	for i, piece := range pieces {
		list = append(list, blockOf(m.Stream, m.Function, int64(i)+1, i == len(pieces)-1, m.System, piece...))
	}
	return impl.BlocksResult{Blocks: list}
}

func blockWant(b []byte) impl.BlockResult {
	if len(b) <= 7 || b[0] <= 4 || b[0] >= 38 || len(b) != 3+int(b[0]) {
		return blockCode(impl.ErrText)
	}
	inner := b[1 : len(b)-2]
	if !bytes.Equal(sealed(inner...), b) {
		return blockCode(impl.ErrZero)
	}
	if inner[0] == 0 || inner[0] >= 128 || inner[2] == 0 || inner[4] >= 2 {
		return blockCode(impl.ErrRange)
	}
	return impl.BlockResult{Block: impl.Block{Stream: int64(inner[0]), Function: int64(inner[1]), Number: int64(inner[2]), Last: inner[4] == 1,
		System: int64(inner[3]), Data: slices.Clone(inner[5:])}}
}

// joinBlocksWant looks at all blocks that were kept anew for each further one.
func joinBlocksWant(list [][]byte) impl.MessageResult {
	if len(list) == 0 {
		return messageFailed(impl.ErrNone, 0)
	}
	var kept []impl.Block
	for i, b := range list {
		read := blockWant(b)
		if read.Code != impl.OK {
			return messageFailed(read.Code, int64(i))
		}
		if i > 0 && string(b) == string(list[i-1]) {
			continue
		}
		kept = append(kept, read.Block)
		first, next := kept[0], read.Block
		var codes faults
		codes.wrong(impl.ErrForm, first.Stream != next.Stream, first.Function != next.Function, first.System != next.System)
		codes.wrong(impl.ErrTaken, slices.ContainsFunc(kept[:len(kept)-1], func(other impl.Block) bool { return other.Last }))
		codes.wrong(impl.ErrRange, next.Number != int64(len(kept)))
		if code := codes.first(); code != impl.OK {
			return messageFailed(code, int64(i))
		}
	}
	if !kept[len(kept)-1].Last {
		return messageFailed(impl.ErrNone, int64(len(list)))
	}
	m := message(kept[0].Stream, kept[0].Function, kept[0].System)
	for _, b := range kept {
		m.Data = append(m.Data, b.Data...)
	}
	return messageOf(m)
}

// talkWant asks whether the talk is said again ahead of all else.
func talkWant(t impl.Talk, event int64) impl.TalkResult {
	idle, sent := t.Phase == 0, t.Phase == 1
	again := sent && (event == 3 || event == 4 && t.Wait >= 2)
	switch {
	case again && t.Tries >= 3:
		return impl.TalkResult{Talk: talk(3, t.Tries, t.Wait)}
	case again:
		return impl.TalkResult{Talk: talk(1, t.Tries+1, 0), Say: true}
	case idle && event == 1:
		return impl.TalkResult{Talk: talk(1, 1, 0), Say: true}
	case sent && event == 2:
		return impl.TalkResult{Talk: talk(2, t.Tries, t.Wait)}
	case sent && event == 4:
		return impl.TalkResult{Talk: talk(1, t.Tries, t.Wait+1)}
	}
	return impl.TalkResult{Talk: t}
}

func talkRunWant(events []int64) impl.TalkRun {
	if len(events) >= 201 {
		return impl.TalkRun{Code: impl.ErrMany}
	}
	run := impl.TalkRun{}
	for i, event := range events {
		step := talkWant(run.Talk, event)
		if step.Say {
			run.Says = append(run.Says, int64(i))
		}
		run.Talk = step.Talk
	}
	return run
}

// messageEnds stand at and just beyond every bound that chapter 18 names, and at the ends of int64.
func messageEnds() []int64 {
	list := numbers(0, 1, 2, 3, 4, 5, 7, 8, 9, 10, 15, 16, 17, 27, 28, 29, 60, 61, 99, 100, 101, 126, 127, 128, 255, 256, 300, 1<<16, 1<<24,
		1<<31-1, 1<<31, 1<<31+1, 1<<32-1, 1<<32, 1<<32+1, wide, 1<<62, greatestInt-1, greatestInt)
	for _, n := range list {
		list = append(list, -n)
	}
	return append(list, leastInt)
}

func someBytes(chance *rand.Rand, n int) []byte {
	list := make([]byte, n)
	for i := range list {
		list[i] = byte(chance.Intn(numbersOf(2, 256)[chance.Intn(2)]))
	}
	return list
}

// someLeaf is no list, and has at most so many bytes or numbers.
func someLeaf(chance *rand.Rand, most int) impl.Item {
	n := chance.Intn(most + 1)
	if chance.Intn(3) == 0 {
		return textItem(string(someBytes(chance, n)))
	}
	bools, list := chance.Intn(2) == 0, make([]int64, min(n, 60))
	for i := range list {
		list[i] = numbers(int64(int32(chance.Uint32())), -1<<31, 1<<31-1, chance.Int63n(5)-2)[chance.Intn(4)]
		if bools {
			list[i] = chance.Int63n(2)
		}
	}
	if bools {
		return boolItem(list...)
	}
	return intItem(list...)
}

// someItems have no fault; they are in depth lists already, and count, if that is possible.
func someItems(chance *rand.Rand, count int, depth int, most int) []impl.Item {
	if depth == 7 || count == 1 && chance.Intn(4) > 0 {
		return items(someLeaf(chance, most))
	}
	list := items(listOf(0))
	for left := count - 1; left > 0; {
		part := someItems(chance, 1+chance.Intn(left), depth+1, most)
		list = append(list, part...)
		list[0].Kids++
		left -= len(part)
	}
	return list
}

// spoiledItems have, mostly, one thing or two that are at a bound or beyond it.
func spoiledItems(chance *rand.Rand, list []impl.Item) []impl.Item {
	list, ends := copyItems(list), messageEnds()
	end := func() int64 { return ends[chance.Intn(len(ends))] }
	for range 1 + chance.Intn(2) {
		i := chance.Intn(len(list))
		item := &list[i]
		switch chance.Intn(9) {
		case 0:
			item.Kind = numbers(0, 9, 16, 28, end())[chance.Intn(5)]
		case 1:
			item.Kids = end()
		case 2:
			item.Kids += chance.Int63n(3) - 1
		case 3:
			item.Ints = append(item.Ints, end())
		case 4:
			item.Ints = longer(numbers(0, 1, 1, 0), 59+chance.Intn(4))
		case 5:
			item.Text += strings.Repeat("x", numbersOf(1, 299, 300, 301)[chance.Intn(4)])
		case 6:
			list = append(list, someLeaf(chance, 3))
		case 7:
			list = slices.Insert(list, i, nested(1+chance.Intn(8))...)
		case 8:
			list = slices.Delete(list, i, i+1)
		}
		if len(list) == 0 {
			return list
		}
	}
	return list
}

// nested are so many lists of one item each, in one another; the innermost one lacks it.
func nested(lists int) []impl.Item {
	return slices.Repeat(items(listOf(1)), lists)
}

func mappedItems(list []impl.Item, ofItems func([]impl.Item) []impl.Item, ofNumbers func([]int64) []int64) []impl.Item {
	list = ofItems(list)
	for i, item := range list {
		list[i].Ints = ofNumbers(item.Ints)
	}
	return list
}

func copyItems(list []impl.Item) []impl.Item {
	return mappedItems(list, slices.Clone[[]impl.Item], slices.Clone[[]int64])
}

// turnedBytes have some bytes in another one's place, are cut off, or have more behind them.
func turnedBytes(chance *rand.Rand, b []byte) []byte {
	b = slices.Clone(b)
	switch chance.Intn(4) {
	case 0:
		return b[:chance.Intn(len(b)+1)]
	case 1:
		return append(b, someBytes(chance, 1+chance.Intn(3))...)
	}
	for range 1 + chance.Intn(2) {
		if len(b) > 0 {
			heads := raw(0, 1, 2, 3, 4, 0x25, 0x26, 0x41, 0x42, 0x43, 0x71, 0x72, byte(chance.Intn(256)))
			b[chance.Intn(len(b))] = heads[chance.Intn(len(heads))]
		}
	}
	return b
}

func someMessage(chance *rand.Rand, most int) impl.Message {
	return message(1+chance.Int63n(127), chance.Int63n(256), chance.Int63n(256), someBytes(chance, chance.Intn(most+1))...)
}

// sentTwice has some blocks two or three times in a row.
func sentTwice(chance *rand.Rand, list [][]byte) [][]byte {
	var out [][]byte
	for _, b := range list {
		for range 1 + chance.Intn(3) {
			out = append(out, slices.Clone(b))
		}
	}
	return out
}

// spoiledBlocks have, mostly, one thing that is wrong.
func spoiledBlocks(chance *rand.Rand, list [][]byte) [][]byte {
	list = mappedRows(list, slices.Clone[[][]byte], bytes.Clone)
	i := chance.Intn(len(list))
	b := list[i]
	switch chance.Intn(7) {
	case 0:
		b[chance.Intn(len(b))] ^= 1 << chance.Intn(8)
	case 1:
		list = slices.Delete(list, i, i+1)
	case 2:
		list = append(list, slices.Clone(list[i]))
	case 3:
		list[i] = sealed(turnedBytes(chance, b[1:len(b)-2])...)
	case 4:
		k := chance.Intn(len(list))
		list[i], list[k] = list[k], list[i]
	case 5:
		list[i] = turnedBytes(chance, b)
	case 6:
		inner := slices.Clone(b[1 : len(b)-2])
		inner[chance.Intn(5)] += byte(chance.Intn(3))
		list[i] = sealed(inner...)
	}
	return list
}

func mappedRows[T any](rows [][]T, ofRows func([][]T) [][]T, ofRow func([]T) []T) [][]T {
	rows = ofRows(rows)
	for i, row := range rows {
		rows[i] = ofRow(row)
	}
	return rows
}

func someEvents(chance *rand.Rand, n int) []int64 {
	list := make([]int64, n)
	for i := range list {
		list[i] = numbers(1, 2, 3, 4, 4, 4, 4, 0, 5)[chance.Intn(9)]
	}
	return list
}
