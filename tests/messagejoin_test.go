package tests

import (
	"bytes"
	"math/rand"
	"slices"
	"testing"

	"loop.example/g00057/impl"
)

// fourBlocks are those of fourMessage.
func fourBlocks() [][]byte {
	return cutBlocksWant(fourMessage()).Blocks
}

func fourMessage() impl.Message {
	return message(6, 11, 77, someBytes(rand.New(rand.NewSource(206)), 100)...)
}

// without has all blocks but one.
func without(list [][]byte, at int) [][]byte {
	return slices.Delete(slices.Clone(list), at, at+1)
}

// withBlocks has blocks put in at a place.
func withBlocks(list [][]byte, at int, more ...[]byte) [][]byte {
	return slices.Insert(slices.Clone(list), at, more...)
}

func TestJoinBlocksByHand(t *testing.T) {
	checkMessage(t, "none", nil, messageFailed(impl.ErrNone, 0))
	checkMessage(t, "none", [][]byte{}, messageFailed(impl.ErrNone, 0))
	checkMessage(t, "one without data", [][]byte{raw(5, 1, 3, 1, 5, 1, 0, 11)}, messageOf(message(1, 3, 5)))
	checkMessage(t, "one that is not the last", [][]byte{raw(5, 1, 3, 1, 5, 0, 0, 10)}, messageFailed(impl.ErrNone, 1))
	checkMessage(t, "four", fourBlocks(), messageOf(fourMessage()))
	checkMessage(t, "an empty block", [][]byte{nil}, messageFailed(impl.ErrText, 0))
	checkMessage(t, "an empty block behind the last", withBlocks(fourBlocks(), 4, nil), messageFailed(impl.ErrText, 4))
	// A block that is not the last may have fewer bytes than there may be.
	short := [][]byte{blockOf(1, 2, 1, false, 3), blockOf(1, 2, 2, false, 3, 7), blockOf(1, 2, 3, true, 3, 8, 9)}
	checkMessage(t, "short ones", short, messageOf(message(1, 2, 3, 7, 8, 9)))
}

func TestJoinBlocksThatAreSentTwice(t *testing.T) {
	four := fourBlocks()
	for i, b := range four {
		checkMessage(t, "one twice", withBlocks(four, i, b), messageOf(fourMessage()))
		checkMessage(t, "one three times", withBlocks(four, i, b, b), messageOf(fourMessage()))
		checkMessage(t, "one often", withBlocks(four, i, slices.Repeat([][]byte{b}, 1000)...), messageOf(fourMessage()))
	}
	var twice [][]byte
	for _, b := range four {
		twice = append(twice, b, slices.Clone(b))
	}
	checkMessage(t, "each twice", twice, messageOf(fourMessage()))
	for i := range 3 {
		checkMessage(t, "two in a row, one behind the other", withBlocks(four, i+2, four[i], four[i+1]), messageFailed(map[bool]int64{true: impl.ErrTaken, false: impl.ErrRange}[i == 2], int64(i)+2))
	}
	checkMessage(t, "all of it twice", slices.Concat(four, four), messageFailed(impl.ErrTaken, 4))
	checkMessage(t, "the first twice, with another between", withBlocks(four, 2, four[0]), messageFailed(impl.ErrRange, 2))
	checkMessage(t, "the first of one twice", [][]byte{four[0], four[0]}, messageFailed(impl.ErrNone, 2))
	one := blockOf(1, 2, 1, true, 3, 9)
	checkMessage(t, "the only one twice", [][]byte{one, one}, messageOf(message(1, 2, 3, 9)))
	// Of the same number, but not byte for byte the same, it was not sent again.
	checkMessage(t, "other data", withBlocks(four, 1, blockOf(6, 11, 1, false, 77, 5)), messageFailed(impl.ErrRange, 1))
	checkMessage(t, "now the last", [][]byte{blockOf(1, 2, 1, false, 3, 9), one}, messageFailed(impl.ErrRange, 1))
	checkMessage(t, "no longer the last", [][]byte{one, blockOf(1, 2, 1, false, 3, 9)}, messageFailed(impl.ErrTaken, 1))
	checkMessage(t, "a wrong one twice", [][]byte{blockOf(1, 2, 2, true, 3), blockOf(1, 2, 2, true, 3)}, messageFailed(impl.ErrRange, 0))
}

func TestJoinBlocksWithOneLeftOut(t *testing.T) {
	four := fourBlocks()
	for i := range 3 {
		checkMessage(t, "one is lost", without(four, i), messageFailed(impl.ErrRange, int64(i)))
		checkMessage(t, "only the first are there", four[:i+1], messageFailed(impl.ErrNone, int64(i)+1))
	}
	checkMessage(t, "the last is lost", without(four, 3), messageFailed(impl.ErrNone, 3))
	checkMessage(t, "the last is lost, the one ahead is there twice", withBlocks(four[:3], 3, four[2]), messageFailed(impl.ErrNone, 4))
	for i := range 3 {
		turned := slices.Clone(four)
		turned[i], turned[i+1] = turned[i+1], turned[i]
		checkMessage(t, "two have changed places", turned, messageFailed(impl.ErrRange, int64(i)))
	}
}

func TestJoinBlocksBehindTheLast(t *testing.T) {
	four := fourBlocks()
	for number := range int64(256) {
		behind := blockOf(6, 11, number, number%2 == 0, 77, 5)
		checkMessage(t, "one behind the last", withBlocks(four, 4, behind), messageFailed(map[bool]int64{true: impl.ErrRange, false: impl.ErrTaken}[number == 0], 4))
		checkMessage(t, "one first", withBlocks(four, 0, behind), joinBlocksWant(withBlocks(four, 0, behind)))
	}
	checkMessage(t, "of another message", withBlocks(four, 4, blockOf(6, 12, 5, true, 77)), messageFailed(impl.ErrForm, 4))
	checkMessage(t, "with a wrong sum", withBlocks(four, 4, raw(5, 6, 11, 5, 77, 0, 0, 0)), messageFailed(impl.ErrZero, 4))
}

func TestJoinBlocksOfOtherMessages(t *testing.T) {
	four := fourBlocks()
	for i := range four {
		last := i == 3
		others := [][]byte{blockOf(7, 11, int64(i)+1, last, 77), blockOf(6, 10, int64(i)+1, last, 77), blockOf(6, 11, int64(i)+1, last, 78), blockOf(7, 10, 9, true, 78)}
		for _, b := range others {
			turned := slices.Clone(four)
			turned[i] = b
			checkMessage(t, "one in the place of another", turned, joinBlocksWant(turned))
			if i > 0 {
				checkMessage(t, "one in the place of another", turned, messageFailed(impl.ErrForm, int64(i)))
			}
			checkMessage(t, "one behind another", withBlocks(four, i+1, b), messageFailed(impl.ErrForm, int64(i)+1))
		}
	}
	checkMessage(t, "the first is another", withBlocks(without(four, 0), 0, blockOf(7, 11, 1, false, 77)), messageFailed(impl.ErrForm, 1))
}

// Whatever a byte of a block is turned to, it is told, also where each block is sent twice.
func TestJoinBlocksOfEachTurnedByte(t *testing.T) {
	four := fourBlocks()
	for i, whole := range four {
		for k := range whole {
			for _, by := range raw(1, 2, 4, 8, 16, 32, 64, 128, 255) {
				b := slices.Clone(whole)
				b[k] ^= by
				code := map[bool]int64{true: impl.ErrText, false: impl.ErrZero}[k == 0]
				turned := slices.Clone(four)
				turned[i] = b
				checkMessage(t, "a turned byte", turned, messageFailed(code, int64(i)))
				checkMessage(t, "a turned byte, sent again", withBlocks(four, i+1, b), messageFailed(code, int64(i)+1))
			}
		}
	}
}

// As many blocks as can be numbered have more data than a message may, which is not asked.
func TestJoinBlocksOfManyBlocks(t *testing.T) {
	for _, count := range numbersOf(62, 63, 64, 254, 255) {
		var list [][]byte
		for i := range count {
			list = append(list, blockOf(1, 2, int64(i)+1, i == count-1, 3, bytes.Repeat(raw(byte(i)), 32)...))
		}
		m := message(1, 2, 3)
		for i := range count {
			m.Data = append(m.Data, bytes.Repeat(raw(byte(i)), 32)...)
		}
		checkMessage(t, "many", list, messageOf(m))
		list[count-1] = blockOf(1, 2, int64(count), false, 3)
		checkMessage(t, "many without a last one", list, messageFailed(impl.ErrNone, int64(count)))
		for _, number := range numbers(0, 1, 255) {
			want := joinBlocksWant(append(list, blockOf(1, 2, number, true, 3)))
			checkMessage(t, "one more", append(list, blockOf(1, 2, number, true, 3)), want)
		}
	}
}

func TestMessagesComeBackFromTheirBlocks(t *testing.T) {
	chance := rand.New(rand.NewSource(207))
	for i := range 3000 {
		m := someMessage(chance, numbersOf(40, 300, 2000)[i%3])
		cut := impl.CutBlocks(m)
		checkMessage(t, "cut and joined", cut.Blocks, messageOf(m))
		checkMessage(t, "some twice", sentTwice(chance, cut.Blocks), messageOf(m))
		// A block that is lost is told, and so is one that is turned.
		lost := chance.Intn(len(cut.Blocks))
		if got := impl.JoinBlocks(without(cut.Blocks, lost)); got.Code == impl.OK {
			t.Fatalf("block %d of %d is lost, and is not told", lost, len(cut.Blocks))
		}
		turned := mappedRows(cut.Blocks, slices.Clone[[][]byte], bytes.Clone)
		turned[lost][chance.Intn(len(turned[lost]))] ^= byte(1 + chance.Intn(255))
		if got := impl.JoinBlocks(turned); got.Code == impl.OK || got.At != int64(lost) {
			t.Fatalf("a byte of block %d is turned: %s", lost, brief(got))
		}
	}
}

// All short lists of a few blocks.
func TestJoinBlocksOfAllShortLists(t *testing.T) {
	choices := [][]byte{blockOf(1, 2, 1, false, 3, 1), blockOf(1, 2, 2, false, 3, 2), blockOf(1, 2, 2, true, 3, 2), blockOf(1, 2, 3, true, 3, 3), blockOf(1, 2, 1, true, 3),
		blockOf(4, 2, 2, true, 3), raw(5, 1, 3, 1, 5, 1, 0, 12), blockOf(0, 2, 2, true, 3)}
	met := map[int64]int{}
	for n := range 6 {
		list := make([][]byte, n)
		for number := range power(len(choices), n) {
			for i := range list {
				list[i] = choices[number%len(choices)]
				number /= len(choices)
			}
			got, want := impl.JoinBlocks(list), joinBlocksWant(list)
			met[want.Code]++
			if !sameMessage(got, want) {
				t.Fatalf("%v: %v, want %v", list, got, want)
			}
		}
	}
	for _, code := range numbers(impl.OK, impl.ErrForm, impl.ErrRange, impl.ErrNone, impl.ErrZero, impl.ErrTaken) {
		if met[code] < 15 {
			t.Errorf("the codes are %v", met)
		}
	}
}

func TestJoinBlocksOfSomeBlocks(t *testing.T) {
	chance, met := rand.New(rand.NewSource(208)), map[int64]int{}
	for i := range 8000 {
		list := spoiledBlocks(chance, sentTwice(chance, cutBlocksWant(someMessage(chance, numbersOf(40, 200, 500)[i%3])).Blocks))
		want := joinBlocksWant(list)
		met[want.Code]++
		checkMessage(t, "spoiled", list, want)
	}
	for _, code := range numbers(impl.OK, impl.ErrForm, impl.ErrRange, impl.ErrNone, impl.ErrText, impl.ErrZero, impl.ErrTaken) {
		if met[code] < 30 {
			t.Errorf("the codes are %v", met)
		}
	}
}
