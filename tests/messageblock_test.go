package tests

import (
	"bytes"
	"math/rand"
	"slices"
	"testing"

	"loop.example/g00057/impl"
)

// checkMessageFault asks the call that tells the fault, too.
func checkMessageFault(t *testing.T, what string, m impl.Message, code int64) {
	t.Helper()
	if got := impl.MessageFault(m); got != code {
		t.Errorf("%s: the fault is %d, want %d", what, got, code)
	}
	if got := impl.CutBlocks(m); got.Code != code || code != impl.OK && len(got.Blocks) > 0 {
		t.Errorf("%s: the blocks are %s, want the code %d", what, brief(got), code)
	}
}

func TestMessageFaultByHand(t *testing.T) {
	checkMessageFault(t, "plain", message(1, 3, 5), impl.OK)
	checkMessageFault(t, "the least", message(1, 0, 0), impl.OK)
	checkMessageFault(t, "the greatest", message(127, 255, 255, make([]byte, 2000)...), impl.OK)
	checkMessageFault(t, "the zero value", impl.Message{}, impl.ErrRange)
}

func TestMessageFaultAtEachBound(t *testing.T) {
	for _, n := range messageEnds() {
		checkMessageFault(t, "a stream", message(n, 0, 0), impl.ErrRange*bit(n < 1 || n > 127))
		checkMessageFault(t, "a function", message(1, n, 0), impl.ErrRange*bit(n < 0 || n > 255))
		checkMessageFault(t, "a system", message(1, 0, n), impl.ErrRange*bit(n < 0 || n > 255))
	}
	for _, n := range numbersOf(0, 1, 31, 32, 33, 1999, 2000, 2001, 2002, 100000) {
		checkMessageFault(t, "data", message(1, 0, 0, make([]byte, n)...), impl.ErrMany*bit(n > 2000))
		checkMessageFault(t, "data of a wrong stream", message(0, 0, 0, make([]byte, n)...), impl.ErrRange)
		checkMessageFault(t, "data of a wrong function", message(1, 256, 0, make([]byte, n)...), impl.ErrRange)
		checkMessageFault(t, "data of a wrong system", message(1, 0, -1, make([]byte, n)...), impl.ErrRange)
	}
}

func TestCutBlocksByHand(t *testing.T) {
	ten := raw(1, 2, 3, 4, 5, 6, 7, 8, 9, 10)
	got := impl.CutBlocks(message(127, 255, 254, ten...))
	want := [][]byte{slices.Concat(raw(15, 127, 255, 1, 254, 1), ten, raw(2, 181))}
	if !sameBlocks(got, impl.BlocksResult{Blocks: want}) {
		t.Errorf("ten bytes are cut into %s, want %v", brief(got), want)
	}
	full := bytes.Repeat(raw(255), 33)
	got = impl.CutBlocks(message(2, 0, 9, full...))
	want = [][]byte{slices.Concat(raw(37, 2, 0, 1, 9, 0), full[:32], raw(31, 236)), raw(6, 2, 0, 2, 9, 1, 255, 1, 13)}
	if !sameBlocks(got, impl.BlocksResult{Blocks: want}) {
		t.Errorf("33 bytes are cut into %s, want %v", brief(got), want)
	}
}

func TestCutBlocksOfAllLengths(t *testing.T) {
	chance := rand.New(rand.NewSource(203))
	for n := range 2001 {
		m := message(1+chance.Int63n(127), chance.Int63n(256), chance.Int63n(256), someBytes(chance, n)...)
		got := impl.CutBlocks(m)
		if !sameBlocks(got, cutBlocksWant(m)) {
			t.Fatalf("%d bytes: %s, want %s", n, brief(got), brief(cutBlocksWant(m)))
		}
		if count := max(1, (n+31)/32); len(got.Blocks) != count {
			t.Fatalf("%d bytes are %d blocks, want %d", n, len(got.Blocks), count)
		}
		var data []byte
		for i, b := range got.Blocks {
			read := impl.ReadBlock(b)
			if read.Code != impl.OK || read.Block.Number != int64(i)+1 || read.Block.Last != (i == len(got.Blocks)-1) {
				t.Fatalf("%d bytes: the block %d is %v", n, i, read)
			}
			data = append(data, read.Block.Data...)
		}
		if !bytes.Equal(data, m.Data) {
			t.Fatalf("%d bytes: the blocks have the data %.120x", n, data)
		}
		checkMessage(t, "cut and joined", got.Blocks, messageOf(m))
	}
}

func TestReadBlockByHand(t *testing.T) {
	checkBlock(t, "the example", raw(5, 1, 3, 1, 5, 1, 0, 11), impl.BlockResult{Block: impl.Block{Stream: 1, Function: 3, Number: 1, Last: true, System: 5}})
	checkBlock(t, "with data, not the last", raw(7, 2, 0, 255, 9, 0, 7, 8, 1, 25),
		impl.BlockResult{Block: impl.Block{Stream: 2, Number: 255, System: 9, Data: raw(7, 8)}})
	checkBlock(t, "none", nil, blockCode(impl.ErrText))
	checkBlock(t, "none", raw(), blockCode(impl.ErrText))
}

// Each first byte with each number of bytes: just one of them is right.
func TestReadBlockOfAllLengths(t *testing.T) {
	for first := range 256 {
		for count := range 60 {
			b := bytes.Repeat(raw(1), count)
			if count > 0 {
				b[0] = byte(first)
			}
			if count > 2 {
				b[count-2], b[count-1] = 0, byte(count-3)
			}
			code := impl.ErrText * bit(count < 8 || first < 5 || first > 37 || count != first+3)
			if got := impl.ReadBlock(b); got.Code != code || !sameBlock(got, blockWant(b)) {
				t.Fatalf("%d bytes, the first is %d: %s, want the code %d", count, first, brief(got), code)
			}
		}
		checkBlock(t, "far too many", append(raw(byte(first)), make([]byte, 100000)...), blockCode(impl.ErrText))
		checkBlock(t, "256 more", append(raw(byte(first)), make([]byte, first+2+256)...), blockCode(impl.ErrText))
	}
}

func TestReadBlockOfSums(t *testing.T) {
	for _, data := range [][]byte{nil, raw(7), bytes.Repeat(raw(255), 32)} {
		b := blockOf(127, 255, 255, true, 255, data...)
		for high := range 256 {
			for low := range 256 {
				other := append(slices.Clone(b[:len(b)-2]), byte(high), byte(low))
				if want := impl.ErrZero * bit(!bytes.Equal(other, b)); impl.ReadBlock(other).Code != want {
					t.Fatalf("%x: %s, want the code %d", other, brief(impl.ReadBlock(other)), want)
				}
			}
		}
	}
	// The sum is asked ahead of what the bytes say, behind how many there are.
	checkBlock(t, "a wrong sum of a wrong stream", raw(5, 0, 3, 0, 5, 9, 0, 0), blockCode(impl.ErrZero))
	checkBlock(t, "a wrong sum of too few bytes", raw(6, 0, 3, 0, 5, 9, 0, 0), blockCode(impl.ErrText))
	checkBlock(t, "the first byte is not in the sum", raw(5, 1, 3, 1, 5, 1, 0, 16), blockCode(impl.ErrZero))
}

func TestReadBlockOfEachByte(t *testing.T) {
	for one := range 256 {
		n := int64(one)
		for _, data := range [][]byte{nil, raw(1, 2, 3)} {
			cases := []struct {
				what  string
				bytes []byte
				wrong bool
			}{
				{"a stream", blockOf(n, 3, 1, true, 5, data...), n == 0 || n > 127},
				{"a function", blockOf(1, n, 1, false, 5, data...), false},
				{"a number", blockOf(1, 3, n, true, 5, data...), n == 0},
				{"a system", blockOf(1, 3, 1, false, n, data...), false},
				{"a last flag", sealed(slices.Concat(raw(1, 3, 1, 5, byte(one)), data)...), n > 1},
			}
			for _, c := range cases {
				want := blockCode(impl.ErrRange)
				if !c.wrong {
					want = blockWant(c.bytes)
				}
				checkBlock(t, c.what, c.bytes, want)
				if want.Code != impl.ErrRange*bit(c.wrong) {
					t.Errorf("%s of %d: the plain reckoning answers %v", c.what, n, want)
				}
			}
		}
	}
}

// Whatever a byte is turned to, it is told.
func TestReadBlockOfEachTurnedByte(t *testing.T) {
	chance := rand.New(rand.NewSource(204))
	for n := range 33 {
		whole := blockOf(1+chance.Int63n(127), chance.Int63n(256), 1+chance.Int63n(255), n%2 == 0, chance.Int63n(256), someBytes(chance, n)...)
		for i := range whole {
			for one := range 256 {
				b := slices.Clone(whole)
				b[i] = byte(one)
				want := blockWant(whole)
				if b[i] != whole[i] {
					want = blockCode(map[bool]int64{true: impl.ErrText, false: impl.ErrZero}[i == 0])
				}
				checkBlock(t, "turned", b, want)
			}
			checkBlock(t, "cut off", whole[:i], blockCode(impl.ErrText))
		}
		for one := range 256 {
			checkBlock(t, "with a byte behind it", append(slices.Clone(whole), byte(one)), blockCode(impl.ErrText))
		}
	}
}

func TestReadBlockOfSomeBytes(t *testing.T) {
	chance, met := rand.New(rand.NewSource(205)), map[int64]int{}
	for range 40000 {
		b := sealed(someBytes(chance, chance.Intn(40))...)
		checkBlock(t, "some", b, blockWant(b))
		met[blockWant(b).Code]++
		turned := turnedBytes(chance, b)
		checkBlock(t, "turned", turned, blockWant(turned))
		met[blockWant(turned).Code]++
	}
	for _, code := range numbers(impl.OK, impl.ErrRange, impl.ErrText, impl.ErrZero) {
		if met[code] < 1000 {
			t.Errorf("the codes are %v", met)
		}
	}
}
