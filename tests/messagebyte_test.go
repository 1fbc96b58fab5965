package tests

import (
	"bytes"
	"math/rand"
	"slices"
	"strings"
	"testing"

	"loop.example/g00057/impl"
)

const plainItemBytes = "\x01\x03\x41\x02so\x01\x02\x25\x02\x00\x01\x71\x00\x71\x08\xff\xff\xff\xf9\x00\x00\x00\x08"

func TestEncodeItemsByHand(t *testing.T) {
	checkEncoded(t, "plain", plainItems(), bytesOf([]byte(plainItemBytes)...))
	checkEncoded(t, "an empty list", items(listOf(0)), bytesOf(1, 0))
	checkEncoded(t, "no text", items(textItem("")), bytesOf(0x41, 0))
	checkEncoded(t, "no bools", items(boolItem()), bytesOf(0x25, 0))
	checkEncoded(t, "no ints", items(intItem()), bytesOf(0x71, 0))
	checkEncoded(t, "a text", items(textItem("\x00\xff")), bytesOf(0x41, 2, 0, 0xFF))
	checkEncoded(t, "bools", items(boolItem(1, 0, 1)), bytesOf(0x25, 3, 1, 0, 1))
	checkEncoded(t, "none", nil, bytesCode(impl.ErrForm))
}

func TestEncodeItemsOfInts(t *testing.T) {
	for n, want := range map[int64][]byte{
		0: raw(0, 0, 0, 0), 1: raw(0, 0, 0, 1), -1: raw(255, 255, 255, 255), 255: raw(0, 0, 0, 255), 256: raw(0, 0, 1, 0), -256: raw(255, 255, 255, 0),
		0x01020304: raw(1, 2, 3, 4), 1<<31 - 1: raw(127, 255, 255, 255), -1 << 31: raw(128, 0, 0, 0), -1<<31 + 1: raw(128, 0, 0, 1), 1 << 16: raw(0, 1, 0, 0),
	} {
		b := append(raw(0x71, 4), want...)
		checkEncoded(t, "an int", items(intItem(n)), bytesOf(b...))
		checkDecoded(t, b, itemsOf(intItem(n)))
		checkEncoded(t, "two ints", items(intItem(-2, n)), bytesOf(slices.Concat(raw(0x71, 8, 255, 255, 255, 254), want)...))
	}
}

// A length has as few bytes as it needs, one at least.
func TestEncodeItemsOfLengths(t *testing.T) {
	for _, c := range []struct {
		length int
		head   []byte
	}{{0, raw(0x41, 0)}, {1, raw(0x41, 1)}, {127, raw(0x41, 127)}, {128, raw(0x41, 128)}, {255, raw(0x41, 255)}, {256, raw(0x42, 1, 0)}, {257, raw(0x42, 1, 1)}, {300, raw(0x42, 1, 44)}} {
		text := strings.Repeat("t", c.length)
		b := append(slices.Clone(c.head), text...)
		checkEncoded(t, "a text", items(textItem(text)), bytesOf(b...))
		checkDecoded(t, b, itemsOf(textItem(text)))
	}
	checkEncoded(t, "60 ints have 240 bytes", items(intItem(make([]int64, 60)...)), bytesOf(append(raw(0x71, 240), make([]byte, 240)...)...))
	checkEncoded(t, "60 bools", items(boolItem(make([]int64, 60)...)), bytesOf(append(raw(0x25, 60), make([]byte, 60)...)...))
	checkEncoded(t, "99 in a list", append(items(listOf(99)), make([]impl.Item, 99)...), bytesOf(append(raw(1, 99), bytes.Repeat(raw(1, 0), 99)...)...))
}

// longItems have just so many bytes, from 1822 to 2060.
func longItems(count int) []impl.Item {
	list := append(items(listOf(7)), longer(items(textItem(strings.Repeat("x", 300))), 6)...)
	return append(list, textItem(strings.Repeat("y", count-1822)))
}

func TestEncodeItemsOfManyBytes(t *testing.T) {
	for count := 1990; count <= 2010; count++ {
		list := longItems(count)
		if b := plainBytes(list); len(b) != count || itemsFaultWant(list) != impl.OK {
			t.Fatalf("%d bytes are %d, with the fault %d", count, len(b), itemsFaultWant(list))
		}
		if count > 2000 {
			checkEncoded(t, "too many", list, bytesCode(impl.ErrMany))
			checkDecoded(t, plainBytes(list), itemsFailed(impl.ErrMany, 0))
			continue
		}
		checkEncoded(t, "as many as may be", list, bytesOf(plainBytes(list)...))
		checkDecoded(t, plainBytes(list), itemsOf(list...))
	}
	full := append(items(listOf(99)), longer(items(textItem(strings.Repeat("x", 300))), 99)...)
	checkEncoded(t, "as much as there may be", full, bytesCode(impl.ErrMany))
}

func TestItemsComeBackFromTheirBytes(t *testing.T) {
	chance, long := rand.New(rand.NewSource(201)), 0
	for i := range 6000 {
		list := someItems(chance, 1+i%100, 0, 1+i%61)
		want := encodeWant(list)
		checkEncoded(t, "some", list, want)
		if want.Code != impl.OK {
			long++
			continue
		}
		checkDecoded(t, want.Bytes, itemsOf(list...))
	}
	if long < 100 || long > 4000 {
		t.Errorf("%d of 6000 have too many bytes", long)
	}
}

func TestDecodeItemsByHand(t *testing.T) {
	checkDecoded(t, []byte(plainItemBytes), itemsOf(plainItems()...))
	checkDecoded(t, nil, itemsFailed(impl.ErrNone, 0))
	checkDecoded(t, raw(), itemsFailed(impl.ErrNone, 0))
	checkDecoded(t, raw(1, 0), itemsOf(listOf(0)))
	checkDecoded(t, raw(0x41, 0), itemsOf(textItem("")))
	checkDecoded(t, raw(0x25, 0), itemsOf(boolItem()))
	checkDecoded(t, raw(0x71, 0), itemsOf(intItem()))
	checkDecoded(t, raw(0x25, 2, 1, 0), itemsOf(boolItem(1, 0)))
	checkDecoded(t, raw(0x71, 8, 0, 0, 0, 5, 255, 255, 255, 251), itemsOf(intItem(5, -5)))
}

// Each first byte: its kind and how many bytes its length has.
func TestDecodeItemsOfFirstBytes(t *testing.T) {
	kinds := map[int]string{0: "list", 9: "bool", 16: "text", 28: "int"}
	for first := range 256 {
		count := first % 4
		bad := kinds[first/4] == "" || count == 0
		for _, ahead := range [][]byte{nil, raw(1, 2, 0x41, 1, 'a'), []byte(strings.Repeat("\x01\x01", 20))} {
			at := int64(len(ahead))
			// Alone it lacks the bytes of its length.
			want := itemsFailed(impl.ErrNone, at)
			if bad {
				want = itemsFailed(impl.ErrText, at)
			}
			checkDecoded(t, slices.Concat(ahead, raw(byte(first))), want)
			checkDecoded(t, slices.Concat(ahead, raw(byte(first)), make([]byte, max(0, count-1))), want)
			// With bytes of 0 behind it the length is 0, which needs just one.
			if count > 1 {
				want = itemsFailed(impl.ErrText, at)
			}
			if bad || count > 1 {
				checkDecoded(t, slices.Concat(ahead, raw(byte(first)), make([]byte, 40)), want)
			}
		}
	}
}

func TestDecodeItemsOfLengths(t *testing.T) {
	ahead := raw(1, 2, 0x41, 1, 'a')
	at := int64(len(ahead))
	for _, c := range []struct {
		what  string
		bytes []byte
		code  int64
		at    int64
	}{
		{"two bytes of length, one there", raw(0x42, 1), impl.ErrNone, at},
		{"three bytes of length, two there", raw(0x43, 1, 0), impl.ErrNone, at},
		{"three bytes of length, two there that are more than needed", raw(0x43, 0, 0), impl.ErrNone, at},
		{"a byte more than 5 needs", append(raw(0x42, 0, 5), "abcde"...), impl.ErrText, at},
		{"two bytes more than 5 needs", append(raw(0x43, 0, 0, 5), "abcde"...), impl.ErrText, at},
		{"a byte more than 256 needs", append(raw(0x43, 0, 1, 0), make([]byte, 256)...), impl.ErrText, at},
		{"a byte more than needed, and too few bytes", raw(0x42, 0, 5, 'a'), impl.ErrText, at},
		{"a byte more than 0 needs", raw(0x42, 0, 0), impl.ErrText, at},
		{"a byte more than 255 needs", append(raw(0x42, 0, 255), make([]byte, 255)...), impl.ErrText, at},
		{"a list with a byte more than needed", raw(2, 0, 1, 1, 0), impl.ErrText, at},
		{"an int with a byte more than needed", raw(0x72, 0, 4, 0, 0, 0, 1), impl.ErrText, at},
		{"no bytes behind", raw(0x41, 1), impl.ErrNone, at},
		{"a byte too few behind", raw(0x41, 3, 'a', 'b'), impl.ErrNone, at},
		{"a byte too few behind 256", append(raw(0x42, 1, 0), make([]byte, 255)...), impl.ErrNone, at},
		{"the greatest length", raw(0x43, 255, 255, 255, 'a'), impl.ErrNone, at},
		{"the greatest length of bools", raw(0x27, 255, 255, 255, 1), impl.ErrNone, at},
		{"too few bools", raw(0x25, 2, 1), impl.ErrNone, at},
		{"too few bytes of ints", raw(0x71, 4, 0, 0, 0), impl.ErrNone, at},
		{"too few bytes of ints, a number that does not fit", raw(0x71, 5, 0, 0, 0, 0), impl.ErrNone, at},
		{"one byte of ints", raw(0x71, 1, 0), impl.ErrText, at},
		{"two bytes of ints", raw(0x71, 2, 0, 0), impl.ErrText, at},
		{"three bytes of ints", raw(0x71, 3, 0, 0, 0), impl.ErrText, at},
		{"five bytes of ints", raw(0x71, 5, 0, 0, 0, 0, 0), impl.ErrText, at},
		{"five bytes of ints, and one more", raw(0x71, 5, 0, 0, 0, 0, 0, 0), impl.ErrText, at},
		{"a byte left", raw(0x41, 1, 'b', 0), impl.ErrTaken, at + 3},
		{"an item left", raw(0x41, 1, 'b', 0x41, 1, 'c'), impl.ErrTaken, at + 3},
		{"a kind left that is none", raw(1, 0, 255), impl.ErrTaken, at + 2},
		{"items that are missing in it", raw(1, 2, 0x41, 0), impl.ErrNone, at + 4},
		{"items that are missing", raw(1, 3), impl.ErrNone, at + 2},
		{"the greatest list", raw(3, 255, 255, 255), impl.ErrNone, at + 4},
		{"the greatest list of a few", raw(3, 255, 255, 255, 1, 0, 1, 0), impl.ErrNone, at + 8},
	} {
		b := slices.Concat(ahead, c.bytes)
		checkDecoded(t, b, itemsFailed(c.code, c.at))
		checkDecoded(t, c.bytes, itemsFailed(c.code, c.at-at))
		if want := decodeWant(b); !sameItems(want, itemsFailed(c.code, c.at)) {
			t.Errorf("%s: the plain reckoning answers %v", c.what, want)
		}
	}
	checkDecoded(t, ahead, itemsFailed(impl.ErrNone, at))
}

// What is read whole may still have a fault, which is told of no place.
func TestDecodeItemsThatHaveAFault(t *testing.T) {
	for _, c := range []struct {
		what  string
		bytes []byte
		code  int64
	}{
		{"a bool of 2", raw(0x25, 1, 2), impl.ErrRange},
		{"a bool of 255", raw(0x25, 3, 0, 1, 255), impl.ErrRange},
		{"a text of 301 bytes", append(raw(0x42, 1, 45), make([]byte, 301)...), impl.ErrMany},
		{"a text of 1990 bytes", append(raw(0x42, 7, 198), make([]byte, 1990)...), impl.ErrMany},
		{"61 bools", append(raw(0x25, 61), make([]byte, 61)...), impl.ErrMany},
		{"61 bools of 2", append(raw(0x25, 61), bytes.Repeat(raw(2), 61)...), impl.ErrMany},
		{"61 ints", append(raw(0x71, 244), make([]byte, 244)...), impl.ErrMany},
		{"64 ints, the length of which has two bytes", append(raw(0x72, 1, 0), make([]byte, 256)...), impl.ErrMany},
		{"100 in a list", append(raw(1, 100), bytes.Repeat(raw(1, 0), 100)...), impl.ErrMany},
		{"256 in a list", append(raw(2, 1, 0), bytes.Repeat(raw(0x41, 0), 256)...), impl.ErrMany},
		{"998 in a list", append(raw(2, 3, 230), bytes.Repeat(raw(1, 0), 998)...), impl.ErrMany},
		{"a list in eight others", append(bytes.Repeat(raw(1, 1), 8), 1, 0), impl.ErrMany},
		{"a text in eight lists", append(bytes.Repeat(raw(1, 1), 8), 0x41, 1, 'a'), impl.ErrMany},
		{"a wrong bool in eight lists", append(bytes.Repeat(raw(1, 1), 8), 0x25, 1, 2), impl.ErrRange},
		{"a list in 998 others", append(bytes.Repeat(raw(1, 1), 998), 1, 0), impl.ErrMany},
		{"a wrong bool ahead of too many", append(raw(1, 100, 0x25, 1, 2), bytes.Repeat(raw(1, 0), 99)...), impl.ErrMany},
	} {
		checkDecoded(t, c.bytes, itemsFailed(c.code, 0))
		if want := decodeWant(c.bytes); !sameItems(want, itemsFailed(c.code, 0)) {
			t.Errorf("%s: the plain reckoning answers %v", c.what, want)
		}
		checkDecoded(t, append(slices.Clone(c.bytes), 7), itemsFailed(impl.ErrTaken, int64(len(c.bytes))))
	}
	checkDecoded(t, append(bytes.Repeat(raw(1, 1), 7), 0x41, 1, 'a'), itemsOf(append(nested(7), textItem("a"))...))
	checkDecoded(t, append(raw(1, 99), bytes.Repeat(raw(1, 0), 99)...), itemsOf(append(items(listOf(99)), make([]impl.Item, 99)...)...))
}

func TestDecodeItemsOfManyBytes(t *testing.T) {
	for _, one := range raw(0, 1, 0x41, 0x43, 255) {
		for _, count := range numbersOf(1999, 2000, 2001, 2002, 1000000) {
			b := bytes.Repeat(raw(one), count)
			if count > 2000 {
				checkDecoded(t, b, itemsFailed(impl.ErrMany, 0))
				continue
			}
			checkDecoded(t, b, decodeWant(b))
		}
	}
	checkDecoded(t, bytes.Repeat(raw(1, 1), 1000), itemsFailed(impl.ErrNone, 2000))
	checkDecoded(t, append(bytes.Repeat(raw(1, 1), 999), 1, 0), itemsFailed(impl.ErrMany, 0))
	checkDecoded(t, bytes.Repeat(raw(1, 0), 1000), itemsFailed(impl.ErrTaken, 2))
}

// checkBytesTold asks for what the plain reckoning answers, and that bytes that are read are those of what they tell.
func checkBytesTold(t *testing.T, b []byte) impl.ItemsResult {
	t.Helper()
	got := impl.DecodeItems(b)
	if want := decodeWant(b); !sameItems(got, want) {
		t.Fatalf("%d bytes, %.120x: %s, want %s", len(b), b, brief(got), brief(want))
	}
	if got.Code != impl.OK {
		return got
	}
	if back := impl.EncodeItems(got.Items); !sameBytes(back, bytesOf(b...)) {
		t.Fatalf("the bytes %.120x tell %s, which has the bytes %s", b, brief(got), brief(back))
	}
	return got
}

func TestDecodeItemsOfAllShortBytes(t *testing.T) {
	heads := raw(0, 1, 2, 3, 4, 5, 0x24, 0x25, 0x26, 0x41, 0x42, 0x43, 0x71, 0x72, 255)
	met := map[int64]int{}
	for n := range 6 {
		b := make([]byte, n)
		for number := range power(len(heads), n) {
			for i := range b {
				b[i] = heads[number%len(heads)]
				number /= len(heads)
			}
			met[checkBytesTold(t, b).Code]++
		}
	}
	for _, code := range numbers(impl.OK, impl.ErrRange, impl.ErrNone, impl.ErrText, impl.ErrTaken) {
		if met[code] < 15 {
			t.Errorf("the codes are %v", met)
		}
	}
	for number := range 1 << 16 {
		checkBytesTold(t, raw(byte(number>>8), byte(number)))
		checkBytesTold(t, raw(1, 1, byte(number>>8), byte(number), 0, 0))
	}
}

// A turned byte never leads to the same items.
func TestDecodeItemsOfEachTurnedByte(t *testing.T) {
	whole := []byte(plainItemBytes)
	for i := range whole {
		for one := range 256 {
			b := slices.Clone(whole)
			b[i] = byte(one)
			got := checkBytesTold(t, b)
			if b[i] != whole[i] && sameItems(got, itemsOf(plainItems()...)) {
				t.Errorf("byte %d is turned to %d, and is not told", i, one)
			}
		}
		checkDecoded(t, whole[:i], decodeWant(whole[:i]))
		if got := impl.DecodeItems(whole[:i]); got.Code != impl.ErrNone {
			t.Errorf("%d of the bytes: %s", i, brief(got))
		}
	}
}

func TestDecodeItemsOfSomeBytes(t *testing.T) {
	chance, met := rand.New(rand.NewSource(202)), map[int64]int{}
	for i := range 20000 {
		b := plainBytes(someItems(chance, 1+i%numbersOf(5, 20, 100)[i%3], 0, numbersOf(3, 20, 62)[i/3%3]))
		met[checkBytesTold(t, b).Code]++
		met[checkBytesTold(t, turnedBytes(chance, b)).Code]++
		met[checkBytesTold(t, someBytes(chance, chance.Intn(30))).Code]++
	}
	for _, code := range numbers(impl.OK, impl.ErrMany, impl.ErrRange, impl.ErrNone, impl.ErrText, impl.ErrTaken) {
		if met[code] < 100 {
			t.Errorf("the codes are %v", met)
		}
	}
}
