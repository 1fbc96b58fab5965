package tests

import (
	"math/rand"
	"slices"
	"strconv"
	"strings"
	"testing"

	"loop.example/g00057/impl"
)

// plainItems are a list of a text, a list of bools and no ints, and ints.
func plainItems() []impl.Item {
	return items(listOf(3), textItem("so"), listOf(2), boolItem(0, 1), intItem(), intItem(-7, 8))
}

func TestItemsFaultByHand(t *testing.T) {
	checkItemsFault(t, "plain", plainItems(), impl.OK)
	checkItemsFault(t, "none", nil, impl.ErrForm)
	checkItemsFault(t, "none", items(), impl.ErrForm)
	for _, one := range items(listOf(0), textItem(""), textItem("a"), boolItem(), boolItem(1), intItem(), intItem(5)) {
		checkItemsFault(t, "one", items(one), impl.OK)
		checkItemsFault(t, "one in a list", items(listOf(1), one), impl.OK)
		checkItemsFault(t, "two", items(one, one), impl.ErrForm)
		checkItemsFault(t, "one behind a list", items(listOf(1), one, one), impl.ErrForm)
		checkItemsFault(t, "one that is missing", items(listOf(3), one, one), impl.ErrForm)
	}
	checkItemsFault(t, "one that is missing within", items(listOf(2), listOf(1), textItem("a")), impl.ErrForm)
	checkItemsFault(t, "the zero value is an empty list", make([]impl.Item, 1), impl.OK)
}

func TestItemsFaultOfManyItems(t *testing.T) {
	for n := 97; n <= 103; n++ {
		list := append(items(listOf(int64(n)-1)), longer(items(textItem("a")), n-1)...)
		checkItemsFault(t, strconv.Itoa(n), list, impl.ErrMany*bit(n > 100))
	}
	checkItemsFault(t, "too many, all wrong", longer(items(impl.Item{Kind: 5}), 101), impl.ErrMany)
	checkItemsFault(t, "as many as may be, all wrong", longer(items(impl.Item{Kind: 5}), 100), impl.ErrForm)
	checkItemsFault(t, "far too many", make([]impl.Item, 1000000), impl.ErrMany)
}

func TestItemsFaultOfKinds(t *testing.T) {
	for _, kind := range messageEnds() {
		right := slices.Contains(numbers(0, 9, 16, 28), kind)
		checkItemsFault(t, "a kind", items(impl.Item{Kind: kind}), impl.ErrForm*bit(!right))
		checkItemsFault(t, "a kind in a list", items(listOf(2), textItem("a"), impl.Item{Kind: kind}), impl.ErrForm*bit(!right))
	}
	for kind := int64(-300); kind <= 300; kind++ {
		checkItemsFault(t, "a kind", items(impl.Item{Kind: kind}), impl.ErrForm*bit(!slices.Contains(numbers(0, 9, 16, 28), kind)))
	}
}

func TestItemsFaultOfKids(t *testing.T) {
	for _, kids := range messageEnds() {
		code := int64(impl.ErrForm)
		switch {
		case kids == 0:
			code = impl.OK
		case kids > 100:
			code = impl.ErrMany
		}
		checkItemsFault(t, "kids that are missing", items(listOf(kids)), code)
		for _, kind := range numbers(9, 16, 28) {
			checkItemsFault(t, "kids of no list", items(impl.Item{Kind: kind, Kids: kids}), impl.ErrForm*bit(kids != 0))
		}
	}
	checkItemsFault(t, "100 kids, 99 of them there", append(items(listOf(100)), longer(items(textItem("")), 99)...), impl.ErrForm)
	checkItemsFault(t, "99 kids", append(items(listOf(99)), longer(items(textItem("")), 99)...), impl.OK)
}

func TestItemsFaultOfWhatAKindHasNot(t *testing.T) {
	for _, c := range []struct {
		what string
		item impl.Item
		code int64
	}{
		{"a number in a list", impl.Item{Kind: 0, Ints: numbers(0)}, impl.ErrForm},
		{"a number in a text", impl.Item{Kind: 16, Ints: numbers(0), Text: "a"}, impl.ErrForm},
		{"no number in a text", impl.Item{Kind: 16, Ints: numbers(), Text: "a"}, impl.OK},
		{"no number in a list", impl.Item{Kind: 0, Ints: numbers()}, impl.OK},
		{"a text in a list", impl.Item{Kind: 0, Text: "a"}, impl.ErrForm},
		{"a text in bools", impl.Item{Kind: 9, Ints: numbers(1), Text: "a"}, impl.ErrForm},
		{"a text in ints", impl.Item{Kind: 28, Ints: numbers(1), Text: "\x00"}, impl.ErrForm},
		{"a text in ints of which there are none", impl.Item{Kind: 28, Text: "a"}, impl.ErrForm},
		{"far too many numbers in a list", impl.Item{Kind: 0, Ints: make([]int64, 100000)}, impl.ErrForm},
		{"far too long a text in bools", impl.Item{Kind: 9, Text: strings.Repeat("x", 100000)}, impl.ErrForm},
		{"a number that is none in a text", impl.Item{Kind: 16, Ints: numbers(greatestInt)}, impl.ErrForm},
	} {
		checkItemsFault(t, c.what, items(c.item), c.code)
		checkItemsFault(t, c.what+", in a list", items(listOf(2), c.item, textItem("b")), c.code)
	}
}

func TestItemsFaultOfLongTextsAndManyNumbers(t *testing.T) {
	for _, n := range numbersOf(0, 1, 255, 256, 299, 300, 301, 302, 5000) {
		checkItemsFault(t, "a text", items(textItem(strings.Repeat("x", n))), impl.ErrMany*bit(n > 300))
		checkItemsFault(t, "a text of two bytes a letter", items(textItem(strings.Repeat("é", n))), impl.ErrMany*bit(n > 150))
	}
	for _, n := range numbersOf(0, 1, 59, 60, 61, 62, 5000) {
		checkItemsFault(t, "bools", items(boolItem(longer(numbers(0, 1), n)...)), impl.ErrMany*bit(n > 60))
		checkItemsFault(t, "ints", items(intItem(longer(numbers(-3), n)...)), impl.ErrMany*bit(n > 60))
		checkItemsFault(t, "bools that are none", items(boolItem(longer(numbers(2), n)...)), impl.ErrMany*bit(n > 60)+impl.ErrRange*bit(n > 0 && n <= 60))
	}
	checkItemsFault(t, "any bytes", items(textItem("\x00\xff\n\x80")), impl.OK)
}

func TestItemsFaultOfNumbers(t *testing.T) {
	for _, n := range messageEnds() {
		checkItemsFault(t, "a bool", items(boolItem(n)), impl.ErrRange*bit(n != 0 && n != 1))
		checkItemsFault(t, "a bool behind others", items(boolItem(0, 1, n)), impl.ErrRange*bit(n != 0 && n != 1))
		checkItemsFault(t, "a bool ahead of others", items(boolItem(n, 0, 1)), impl.ErrRange*bit(n != 0 && n != 1))
		checkItemsFault(t, "an int", items(intItem(n)), impl.ErrRange*bit(n < -1<<31 || n > 1<<31-1))
		checkItemsFault(t, "an int behind others", items(intItem(0, -1, n)), impl.ErrRange*bit(n < -1<<31 || n > 1<<31-1))
	}
	checkItemsFault(t, "the ends", items(intItem(-1<<31, 1<<31-1)), impl.OK)
	checkItemsFault(t, "beyond the end below", items(intItem(-1<<31-1)), impl.ErrRange)
	checkItemsFault(t, "beyond the end above", items(intItem(1<<31)), impl.ErrRange)
}

func TestItemsFaultOfNests(t *testing.T) {
	for lists := range 12 {
		for _, leaf := range items(listOf(0), textItem("a"), boolItem(1), intItem(5)) {
			checkItemsFault(t, "in "+strconv.Itoa(lists), append(nested(lists), leaf), impl.ErrMany*bit(lists > 7))
		}
	}
	// Lists that are whole do not count, nor those beside it.
	beside := slices.Concat(items(listOf(3)), nested(6), items(textItem("a")), nested(6), items(textItem("b")), nested(5), items(listOf(2), listOf(0), textItem("c")))
	checkItemsFault(t, "beside one another", beside, impl.OK)
	checkItemsFault(t, "one of them too deep", append(beside[:len(beside)-1:len(beside)-1], listOf(1), textItem("c")), impl.ErrMany)
	checkItemsFault(t, "the last in its list", slices.Concat(items(listOf(2), textItem("a")), nested(6), items(textItem("b"))), impl.OK)
	checkItemsFault(t, "the last in its list, too deep", slices.Concat(items(listOf(2), textItem("a")), nested(7), items(textItem("b"))), impl.ErrMany)
	checkItemsFault(t, "too deep, and one that is missing", slices.Concat(items(listOf(2)), nested(7), items(textItem("b"))), impl.ErrMany)
	checkItemsFault(t, "only lists, the innermost lacks one", nested(8), impl.ErrForm)
	checkItemsFault(t, "only lists, the innermost is too deep", nested(9), impl.ErrMany)
	checkItemsFault(t, "empty lists behind one another", append(items(listOf(50)), longer(items(listOf(0)), 50)...), impl.OK)
}

// itemSpoil turns one item; nothing of its kind is wrong with others.
type itemSpoil struct {
	name  string
	code  int64
	spoil func(item *impl.Item)
}

// itemSpoils stand in the order in which they are told; each can be wrong in any kind of number list.
func itemSpoils() []itemSpoil {
	return []itemSpoil{
		{"kids", impl.ErrForm, func(item *impl.Item) { item.Kids = 1 }},
		{"text", impl.ErrForm, func(item *impl.Item) { item.Text = "a" }},
		{"many", impl.ErrMany, func(item *impl.Item) { item.Ints = longer(append(item.Ints, 0), 61) }},
		{"range", impl.ErrRange, func(item *impl.Item) { item.Ints = append(item.Ints, 1<<31) }},
	}
}

// Of two things that are wrong in an item, or in two, the first one is told.
func TestItemsFaultsInTheirOrder(t *testing.T) {
	for _, kind := range numbers(impl.ItemBool, impl.ItemInt) {
		for i, first := range itemSpoils() {
			for _, later := range itemSpoils()[i:] {
				one, two := impl.Item{Kind: kind}, impl.Item{Kind: kind}
				later.spoil(&one)
				later.spoil(&two)
				first.spoil(&one)
				name := first.name + " and " + later.name
				checkItemsFault(t, name, items(one), first.code)
				checkItemsFault(t, name+", in two", items(listOf(2), one, two), first.code)
				checkItemsFault(t, name+", the later one ahead", items(listOf(2), two, one), later.code)
				checkItemsFault(t, name+", behind the end", items(textItem("a"), one), first.code)
				checkItemsFault(t, name+", too deep", append(nested(8), one), first.code)
				checkItemsFault(t, name+", behind one behind the end", items(textItem("a"), textItem("b"), one), impl.ErrForm)
				checkItemsFault(t, name+", behind one too deep", append(nested(8), textItem("b"), one), impl.ErrMany)
				checkItemsFault(t, name+", and missing ones", items(listOf(9), one), first.code)
			}
		}
	}
	checkItemsFault(t, "a kind ahead of all", items(impl.Item{Kind: 5, Kids: 101, Ints: make([]int64, 61), Text: strings.Repeat("x", 301)}), impl.ErrForm)
	checkItemsFault(t, "a list of too many ahead of one too deep", append(nested(8), listOf(101)), impl.ErrMany)
	checkItemsFault(t, "numbers in a list of too many", items(impl.Item{Kind: 0, Kids: 101, Ints: numbers(1)}), impl.ErrForm)
	checkItemsFault(t, "a list of too many, behind the end", items(textItem("a"), listOf(101)), impl.ErrMany)
	checkItemsFault(t, "a wrong number behind the end", items(textItem("a"), boolItem(2)), impl.ErrRange)
	checkItemsFault(t, "a wrong number behind a missing one's list", items(listOf(2), listOf(2), boolItem(2)), impl.ErrRange)
}

// All small lists: of each place's kind and kids any.
func TestItemsFaultOfAllSmallLists(t *testing.T) {
	choices := items(listOf(0), listOf(1), listOf(2), listOf(3), textItem("a"), boolItem(2))
	met := map[int64]int{}
	for n := range 6 {
		list := make([]impl.Item, n)
		for number := range power(len(choices), n) {
			for i := range list {
				list[i] = choices[number%len(choices)]
				number /= len(choices)
			}
			want := itemsFaultWant(list)
			met[want]++
			if got := impl.ItemsFault(list); got != want {
				t.Fatalf("%s: the fault is %d, want %d", brief(list), got, want)
			}
		}
	}
	for _, code := range numbers(impl.OK, impl.ErrForm, impl.ErrRange) {
		if met[code] < 60 {
			t.Errorf("the codes are %v", met)
		}
	}
}

func power(base int, n int) int {
	out := 1
	for range n {
		out *= base
	}
	return out
}

func TestItemsFaultOfSomeItems(t *testing.T) {
	chance, met := rand.New(rand.NewSource(200)), map[int64]int{}
	for i := range 6000 {
		list := someItems(chance, 1+i%100, 0, 1+i%61)
		if code := itemsFaultWant(list); code != impl.OK {
			t.Fatalf("%s has the fault %d", brief(list), code)
		}
		checkItemsFault(t, "right", list, impl.OK)
		wrong := spoiledItems(chance, list)
		want := itemsFaultWant(wrong)
		met[want]++
		checkItemsFault(t, "spoiled", wrong, want)
	}
	for _, code := range numbers(impl.OK, impl.ErrForm, impl.ErrMany, impl.ErrRange) {
		if met[code] < 100 {
			t.Errorf("the codes are %v", met)
		}
	}
}
