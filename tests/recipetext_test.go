package tests

import (
	"math/rand"
	"strconv"
	"strings"
	"testing"

	"loop.example/g00057/impl"
)

const plainRecipeText = "recipe etch\nparam p 1 9 4\nparam n -5 5 0\nstep a $p\nset gas 3\nset heat $n\nstep b 7\nset gas -3\nset flow $p\n"

func checkRecipeFormat(t *testing.T, r impl.Recipe, want string) {
	t.Helper()
	if got := impl.FormatRecipe(r); got != want {
		t.Errorf("FormatRecipe(%s) = %.300q, want %.300q", brief(r), got, want)
	}
}

func TestFormatRecipeByHand(t *testing.T) {
	checkRecipeFormat(t, plainRecipe(), plainRecipeText)
	checkRecipeFormat(t, recipe("a", nil), "recipe a\n")
	checkRecipeFormat(t, recipe("a", params(param("p", -mostSet, mostSet, -1))), "recipe a\nparam p -1000000 1000000 -1\n")
	checkRecipeFormat(t, recipe("a", nil, recipeStep("s", num(0))), "recipe a\nstep s 0\n")
	checkRecipeFormat(t, recipe("a", nil, recipeStep("s", num(-1))), "")
	checkRecipeFormat(t, impl.Recipe{}, "")
	checkRecipeFormat(t, fullRecipe(), "")
}

func TestFormatRecipeOfLongTexts(t *testing.T) {
	for bytes := 3997; bytes <= 4003; bytes++ {
		r := longRecipe(bytes)
		text := recipeTextWant(r)
		if len(text) != bytes || recipeFaultWant(r) != impl.OK {
			t.Fatalf("%d bytes are %d, with the fault %d", bytes, len(text), recipeFaultWant(r))
		}
		if bytes > 4000 {
			checkRecipeFormat(t, r, "")
			checkRecipeText(t, text, recipeFailed(impl.ErrMany, 0))
			continue
		}
		checkRecipeFormat(t, r, text)
		checkRecipeText(t, text, recipeRead(r))
	}
}

func TestRecipesAreReadBack(t *testing.T) {
	chance, long := rand.New(rand.NewSource(191)), 0
	for i := range 2000 {
		r := someRecipe(chance, 1+i%40)
		want := formatRecipeWant(r)
		checkRecipeFormat(t, r, want)
		if want == "" {
			long++
			continue
		}
		checkRecipeText(t, want, recipeRead(r))
		checkRecipeFormat(t, impl.ParseRecipe(want).Recipe, want)
	}
	if long < 3 || long > 1000 {
		t.Errorf("%d of 2000 recipes are too long for a text", long)
	}
}

func TestParseRecipeByHand(t *testing.T) {
	checkRecipeText(t, plainRecipeText, recipeRead(plainRecipe()))
	checkRecipeText(t, strings.TrimSuffix(plainRecipeText, "\n"), recipeRead(plainRecipe()))
	checkRecipeText(t, strings.ReplaceAll(plainRecipeText, " ", "   "), recipeRead(plainRecipe()))
	checkRecipeText(t, strings.ReplaceAll(plainRecipeText, "\n", "  \n\n   \n  "), recipeRead(plainRecipe()))
	checkRecipeText(t, "\n\n  "+plainRecipeText, recipeRead(plainRecipe()))
	checkRecipeText(t, "recipe recipe\nparam param 0 0 0\nstep step $param\nset set $param", recipeRead(recipe("recipe", params(param("param", 0, 0, 0)),
		recipeStep("step", ref("param"), set("set", ref("param"))))))
}

func TestParseRecipeOfTextsThatSayNothing(t *testing.T) {
	for _, text := range []string{"", "\n", " ", "   \n\n ", "#", "# so", "#\n", "  # recipe a\n", "#recipe a\n\n   #\n", strings.Repeat("\n", 4000), strings.Repeat("#", 4000)} {
		checkRecipeText(t, text, recipeFailed(impl.ErrText, int64(len(text))))
	}
}

func TestParseRecipeOfRemarks(t *testing.T) {
	r := recipe("etch", params(param("p", 1, 9, 4)), recipeStep("a", ref("p"), set("gas", num(3))))
	lines := []string{"recipe etch", "param p 1 9 4", "step a $p", "set gas 3"}
	for _, mark := range []string{" #", " # so", " #so", "   ##", " # recipe b", " #\xff\x80é", " # $p # 5", " #\x00", "\n# so", "\n   #\n\n#x"} {
		checkRecipeText(t, strings.Join(lines, mark+"\n"), recipeRead(r))
		checkRecipeText(t, "# first\n"+strings.Join(lines, mark+"\n")+mark, recipeRead(r))
	}
	// A # inside of a word is a rune of it.
	for _, at := range []int{11, 18, 25, 32, 36, 44} {
		text := strings.Join(lines, "\n")
		checkRecipeText(t, text[:at]+"#"+text[at:], parseRecipeWant(text[:at]+"#"+text[at:]))
	}
	checkRecipeText(t, "recipe a#b", recipeFailed(impl.ErrForm, 0))
	checkRecipeText(t, "recipe a#\n", recipeFailed(impl.ErrForm, 0))
	checkRecipeText(t, "recipe#\n", recipeFailed(impl.ErrText, 0))
	checkRecipeText(t, "recipe #a\n", recipeFailed(impl.ErrText, 0))
	checkRecipeText(t, "recipe a\nstep b 5# so\n", recipeFailed(impl.ErrText, 9))
	checkRecipeText(t, "recipe a\nstep b $p# so\n", recipeFailed(impl.ErrText, 9))
	checkRecipeText(t, "recipe a\nstep b #5\n", recipeFailed(impl.ErrText, 9))
	checkRecipeText(t, "recipe a\nstep b# 5 # so\n", recipeFailed(impl.ErrForm, 0))
	checkRecipeText(t, "recipe a\nstep #b 5\n", recipeFailed(impl.ErrText, 9))
	checkRecipeText(t, "recipe a\n#step b\nstep", recipeFailed(impl.ErrText, 17))
}

func TestParseRecipeOfRecipeLines(t *testing.T) {
	for text, at := range map[string]int64{
		"step a 5\n": 0, "param p 0 1 0\n": 0, "set x 5": 0, "# so\n\nstep a 5\nrecipe r\n": 6, "x\nrecipe r": 0, "Recipe r": 0, "recipes r": 0,
		"recipe a\nrecipe b\n": 9, "recipe a\nrecipe a": 9, "recipe a\nstep s 5\n  recipe b": 18, "recipe\n": 0, "recipe": 0, "recipe a b\n": 0, "recipe a 5": 0,
		"\n \nrecipe": 3, "recipe a\nrecipe\n": 9, "recipe a\nrecipe b c\n": 9, "\trecipe a": 0, "recipe\ta": 0, "recipe a\r\nstep": 10,
	} {
		checkRecipeText(t, text, recipeFailed(impl.ErrText, at))
	}
}

const recipeAhead = "recipe a # so\nparam p 0 9 1\n\n"

func TestParseRecipeOfOtherWords(t *testing.T) {
	at := int64(len(recipeAhead))
	for _, line := range []string{"x", "steps s 5", "Step s 5", "param", "sets x 5", "5", "$p", "-", "step\ts 5", "\tstep s 5", "paramp 0 1 0", "é 1", "\xff", "stepping s 5 #"} {
		for _, behind := range []string{"", "\n", "\nstep s 5\n", "\nrecipe b\n", " # so\n"} {
			checkRecipeText(t, recipeAhead+line+behind, recipeFailed(impl.ErrText, at))
			checkRecipeText(t, recipeAhead+"  "+line+behind, recipeFailed(impl.ErrText, at))
		}
	}
}

func TestParseRecipeOfTheNumberOfWords(t *testing.T) {
	ahead := recipeAhead + "step s 5\n"
	for line, head := range map[string]string{"param q 0 1 0": recipeAhead, "step t 5": ahead, "set x $p": ahead} {
		at, words := int64(len(head)), strings.Fields(line)
		for n := 1; n < len(words); n++ {
			checkRecipeText(t, head+strings.Join(words[:n], " ")+"\n", recipeFailed(impl.ErrText, at))
			checkRecipeText(t, head+strings.Join(words[:n], " ")+" # 1 2 3\n", recipeFailed(impl.ErrText, at))
		}
		for _, more := range []string{" 1", " a", " $p", " 1 1", " set x 1", " \xff", " a#"} {
			checkRecipeText(t, head+line+more+"\n", recipeFailed(impl.ErrText, at))
		}
		if got := impl.ParseRecipe(head + line); got.Code != impl.OK {
			t.Errorf("ParseRecipe of %q: %s", head+line, brief(got))
		}
	}
}

// numberWords are words that a number of chapter 3 is read of, and those that none is.
func numberWords() map[string]bool {
	return map[string]bool{
		"0": true, "-0": true, "00": true, "007": true, "-007": true, "1000000": true, "-1000000": true, "001000000": true, "-001000000": true, "999999999": true,
		"-999999999": true, "000000000": true, "1000001": true, "-1000001": true, "0000000000": false, "0000000001": false, "-0000000001": false, "1234567890": false,
		"+5": false, "": false, "-": false, "--5": false, "5-": false, "5.0": false, "1e3": false, "0x5": false, "5_0": false, "٥": false, "$p": false, "p": false, "5\t": false,
		"\xff": false, "5\x00": false, "99999999999999999999": false,
	}
}

func TestParseRecipeOfNumbers(t *testing.T) {
	for word, right := range numberWords() {
		for place := range 3 {
			words := []string{"0", "0", "0"}
			words[place] = word
			text := "recipe a\nparam p " + strings.Join(words, " ") + "\n"
			checkRecipeText(t, text, parseRecipeWant(text))
			got := impl.ParseRecipe(text)
			if read := got.Code != impl.ErrText; read != right || !right && got.At != 9 {
				t.Errorf("%q: %s", text, brief(got))
			}
		}
	}
}

func TestParseRecipeOfValues(t *testing.T) {
	for word := range numberWords() {
		v, right := valueRead(word)
		text := "recipe a\nparam p 0 1 1\nstep s 1\nset x " + word
		want := recipeFailed(impl.ErrText, 32)
		if right {
			want = recipeRead(recipe("a", params(param("p", 0, 1, 1)), recipeStep("s", num(1), set("x", v))))
		}
		checkRecipeText(t, text, want)
		text = "recipe a\nparam p 0 1 1\nstep s " + word
		want = recipeFailed(impl.ErrText, 23)
		switch {
		case right && v.Num < 0:
			want = recipeFailed(impl.ErrRange, 0)
		case right:
			want = recipeRead(recipe("a", params(param("p", 0, 1, 1)), recipeStep("s", v)))
		}
		checkRecipeText(t, text, want)
	}
	for _, name := range []string{"", "9", "a-", "a#", "#", "$a", "-", "é", "\xff", "a\tb", strings.Repeat("w", 17), strings.Repeat("w", 300)} {
		checkRecipeText(t, "recipe a\nstep s $"+name, recipeFailed(impl.ErrText, 9))
		checkRecipeText(t, "recipe a\nstep s 1\nset x $"+name, recipeFailed(impl.ErrText, 18))
	}
	for _, name := range []string{"q", "P", "_", strings.Repeat("w", 16)} {
		checkRecipeText(t, "recipe a\nstep s $"+name, recipeFailed(impl.ErrNone, 0))
		checkRecipeText(t, "recipe a\nstep s 1\nset x $"+name, recipeFailed(impl.ErrNone, 0))
	}
	checkRecipeText(t, "recipe a\nstep s 00$p", recipeFailed(impl.ErrText, 9))
	checkRecipeText(t, "recipe a\nstep s -$p", recipeFailed(impl.ErrText, 9))
}

func TestParseRecipeOfTheOrderOfLines(t *testing.T) {
	checkRecipeText(t, "recipe a\nset x 5\n", recipeFailed(impl.ErrText, 9))
	checkRecipeText(t, "recipe a\nset x 5\nstep s 1\n", recipeFailed(impl.ErrText, 9))
	checkRecipeText(t, "recipe a\nparam p 0 1 0\nset x $p\n", recipeFailed(impl.ErrText, 23))
	checkRecipeText(t, "recipe a\nstep s 1\nparam p 0 1 0\n", recipeFailed(impl.ErrText, 18))
	checkRecipeText(t, "recipe a\nstep s 1\nset x 5\nparam p 0 1 0\n", recipeFailed(impl.ErrText, 26))
	checkRecipeText(t, "recipe a\nstep s $p\nparam p 0 1 0\n", recipeFailed(impl.ErrText, 19))
	checkRecipeText(t, "recipe a\nstep s 1\nstep t 2\nset x 5\n", recipeRead(recipe("a", nil, recipeStep("s", num(1)), recipeStep("t", num(2), set("x", num(5))))))
}

func TestParseRecipeOfRecipesWithAFault(t *testing.T) {
	for text, code := range map[string]int64{
		"recipe 9": impl.ErrForm, "recipe é": impl.ErrForm, "recipe \xff": impl.ErrForm, "recipe " + strings.Repeat("n", 17): impl.ErrForm, "recipe $a": impl.ErrForm,
		"recipe a\nparam 9 0 1 0": impl.ErrForm, "recipe a\nparam p 0 1 0\nparam p 0 1 0": impl.ErrForm, "recipe a\nparam p 1 0 0": impl.ErrRange,
		"recipe a\nparam p 0 1000001 0": impl.ErrRange, "recipe a\nparam p -1000001 1 0": impl.ErrRange, "recipe a\nparam p 0 1 2": impl.ErrRange,
		"recipe a\nstep 9 1": impl.ErrForm, "recipe a\nstep s 1\nstep s 1": impl.ErrForm, "recipe a\nstep s $p": impl.ErrNone, "recipe a\nstep s -1": impl.ErrRange,
		"recipe a\nparam p -1 1 0\nstep s $p": impl.ErrRange, "recipe a\nstep s 1\nset 9 1": impl.ErrForm, "recipe a\nstep s 1\nset x 1\nset x 1": impl.ErrForm,
		"recipe a\nstep s 1\nset x $p": impl.ErrNone, "recipe a" + strings.Repeat("\nparam p 0 1 0", 21): impl.ErrMany, "recipe a" + strings.Repeat("\nstep s 1", 41): impl.ErrMany,
		"recipe a\nstep s 1" + strings.Repeat("\nset x 1", 9): impl.ErrMany, "recipe 9" + strings.Repeat("\nstep s 1", 41): impl.ErrForm,
	} {
		checkRecipeText(t, text, recipeFailed(code, 0))
		// A line that cannot be read is told, though a fault stands ahead of it.
		checkRecipeText(t, text+"\nset", recipeFailed(impl.ErrText, int64(len(text))+1))
	}
}

func TestParseRecipeOfLongTexts(t *testing.T) {
	a := recipe("a", nil)
	for _, fill := range []string{" ", "\n", "#", " #", "\n#"} {
		for bytes := 3996; bytes <= 4005; bytes++ {
			text := longer([]byte("recipe a "+strings.Repeat(fill, 4005)), bytes)
			want := recipeRead(a)
			if bytes > 4000 {
				want = recipeFailed(impl.ErrMany, 0)
			}
			checkRecipeText(t, string(text), want)
		}
	}
	checkRecipeText(t, strings.Repeat("\n", 3999)+"x", recipeFailed(impl.ErrText, 3999))
	checkRecipeText(t, strings.Repeat("\n", 4000)+"x", recipeFailed(impl.ErrMany, 0))
	checkRecipeText(t, strings.Repeat("x", 4000), recipeFailed(impl.ErrText, 0))
	checkRecipeText(t, strings.Repeat("x", 400000), recipeFailed(impl.ErrMany, 0))
	checkRecipeText(t, strings.Repeat("é", 2000), recipeFailed(impl.ErrText, 0))
	checkRecipeText(t, strings.Repeat("é", 2000)+"x", recipeFailed(impl.ErrMany, 0))
}

// Every byte of a text, left out, put in twice, or another in its place.
func TestParseRecipeOfTextsWithAByteTurned(t *testing.T) {
	others := []string{"", " ", "\n", "0", "1", "9", "-", "a", "p", "$", "#", " #", "_", "\t", "\x00", "\xff", "  ", "\n\n", " \n ", "00", "é"}
	for i := range len(plainRecipeText) {
		for _, other := range others {
			for _, from := range []int{i, i + 1} {
				text := plainRecipeText[:i] + other + plainRecipeText[from:]
				checkRecipeText(t, text, parseRecipeWant(text))
			}
		}
		checkRecipeText(t, plainRecipeText[:i], parseRecipeWant(plainRecipeText[:i]))
		checkRecipeText(t, plainRecipeText[i:], parseRecipeWant(plainRecipeText[i:]))
	}
}

// Every byte of all 256 stands once in a name, in a value, behind a line and in a remark.
func TestParseRecipeOfEachByte(t *testing.T) {
	for n := range 256 {
		b := string([]byte{byte(n)})
		for _, text := range []string{"recipe a" + b, b + "recipe a", "recipe a\nstep s 1" + b, "recipe a\nstep s " + b + "1", "recipe a\nstep " + b + " 1", "recipe a #" + b + "b",
			"recipe a\nparam p 0 1 0\nstep s $p" + b, "recipe a" + b + "step s 1"} {
			checkRecipeText(t, text, parseRecipeWant(text))
		}
	}
}

func TestParseRecipeOfSomeTexts(t *testing.T) {
	chance, met := rand.New(rand.NewSource(192)), map[int64]int{}
	pieces := []string{"recipe", "param", "step", "set", " ", " ", " ", "\n", "\n", "a", "b", "$p", "$a", "0", "1", "-1", "#", " # so\n", "x", "9", "1000001",
		"recipe a\n", "param p 0 1 0\n", "param a 0 1 1\n", "step s 1\n", "step t $p\n", "set x 5\n", "set y $p\n", "param 9 0 1 0\n", "step 9 1\n"}
	for i := range 20000 {
		text := ""
		if i%3 > 0 {
			text = "recipe a\n"
		}
		for range chance.Intn(10) {
			text += pieces[chance.Intn(len(pieces))]
		}
		want := parseRecipeWant(text)
		met[want.Code]++
		checkRecipeText(t, text, want)
	}
	for _, code := range numbers(impl.OK, impl.ErrForm, impl.ErrNone, impl.ErrText) {
		if met[code] < 50 {
			t.Errorf("the code %d was met %d times: the texts do not ask for it", code, met[code])
		}
	}
}

// All lists of up to four lines, in every order.
func TestParseRecipeOfAllOrdersOfLines(t *testing.T) {
	lines := []string{"recipe a", "param p 0 1 0", "param q -1 1 0", "step s $p", "step t 5", "set x $q", "set y 1", "", "# so", "x"}
	for n := range 10000 {
		text := ""
		for _, digit := range strconv.Itoa(n) {
			text += lines[digit-'0'] + "\n"
		}
		checkRecipeText(t, text, parseRecipeWant(text))
	}
}
