package tests

import (
	"strings"
	"testing"

	"loop.example/g00057/impl"
)

func checkValueText(t *testing.T, v impl.Value, want string) {
	t.Helper()
	if got := impl.ValueText(v); got != want {
		t.Errorf("ValueText(%s) = %.60q, want %.60q", brief(v), got, want)
	}
}

func TestValueTextByHand(t *testing.T) {
	for want, v := range map[string]impl.Value{
		"0": num(0), "7": num(7), "-7": num(-7), "1000000": num(1000000), "-1000000": num(-1000000), "999999": num(999999), "-999999": num(-999999),
		"$p": ref("p"), "$_": ref("_"), "$Z9_": ref("Z9_"), "$" + strings.Repeat("w", 16): ref(strings.Repeat("w", 16)),
	} {
		checkValueText(t, v, want)
	}
}

func TestValueTextOfNoValues(t *testing.T) {
	for _, v := range wrongValues() {
		checkValueText(t, v, "")
	}
}

func TestValueTextOfEachEnd(t *testing.T) {
	for _, kind := range recipeEnds() {
		for _, n := range recipeEnds() {
			for _, name := range append(wrongNames(), recipeNames()...) {
				v := impl.Value{Kind: kind, Num: n, Name: name}
				checkValueText(t, v, valueTextWant(v))
			}
		}
	}
}

// A value's text is read back, and no two values have the same text.
func TestValueTextsAreReadBack(t *testing.T) {
	values := []impl.Value{num(0), num(1), num(-1), num(10), num(-mostSet), num(mostSet), ref("a"), ref("b"), ref("_1"), ref(strings.Repeat("n", 16))}
	read := map[string]impl.Value{}
	for _, v := range values {
		text := impl.ValueText(v)
		if other, there := read[text]; there {
			t.Errorf("%v and %v have the text %q", other, v, text)
		}
		read[text] = v
		r := recipe("r", params(param("a", 0, 1, 0), param("b", 0, 1, 0), param("_1", 0, 1, 0), param(strings.Repeat("n", 16), 0, 1, 0)), recipeStep("s", num(1), set("x", v)))
		back := impl.ParseRecipe(recipeTextWant(r))
		if !sameRecipeText(back, recipeRead(r)) {
			t.Errorf("%q is read as %s", text, brief(back))
		}
	}
}
