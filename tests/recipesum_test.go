package tests

import (
	"math/rand"
	"testing"

	"loop.example/g00057/impl"
)

func TestSumOfRecipeByHand(t *testing.T) {
	r := recipe("etch", params(param("p", 1, 9, 4)), recipeStep("a", ref("p"), set("gas", num(3))))
	checkValue(t, "the stage's", impl.SumOfRecipe(r), value(966286845))
	for _, some := range []impl.Recipe{recipe("a", nil), recipe("b", nil), plainRecipe(), longRecipe(4000)} {
		checkValue(t, brief(some), impl.SumOfRecipe(some), recipeSumWant(some))
	}
	checkValue(t, "no name", impl.SumOfRecipe(impl.Recipe{}), valueCode(impl.ErrForm))
	checkValue(t, "below 0", impl.SumOfRecipe(recipe("a", nil, recipeStep("s", num(-1)))), valueCode(impl.ErrRange))
	checkValue(t, "a text of 4001 bytes", impl.SumOfRecipe(longRecipe(4001)), valueCode(impl.ErrMany))
	checkValue(t, "full", impl.SumOfRecipe(fullRecipe()), valueCode(impl.ErrMany))
}

// Recipes that are unlike have other sums, here; how a recipe's text was written turns no sum.
func TestSumOfRecipeOfSomeRecipes(t *testing.T) {
	chance, met := rand.New(rand.NewSource(197)), map[int64]string{}
	for i := range 1500 {
		r := someRecipe(chance, 1+i%40)
		got := impl.SumOfRecipe(r)
		checkValue(t, brief(r), got, recipeSumWant(r))
		text := recipeTextWant(r)
		if other, there := met[got.Value]; got.Code == impl.OK && there && other != text {
			t.Errorf("%.100q and %.100q have the sum %d", other, text, got.Value)
		}
		met[got.Value] = text
		if read := impl.ParseRecipe("# so\n\n" + text); read.Code == impl.OK {
			checkValue(t, "read", impl.SumOfRecipe(read.Recipe), got)
		}
	}
}
