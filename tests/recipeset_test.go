package tests

import (
	"math/rand"
	"slices"
	"testing"

	"loop.example/g00057/impl"
)

func TestSetParamsByHand(t *testing.T) {
	r := plainRecipe()
	bases := recipe("etch", nil, recipeStep("a", num(4), set("gas", num(3)), set("heat", num(0))), recipeStep("b", num(7), set("gas", num(-3)), set("flow", num(4))))
	checkRecipe(t, "no value", impl.SetParams(r, nil), recipeOf(bases))
	one := copyRecipe(bases)
	one.Steps[0].Time, one.Steps[1].Settings[1].Value = num(9), num(9)
	checkRecipe(t, "one", impl.SetParams(r, settings(set("p", num(9)))), recipeOf(one))
	both := copyRecipe(one)
	both.Steps[0].Settings[1].Value = num(-5)
	checkRecipe(t, "both", impl.SetParams(r, settings(set("n", num(-5)), set("p", num(9)))), recipeOf(both))
	checkRecipe(t, "without parameters", impl.SetParams(recipe("a", nil), nil), recipeOf(recipe("a", nil)))
	checkRecipe(t, "one that no value is", impl.SetParams(recipe("a", params(param("p", 0, 9, 5))), settings(set("p", num(6)))), recipeOf(recipe("a", nil)))
	checkRecipe(t, "with a Name, which is not asked", impl.SetParams(r, settings(set("p", impl.Value{Kind: impl.VarNumber, Num: 9, Name: "x"}))), recipeOf(one))
}

func TestSetParamsOfWrongValues(t *testing.T) {
	r := plainRecipe()
	for _, c := range []struct {
		name   string
		values []impl.Setting
		code   int64
	}{
		{"none of that name", settings(set("q", num(5))), impl.ErrNone},
		{"a step's name", settings(set("a", num(5))), impl.ErrNone},
		{"a setting's name", settings(set("gas", num(5))), impl.ErrNone},
		{"no name", settings(set("", num(5))), impl.ErrNone},
		{"another case", settings(set("P", num(5))), impl.ErrNone},
		{"a parameter", settings(set("p", ref("p"))), impl.ErrForm},
		{"no kind", settings(set("p", impl.Value{Num: 5})), impl.ErrForm},
		{"kind 3", settings(set("p", impl.Value{Kind: 3, Num: 5})), impl.ErrForm},
		{"twice", settings(set("p", num(5)), set("p", num(5))), impl.ErrForm},
		{"twice, the second beyond", settings(set("p", num(5)), set("n", num(1)), set("p", num(10))), impl.ErrForm},
		{"twice, the first beyond", settings(set("p", num(10)), set("p", num(5))), impl.ErrRange},
		{"none, and no number", settings(set("q", ref("p"))), impl.ErrNone},
		{"none that comes twice", settings(set("q", num(1)), set("q", num(1))), impl.ErrNone},
		{"no number, and beyond", settings(set("p", impl.Value{Kind: 3, Num: 10})), impl.ErrForm},
		{"one by one", settings(set("p", num(10)), set("q", num(1))), impl.ErrRange},
		{"one by one, the other way", settings(set("q", num(1)), set("p", num(10))), impl.ErrNone},
	} {
		checkRecipe(t, c.name, impl.SetParams(r, c.values), recipeCode(c.code))
	}
	checkRecipe(t, "the recipe's fault is first", impl.SetParams(impl.Recipe{}, settings(set("q", num(1)))), recipeCode(impl.ErrForm))
}

func TestSetParamsAtTheLimits(t *testing.T) {
	for _, low := range numbers(-mostSet, -1, 0, 5, mostSet) {
		for _, high := range numbers(-mostSet, -1, 0, 5, mostSet) {
			if low > high {
				continue
			}
			r := recipe("r", params(param("p", low, high, low)), recipeStep("s", num(1), set("x", ref("p"))))
			for _, n := range append(numbers(low-1, low, low+1, high-1, high, high+1), recipeEnds()...) {
				want := recipeOf(recipe("r", nil, recipeStep("s", num(1), set("x", num(n)))))
				if n < low || n > high {
					want = recipeCode(impl.ErrRange)
				}
				checkRecipe(t, "a limit", impl.SetParams(r, settings(set("p", num(n)))), want)
			}
		}
	}
}

// someGiven are values for some of the parameters, in any order.
func someGiven(chance *rand.Rand, r impl.Recipe) []impl.Setting {
	var list []impl.Setting
	for _, i := range chance.Perm(len(r.Params))[:chance.Intn(len(r.Params)+1)] {
		p := r.Params[i]
		list = append(list, set(p.Name, num(p.Low+chance.Int63n(p.High-p.Low+1))))
	}
	return list
}

func TestSetParamsOfSomeRecipes(t *testing.T) {
	chance := rand.New(rand.NewSource(193))
	for i := range 2000 {
		r := someRecipe(chance, 1+i%25)
		values := someGiven(chance, r)
		got := impl.SetParams(r, values)
		checkRecipe(t, brief(values), got, setParamsWant(r, values))
		if impl.RecipeFault(got.Recipe) != impl.OK || len(got.Recipe.Params) > 0 {
			t.Fatalf("%s with %s is %s", brief(r), brief(values), brief(got))
		}
		// The order of the values turns nothing; what is settled stays.
		slices.Reverse(values)
		checkRecipe(t, "the other way", impl.SetParams(r, values), got)
		checkRecipe(t, "settled twice", impl.SetParams(got.Recipe, nil), got)
		if len(values) > 0 {
			values = append(values, values[chance.Intn(len(values))])
			checkRecipe(t, "one twice", impl.SetParams(r, values), recipeCode(impl.ErrForm))
		}
	}
}

func TestTotalTimeByHand(t *testing.T) {
	checkValue(t, "plain", impl.TotalTime(plainRecipe()), value(11))
	checkValue(t, "no steps", impl.TotalTime(recipe("a", params(param("p", 0, 9, 5)))), value(0))
	checkValue(t, "nought", impl.TotalTime(recipe("a", nil, recipeStep("s", num(0)))), value(0))
	checkValue(t, "full", impl.TotalTime(fullRecipe()), value(40000000))
	checkValue(t, "settings do not count", impl.TotalTime(recipe("a", nil, recipeStep("s", num(3), set("x", num(100))))), value(3))
	checkValue(t, "one parameter twice", impl.TotalTime(recipe("a", params(param("p", 2, 9, 5)), recipeStep("s", ref("p")), recipeStep("t", ref("p")))), value(10))
	checkValue(t, "no name", impl.TotalTime(impl.Recipe{}), valueCode(impl.ErrForm))
	checkValue(t, "below 0", impl.TotalTime(recipe("a", nil, recipeStep("s", num(-1)))), valueCode(impl.ErrRange))
}

func TestTotalTimeOfSomeRecipes(t *testing.T) {
	chance := rand.New(rand.NewSource(194))
	for i := range 2000 {
		r := someRecipe(chance, 1+i%40)
		checkValue(t, brief(r), impl.TotalTime(r), totalTimeWant(r))
		checkValue(t, "settled", impl.TotalTime(impl.SetParams(r, nil).Recipe), totalTimeWant(r))
	}
}
