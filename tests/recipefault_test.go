package tests

import (
	"math/rand"
	"strconv"
	"testing"

	"loop.example/g00057/impl"
)

// plainRecipe has two parameters, two steps and two settings each; parameter n may be below 0.
func plainRecipe() impl.Recipe {
	return recipe("etch", params(param("p", 1, 9, 4), param("n", -5, 5, 0)),
		recipeStep("a", ref("p"), set("gas", num(3)), set("heat", ref("n"))),
		recipeStep("b", num(7), set("gas", num(-3)), set("flow", ref("p"))))
}

func TestRecipeFaultByHand(t *testing.T) {
	checkRecipeFault(t, "plain", plainRecipe(), impl.OK)
	checkRecipeFault(t, "bare", recipe("a", nil), impl.OK)
	checkRecipeFault(t, "none", impl.Recipe{}, impl.ErrForm)
	checkRecipeFault(t, "full", fullRecipe(), impl.OK)
	checkRecipeFault(t, "a parameter that no value is", recipe("a", params(param("p", 0, 0, 0))), impl.OK)
	checkRecipeFault(t, "all of one name", recipe("a", params(param("a", 0, 0, 0)), recipeStep("a", ref("a"), set("a", ref("a")))), impl.OK)
}

// recipeSpoil turns one thing of a recipe; place tells it apart from the others of its kind.
type recipeSpoil struct {
	name  string
	code  int64
	spoil func(r *impl.Recipe)
}

// paramSpoils stand in the order in which they are told of the parameter at i.
func paramSpoils(i int) []recipeSpoil {
	return []recipeSpoil{
		{"name", impl.ErrForm, func(r *impl.Recipe) { r.Params[i].Name = "9" }},
		{"low", impl.ErrRange, func(r *impl.Recipe) { r.Params[i].Low = -mostSet - 1 }},
		{"high", impl.ErrRange, func(r *impl.Recipe) { r.Params[i].High = mostSet + 1 }},
		{"base", impl.ErrRange, func(r *impl.Recipe) { r.Params[i].Base = r.Params[i].High + 1 }},
	}
}

// stepSpoils stand in the order in which they are told of the step at i.
func stepSpoils(i int) []recipeSpoil {
	list := []recipeSpoil{
		{"name", impl.ErrForm, func(r *impl.Recipe) { r.Steps[i].Name = "" }},
		{"settings", impl.ErrMany, func(r *impl.Recipe) { r.Steps[i].Settings = longer(r.Steps[i].Settings, 9) }},
		{"no time", impl.ErrForm, func(r *impl.Recipe) { r.Steps[i].Time = impl.Value{Kind: 3} }},
		{"time of none", impl.ErrNone, func(r *impl.Recipe) { r.Steps[i].Time = ref("none") }},
		{"time below 0", impl.ErrRange, func(r *impl.Recipe) { r.Steps[i].Time = num(-1) }},
		{"time that may be below 0", impl.ErrRange, func(r *impl.Recipe) { r.Steps[i].Time = ref("n") }},
	}
	for k := range 2 {
		list = append(list,
			recipeSpoil{"setting's name", impl.ErrForm, func(r *impl.Recipe) { r.Steps[i].Settings[k].Name = "a b" }},
			recipeSpoil{"setting's value", impl.ErrForm, func(r *impl.Recipe) { r.Steps[i].Settings[k].Value = num(mostSet + 1) }},
			recipeSpoil{"setting of none", impl.ErrNone, func(r *impl.Recipe) { r.Steps[i].Settings[k].Value = ref("P") }})
	}
	return list
}

func recipeSpoils() []recipeSpoil {
	list := []recipeSpoil{
		{"recipe's name", impl.ErrForm, func(r *impl.Recipe) { r.Name = "é" }},
		{"parameters", impl.ErrMany, func(r *impl.Recipe) { r.Params = longer(r.Params, 21) }},
		{"steps", impl.ErrMany, func(r *impl.Recipe) { r.Steps = longer(r.Steps, 41) }},
	}
	for i := range 2 {
		list = append(list, paramSpoils(i)...)
	}
	for i := range 2 {
		list = append(list, stepSpoils(i)...)
	}
	return list
}

// Each thing by itself, and two at once, of which the one that is named first is told.
func TestRecipeFaultsInTheirOrder(t *testing.T) {
	list := recipeSpoils()
	for i, first := range list {
		r := copyRecipe(plainRecipe())
		first.spoil(&r)
		checkRecipeFault(t, first.name, r, first.code)
		for _, later := range list[i+1:] {
			both := copyRecipe(plainRecipe())
			later.spoil(&both)
			first.spoil(&both)
			checkRecipeFault(t, first.name+" and "+later.name, both, recipeFaultWant(both))
			if want := recipeFaultWant(both); want != first.code && first.code != later.code {
				t.Errorf("%s and %s: the code is %d, which is not the first", first.name, later.name, want)
			}
		}
	}
}

func TestRecipeFaultOfManyThings(t *testing.T) {
	for n := 18; n <= 22; n++ {
		r := recipe("r", nil)
		for i := range n {
			r.Params = append(r.Params, param("p"+strconv.Itoa(i), 0, 1, 0))
		}
		checkRecipeFault(t, strconv.Itoa(n)+" parameters", r, impl.ErrMany*bit(n > 20))
	}
	for n := 38; n <= 42; n++ {
		r := recipe("r", nil)
		for i := range n {
			r.Steps = append(r.Steps, recipeStep("s"+strconv.Itoa(i), num(1)))
		}
		checkRecipeFault(t, strconv.Itoa(n)+" steps", r, impl.ErrMany*bit(n > 40))
	}
	for n := 6; n <= 10; n++ {
		r := recipe("r", nil, recipeStep("s", num(1)), recipeStep("t", num(1)))
		for i := range n {
			r.Steps[1].Settings = append(r.Steps[1].Settings, set("c"+strconv.Itoa(i), num(1)))
		}
		checkRecipeFault(t, strconv.Itoa(n)+" settings", r, impl.ErrMany*bit(n > 8))
	}
	checkRecipeFault(t, "far too many", recipe("r", make([]impl.Param, 100000)), impl.ErrMany)
	checkRecipeFault(t, "far too many steps", recipe("r", nil, make([]impl.RecipeStep, 100000)...), impl.ErrMany)
	checkRecipeFault(t, "far too many settings", recipe("r", nil, recipeStep("s", num(1), make([]impl.Setting, 100000)...)), impl.ErrMany)
}

func TestRecipeFaultOfNames(t *testing.T) {
	for _, name := range recipeNames() {
		checkRecipeFault(t, name, recipe(name, params(param(name, 0, 9, 5)), recipeStep(name, ref(name), set(name, ref(name)))), impl.OK)
	}
	for _, name := range wrongNames() {
		checkRecipeFault(t, "the recipe", recipe(name, nil), impl.ErrForm)
		checkRecipeFault(t, "a parameter", recipe("r", params(param("p", 0, 1, 0), param(name, 0, 1, 0))), impl.ErrForm)
		checkRecipeFault(t, "a step", recipe("r", nil, recipeStep("a", num(1)), recipeStep(name, num(1))), impl.ErrForm)
		checkRecipeFault(t, "a setting", recipe("r", nil, recipeStep("a", num(1), set("b", num(1)), set(name, num(1)))), impl.ErrForm)
	}
}

func TestRecipeFaultOfNamesThatComeTwice(t *testing.T) {
	p := param("p", 0, 1, 0)
	checkRecipeFault(t, "parameters", recipe("r", params(p, param("q", 0, 1, 0), p)), impl.ErrForm)
	checkRecipeFault(t, "parameters, with another fault", recipe("r", params(p, param("p", 2, 1, 0))), impl.ErrForm)
	checkRecipeFault(t, "a fault ahead", recipe("r", params(param("p", 2, 1, 0), p)), impl.ErrRange)
	checkRecipeFault(t, "steps", recipe("r", nil, recipeStep("a", num(1)), recipeStep("b", num(1)), recipeStep("a", num(1))), impl.ErrForm)
	checkRecipeFault(t, "steps, with another fault", recipe("r", nil, recipeStep("a", num(1)), recipeStep("a", num(-1))), impl.ErrForm)
	checkRecipeFault(t, "a step's fault ahead", recipe("r", nil, recipeStep("a", num(-1)), recipeStep("a", num(1))), impl.ErrRange)
	checkRecipeFault(t, "settings", recipe("r", nil, recipeStep("a", num(1), set("x", num(1)), set("y", num(1)), set("x", num(2)))), impl.ErrForm)
	checkRecipeFault(t, "settings, of none", recipe("r", nil, recipeStep("a", num(1), set("x", num(1)), set("x", ref("p")))), impl.ErrForm)
	checkRecipeFault(t, "of none ahead", recipe("r", nil, recipeStep("a", num(1), set("x", ref("p")), set("x", num(1)))), impl.ErrNone)
	checkRecipeFault(t, "in two steps", recipe("r", nil, recipeStep("a", num(1), set("x", num(1))), recipeStep("b", num(1), set("x", num(1)))), impl.OK)
	checkRecipeFault(t, "great and small", recipe("r", params(p, param("P", 0, 1, 0)), recipeStep("a", num(1)), recipeStep("A", num(1))), impl.OK)
}

func TestRecipeFaultOfLimits(t *testing.T) {
	for _, low := range recipeEnds() {
		for _, high := range recipeEnds() {
			for _, base := range append(numbers(low, high), recipeEnds()...) {
				r := recipe("r", params(param("p", 0, 1, 0), param("q", low, high, base)))
				want := impl.ErrRange * bit(low < -mostSet || high > mostSet || low > high || base < low || base > high)
				if got := impl.RecipeFault(r); got != want {
					t.Fatalf("from %d to %d, %d: the fault is %d, want %d", low, high, base, got, want)
				}
			}
		}
	}
}

func TestRecipeFaultOfTimes(t *testing.T) {
	for _, n := range recipeEnds() {
		code := int64(impl.OK)
		switch {
		case n < -mostSet || n > mostSet:
			code = impl.ErrForm
		case n < 0:
			code = impl.ErrRange
		}
		checkRecipeFault(t, "a time", recipe("r", nil, recipeStep("a", num(n))), code)
		checkRecipeFault(t, "a setting", recipe("r", nil, recipeStep("a", num(0), set("x", num(n)))), impl.ErrForm*bit(n < -mostSet || n > mostSet))
	}
	low := func(n int64) []impl.Param { return params(param("p", n, 9, 9)) }
	checkRecipeFault(t, "from 0 on", recipe("r", low(0), recipeStep("a", ref("p"))), impl.OK)
	checkRecipeFault(t, "from -1 on", recipe("r", low(-1), recipeStep("a", ref("p"))), impl.ErrRange)
	checkRecipeFault(t, "a setting from -1 on", recipe("r", low(-1), recipeStep("a", num(1), set("x", ref("p")))), impl.OK)
	checkRecipeFault(t, "no such parameter", recipe("r", low(0), recipeStep("a", ref("q"))), impl.ErrNone)
	checkRecipeFault(t, "a setting of no such parameter", recipe("r", low(0), recipeStep("a", num(1), set("x", ref("q")))), impl.ErrNone)
	checkRecipeFault(t, "a setting's name is no parameter", recipe("r", nil, recipeStep("a", num(1), set("x", num(1)), set("y", ref("x")))), impl.ErrNone)
}

func TestRecipeFaultOfNoValues(t *testing.T) {
	for _, v := range wrongValues() {
		checkRecipeFault(t, "a time", recipe("r", params(param("p", 0, 1, 0)), recipeStep("a", v)), impl.ErrForm)
		checkRecipeFault(t, "a setting", recipe("r", params(param("p", 0, 1, 0)), recipeStep("a", num(1), set("x", v))), impl.ErrForm)
	}
}

// spoiledRecipe has, mostly, one thing or some that are at a bound or beyond it.
func spoiledRecipe(chance *rand.Rand, r impl.Recipe) impl.Recipe {
	r = copyRecipe(r)
	ends, names, wrong := recipeEnds(), append(wrongNames(), recipeNames()...), wrongValues()
	end := func() int64 { return ends[chance.Intn(len(ends))] }
	name := func() string { return names[chance.Intn(len(names))] }
	for range 1 + chance.Intn(2) {
		kind := chance.Intn(9)
		switch {
		case kind == 0:
			r.Name = name()
		case kind == 1:
			r.Params = append(r.Params, param(name(), end(), end(), end()))
		case kind == 2 && len(r.Params) > 0:
			r.Params = longer(r.Params, 1+chance.Intn(22))
		case kind == 3:
			r.Steps = append(r.Steps, recipeStep(name(), num(end())))
		case kind == 4 && len(r.Steps) > 0:
			r.Steps = longer(r.Steps, 1+chance.Intn(42))
		case kind == 5 && len(r.Steps) > 0:
			r.Steps[chance.Intn(len(r.Steps))].Time = wrong[chance.Intn(len(wrong))]
		case kind == 6 && len(r.Steps) > 0:
			s := &r.Steps[chance.Intn(len(r.Steps))]
			s.Settings = append(s.Settings, set(name(), num(end())))
		case kind == 7 && len(r.Steps) > 0:
			s := &r.Steps[chance.Intn(len(r.Steps))]
			s.Settings = append(s.Settings, set(name(), ref(name())))
		case kind == 8 && len(r.Steps) > 0:
			r.Steps[chance.Intn(len(r.Steps))].Time = ref(name())
		}
	}
	return r
}

func TestRecipeFaultOfSomeRecipes(t *testing.T) {
	chance, met := rand.New(rand.NewSource(190)), map[int64]int{}
	for i := range 3000 {
		r := someRecipe(chance, 1+i%40)
		checkRecipeFault(t, "right", r, impl.OK)
		wrong := spoiledRecipe(chance, r)
		want := recipeFaultWant(wrong)
		met[want]++
		checkRecipeFault(t, "spoiled", wrong, want)
	}
	for _, code := range numbers(impl.OK, impl.ErrForm, impl.ErrMany, impl.ErrRange, impl.ErrNone) {
		if met[code] < 30 {
			t.Errorf("the codes are %v", met)
		}
	}
}
