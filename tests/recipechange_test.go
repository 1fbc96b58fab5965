package tests

import (
	"math/rand"
	"slices"
	"strconv"
	"strings"
	"testing"

	"loop.example/g00057/impl"
)

// turnedRecipe is plainRecipe with other times and settings: what is changed stands beside it.
func turnedRecipe() (impl.Recipe, []impl.Change) {
	r := copyRecipe(plainRecipe())
	r.Steps[0] = recipeStep("a", num(5), set("new", num(1)), set("heat", num(2)), set("last", ref("p")))
	r.Steps[1] = recipeStep("b", num(7), set("flow", ref("p")), set("gas", num(-3)))
	return r, changes(change(0, "", "$p", "5"), change(0, "gas", "3", ""), change(0, "heat", "$n", "2"), change(0, "new", "", "1"), change(0, "last", "", "$p"))
}

func TestDiffRecipesByHand(t *testing.T) {
	r := plainRecipe()
	turned, list := turnedRecipe()
	checkChanges(t, "itself", impl.DiffRecipes(r, r), changesOf())
	checkChanges(t, "turned", impl.DiffRecipes(r, turned), changesOf(list...))
	back := changes(change(0, "", "5", "$p"), change(0, "new", "1", ""), change(0, "heat", "2", "$n"), change(0, "last", "$p", ""), change(0, "gas", "", "3"))
	checkChanges(t, "turned back", impl.DiffRecipes(turned, r), changesOf(back...))
	late := copyRecipe(r)
	late.Steps[1].Time, late.Steps[0].Settings[0].Value = num(8), num(4)
	checkChanges(t, "step by step", impl.DiffRecipes(r, late), changesOf(change(0, "gas", "3", "4"), change(1, "", "7", "8")))
	checkChanges(t, "nothing in them", impl.DiffRecipes(recipe("a", nil), recipe("a", nil)), changesOf())
}

func TestDiffRecipesOfUnlikeOnes(t *testing.T) {
	r := plainRecipe()
	for name, spoil := range map[string]func(b *impl.Recipe){
		"name":                func(b *impl.Recipe) { b.Name = "etc" },
		"a parameter's name":  func(b *impl.Recipe) { b.Params = append(b.Params, param("q", 0, 1, 0)) },
		"low":                 func(b *impl.Recipe) { b.Params[0].Low = 0 },
		"high":                func(b *impl.Recipe) { b.Params[1].High = 6 },
		"base":                func(b *impl.Recipe) { b.Params[1].Base = 1 },
		"order of parameters": func(b *impl.Recipe) { slices.Reverse(b.Params) },
		"a step's name":       func(b *impl.Recipe) { b.Steps[1].Name = "c" },
		"order of steps":      func(b *impl.Recipe) { slices.Reverse(b.Steps) },
		"one step less":       func(b *impl.Recipe) { b.Steps = b.Steps[:1] },
		"no step":             func(b *impl.Recipe) { b.Steps = nil },
		"one step more":       func(b *impl.Recipe) { b.Steps = append(b.Steps, recipeStep("c", num(1))) },
	} {
		b := copyRecipe(r)
		spoil(&b)
		checkChanges(t, name, impl.DiffRecipes(r, b), changesCode(impl.ErrForm))
		checkChanges(t, name+", turned round", impl.DiffRecipes(b, r), changesCode(impl.ErrForm))
	}
}

func TestDiffRecipesOfFaults(t *testing.T) {
	far, none := recipe("a", nil, recipeStep("s", num(-1))), recipe("a", nil, recipeStep("s", ref("p")))
	checkChanges(t, "the first's", impl.DiffRecipes(far, none), changesCode(impl.ErrRange))
	checkChanges(t, "the first's, too", impl.DiffRecipes(none, far), changesCode(impl.ErrNone))
	checkChanges(t, "the second's", impl.DiffRecipes(recipe("b", nil), none), changesCode(impl.ErrNone))
}

// Both have as much as there may be, and nothing alike: more changes are told than can be made at once.
func TestDiffRecipesOfFullOnes(t *testing.T) {
	a, b := fullRecipe(), copyRecipe(fullRecipe())
	for i := range b.Steps {
		b.Steps[i].Time = num(0)
		for k := range b.Steps[i].Settings {
			b.Steps[i].Settings[k].Name = "d" + strconv.Itoa(k)
		}
	}
	got := impl.DiffRecipes(a, b)
	checkChanges(t, "all", got, diffWant(a, b))
	if len(got.Changes) != 680 {
		t.Errorf("there are %d changes", len(got.Changes))
	}
	checkRecipe(t, "too many", impl.ApplyChanges(a, got.Changes), recipeCode(impl.ErrMany))
}

func TestApplyChangesByHand(t *testing.T) {
	r := plainRecipe()
	checkRecipe(t, "none", impl.ApplyChanges(r, nil), recipeOf(r))
	_, list := turnedRecipe()
	want := copyRecipe(r)
	want.Steps[0] = recipeStep("a", num(5), set("heat", num(2)), set("new", num(1)), set("last", ref("p")))
	checkRecipe(t, "turned", impl.ApplyChanges(r, list), recipeOf(want))
}

// changeCase is a list of changes of plainRecipe, and its code; or that is OK, and the texts of the first step behind it.
type changeCase struct {
	name string
	list []impl.Change
	code int64
	text string
}

func changeCases() []changeCase {
	return []changeCase{
		{"a step that there is not", changes(change(2, "gas", "", "5")), impl.ErrNone, ""},
		{"a step below 0", changes(change(-1, "gas", "3", "5")), impl.ErrNone, ""},
		{"a step far off", changes(change(greatestInt, "gas", "3", "5")), impl.ErrNone, ""},
		{"a step far below", changes(change(leastInt, "gas", "3", "5")), impl.ErrNone, ""},
		{"another Was", changes(change(0, "gas", "4", "5")), impl.ErrNone, ""},
		{"a Was with a nought", changes(change(0, "gas", "03", "5")), impl.ErrNone, ""},
		{"an empty Was", changes(change(0, "gas", "", "5")), impl.ErrNone, ""},
		{"a Was of none", changes(change(0, "flow", "$p", "5")), impl.ErrNone, ""},
		{"a time's empty Was", changes(change(0, "", "", "5")), impl.ErrNone, ""},
		{"a time's number, not its parameter", changes(change(0, "", "4", "5")), impl.ErrNone, ""},
		{"a time's other Was", changes(change(0, "", "$n", "5")), impl.ErrNone, ""},
		{"another Was, and no value", changes(change(0, "gas", "4", "x")), impl.ErrNone, ""},
		{"no value", changes(change(0, "gas", "3", "x")), impl.ErrText, ""},
		{"too great", changes(change(0, "gas", "3", "1000001")), impl.ErrText, ""},
		{"ten digits", changes(change(0, "gas", "3", "0000000005")), impl.ErrText, ""},
		{"no name", changes(change(0, "gas", "3", "$")), impl.ErrText, ""},
		{"a remark", changes(change(0, "gas", "3", "#")), impl.ErrText, ""},
		{"a blank", changes(change(0, "gas", "3", " ")), impl.ErrText, ""},
		{"a value and a blank", changes(change(0, "gas", "3", "5 ")), impl.ErrText, ""},
		{"a value and a line's end", changes(change(0, "gas", "3", "5\n")), impl.ErrText, ""},
		{"two values", changes(change(0, "gas", "3", "5 6")), impl.ErrText, ""},
		{"a new one of no value", changes(change(0, "new", "", "+5")), impl.ErrText, ""},
		{"an empty time", changes(change(0, "", "$p", "")), impl.ErrText, ""},
		{"a time of no value", changes(change(0, "", "$p", "p")), impl.ErrText, ""},
		{"a time", changes(change(0, "", "$p", "0")), impl.OK, "0 gas 3 heat $n"},
		{"a time with noughts", changes(change(0, "", "$p", "000000012")), impl.OK, "12 gas 3 heat $n"},
		{"a time below 0", changes(change(0, "", "$p", "-1")), impl.ErrRange, ""},
		{"a time that may be below 0", changes(change(0, "", "$p", "$n")), impl.ErrRange, ""},
		{"a time of no parameter", changes(change(0, "", "$p", "$q")), impl.ErrNone, ""},
		{"noughts", changes(change(0, "gas", "3", "007")), impl.OK, "$p gas 7 heat $n"},
		{"minus nought", changes(change(0, "gas", "3", "-00")), impl.OK, "$p gas 0 heat $n"},
		{"the same", changes(change(0, "gas", "3", "3")), impl.OK, "$p gas 3 heat $n"},
		{"a parameter", changes(change(0, "gas", "3", "$p")), impl.OK, "$p gas $p heat $n"},
		{"no parameter", changes(change(0, "gas", "3", "$q")), impl.ErrNone, ""},
		{"no parameter at first", changes(change(0, "gas", "3", "$q"), change(0, "gas", "$q", "5")), impl.OK, "$p gas 5 heat $n"},
		{"gone", changes(change(0, "gas", "3", "")), impl.OK, "$p heat $n"},
		{"both gone", changes(change(0, "heat", "$n", ""), change(0, "gas", "3", "")), impl.OK, "$p"},
		{"gone twice", changes(change(0, "gas", "3", ""), change(0, "gas", "3", "")), impl.ErrNone, ""},
		{"gone, and none of it", changes(change(0, "gas", "3", ""), change(0, "gas", "", "")), impl.OK, "$p heat $n"},
		{"none, and none of it", changes(change(0, "none", "", "")), impl.OK, "$p gas 3 heat $n"},
		{"of no name, none of it", changes(change(0, "a b", "", "")), impl.OK, "$p gas 3 heat $n"},
		{"gone and back", changes(change(0, "gas", "3", ""), change(0, "gas", "", "4")), impl.OK, "$p heat $n gas 4"},
		{"new ones", changes(change(0, "y", "", "1"), change(0, "x", "", "2")), impl.OK, "$p gas 3 heat $n y 1 x 2"},
		{"new, changed and gone", changes(change(0, "y", "", "1"), change(0, "x", "", "2"), change(0, "y", "1", "3"), change(0, "x", "2", "")), impl.OK, "$p gas 3 heat $n y 3"},
		{"another one's Was", changes(change(0, "y", "", "1"), change(0, "y", "", "2")), impl.ErrNone, ""},
		{"several of one", changes(change(0, "gas", "3", "4"), change(0, "gas", "4", "05"), change(0, "gas", "5", "6")), impl.OK, "$p gas 6 heat $n"},
		{"several of a time", changes(change(0, "", "$p", "-4"), change(0, "", "-4", "6")), impl.OK, "6 gas 3 heat $n"},
		{"a wrong name", changes(change(0, "a b", "", "5")), impl.ErrForm, ""},
		{"a wrong name at first", changes(change(0, "a b", "", "5"), change(0, "a b", "5", "")), impl.OK, "$p gas 3 heat $n"},
		{"a wrong name behind a code", changes(change(0, "9", "", "5"), change(0, "gas", "4", "5")), impl.ErrNone, ""},
		{"one by one", changes(change(0, "gas", "3", "x"), change(9, "gas", "3", "5")), impl.ErrText, ""},
	}
}

func TestApplyChangesOfEachKind(t *testing.T) {
	for _, c := range changeCases() {
		want := recipeCode(c.code)
		if c.code == impl.OK {
			words := strings.Fields(c.text)
			time, _ := valueRead(words[0])
			step := recipeStep("a", time)
			for i := 1; i < len(words); i += 2 {
				v, _ := valueRead(words[i+1])
				step.Settings = append(step.Settings, set(words[i], v))
			}
			want = recipeOf(plainRecipe())
			want.Recipe.Steps[0] = step
		}
		checkRecipe(t, c.name, impl.ApplyChanges(plainRecipe(), c.list), want)
		checkRecipe(t, c.name+", by the plain reckoning", applyWant(plainRecipe(), c.list), want)
	}
}

func TestApplyChangesOfManyChanges(t *testing.T) {
	there, gone := change(1, "gas", "", "-3"), change(1, "gas", "-3", "")
	want := copyRecipe(plainRecipe())
	slices.Reverse(want.Steps[1].Settings)
	checkRecipe(t, "400", impl.ApplyChanges(plainRecipe(), longer(changes(gone, there), 400)), recipeOf(want))
	want.Steps[1].Settings = want.Steps[1].Settings[:1]
	checkRecipe(t, "399", impl.ApplyChanges(plainRecipe(), longer(changes(gone, there), 399)), recipeOf(want))
	checkRecipe(t, "401", impl.ApplyChanges(plainRecipe(), longer(changes(gone, there), 401)), recipeCode(impl.ErrMany))
	checkRecipe(t, "401 wrong ones", impl.ApplyChanges(plainRecipe(), make([]impl.Change, 401)), recipeCode(impl.ErrMany))
	checkRecipe(t, "100000", impl.ApplyChanges(plainRecipe(), make([]impl.Change, 100000)), recipeCode(impl.ErrMany))
	checkRecipe(t, "of a recipe with a fault", impl.ApplyChanges(impl.Recipe{}, make([]impl.Change, 401)), recipeCode(impl.ErrForm))
}

// There may be more settings than MaxSettings on the way, not at its end.
func TestApplyChangesOfManySettings(t *testing.T) {
	var list []impl.Change
	for i := range 398 {
		list = append(list, change(0, "c"+strconv.Itoa(i), "", "5"))
	}
	checkRecipe(t, "eight", impl.ApplyChanges(plainRecipe(), list[:6]), applyWant(plainRecipe(), list[:6]))
	checkRecipe(t, "nine", impl.ApplyChanges(plainRecipe(), list[:7]), recipeCode(impl.ErrMany))
	checkRecipe(t, "400", impl.ApplyChanges(plainRecipe(), list), recipeCode(impl.ErrMany))
	less := append(slices.Clone(list[:7]), change(0, "gas", "3", ""))
	checkRecipe(t, "nine, and one gone", impl.ApplyChanges(plainRecipe(), less), applyWant(plainRecipe(), less))
	if got := impl.ApplyChanges(plainRecipe(), less); got.Code != impl.OK || len(got.Recipe.Steps[0].Settings) != 8 {
		t.Errorf("nine, and one gone: %s", brief(got))
	}
}

// Changes lead from the one to the other: times and settings are alike, though new ones stand behind the others.
func TestChangesLeadFromOneToTheOther(t *testing.T) {
	chance, many, moved := rand.New(rand.NewSource(195)), 0, 0
	for i := range 4000 {
		a := someRecipe(chance, 1+i%40)
		b := someTurned(chance, a)
		told := impl.DiffRecipes(a, b)
		checkChanges(t, "told", told, diffWant(a, b))
		if len(told.Changes) > 400 {
			checkRecipe(t, "too many", impl.ApplyChanges(a, told.Changes), recipeCode(impl.ErrMany))
			many++
			continue
		}
		got := impl.ApplyChanges(a, told.Changes)
		checkRecipe(t, "applied", got, applyWant(a, told.Changes))
		checkChanges(t, "behind it", impl.DiffRecipes(got.Recipe, b), changesOf())
		for k := range b.Steps {
			byName := func(s impl.Setting, r impl.Setting) int { return strings.Compare(s.Name, r.Name) }
			was, now := slices.SortedFunc(slices.Values(got.Recipe.Steps[k].Settings), byName), slices.SortedFunc(slices.Values(b.Steps[k].Settings), byName)
			if !slices.Equal(was, now) {
				t.Fatalf("%s does not lead from %s to %s", brief(told), brief(a), brief(b))
			}
		}
		moved += int(bit(!sameRecipe(got.Recipe, b)))
	}
	if moved < 100 || moved > 3900 {
		t.Errorf("%d of 4000 have another order; of %d there are too many changes", moved, many)
	}
}

// All pairs of steps with up to two settings of two names and two values.
func TestChangesOfAllSmallSteps(t *testing.T) {
	var all []impl.Recipe
	values := []impl.Value{num(1), ref("p")}
	list := [][]impl.Setting{nil}
	for _, v := range values {
		list = append(list, settings(set("x", v)), settings(set("y", v)))
		for _, w := range values {
			list = append(list, settings(set("x", v), set("y", w)), settings(set("y", v), set("x", w)))
		}
	}
	for _, time := range values {
		for _, some := range list {
			all = append(all, recipe("r", params(param("p", 0, 9, 3)), recipeStep("s", time, some...)))
		}
	}
	for _, a := range all {
		for _, b := range all {
			told := impl.DiffRecipes(a, b)
			checkChanges(t, "told", told, diffWant(a, b))
			checkRecipe(t, "applied", impl.ApplyChanges(a, told.Changes), applyWant(a, told.Changes))
			checkChanges(t, "behind it", impl.DiffRecipes(impl.ApplyChanges(a, told.Changes).Recipe, b), changesOf())
		}
	}
}

// someChanges are right ones, wrong ones, and some that hang on those ahead of them.
func someChanges(chance *rand.Rand, r impl.Recipe) []impl.Change {
	var list []impl.Change
	words := []string{"", "0", "5", "05", "-7", "1000000", "$p", "$a", "$gas", "x", "1000001", "-1", "7", "8", "9"}
	names := append(recipeNames(), "", "", "9")
	standing := copyRecipe(r)
	for range chance.Intn(12) {
		most := int64(len(r.Steps))
		c := change(chance.Int63n(max(1, most+bit(chance.Intn(30) == 0))), names[chance.Intn(len(names))], "", words[chance.Intn(len(words))])
		if c.Step < most && chance.Intn(60) > 0 {
			c.Was = textsOf(standing.Steps[c.Step])[c.Name]
		}
		if chance.Intn(30) == 0 {
			c.Was = words[chance.Intn(len(words))]
		}
		if c.Step < most {
			standing.Steps[c.Step], _ = changedWant(standing.Steps[c.Step], c)
		}
		list = append(list, c)
	}
	return list
}

func TestApplyChangesOfSomeChanges(t *testing.T) {
	chance, met := rand.New(rand.NewSource(196)), map[int64]int{}
	for i := range 6000 {
		r := someRecipe(chance, 1+i%8)
		list := someChanges(chance, r)
		want := applyWant(r, list)
		met[want.Code]++
		checkRecipe(t, brief(list), impl.ApplyChanges(r, list), want)
	}
	for _, code := range numbers(impl.OK, impl.ErrForm, impl.ErrMany, impl.ErrRange, impl.ErrNone, impl.ErrText) {
		if met[code] < 20 {
			t.Errorf("the codes are %v", met)
		}
	}
}
