package tests

import (
	"math/rand"
	"slices"
	"strings"
	"testing"

	"loop.example/g00057/impl"
)

// recipeAsk has what the calls of chapter 17 are given; each takes what it needs.
type recipeAsk struct {
	v      impl.Value
	a, b   impl.Recipe
	text   string
	values []impl.Setting
	list   []impl.Change
}

// recipeAnswer has what a call answers, and else nothing.
type recipeAnswer struct {
	text    string
	value   impl.ShapeInt
	read    impl.RecipeText
	made    impl.RecipeResult
	changes impl.ChangesResult
}

type recipeCall = callLike[recipeAsk, recipeAnswer]

// recipeCalls stand beside what the plain reckoning answers.
func recipeCalls() []recipeCall {
	return []recipeCall{
		{"ValueText",
			func(q recipeAsk) recipeAnswer { return recipeAnswer{text: impl.ValueText(q.v)} },
			func(q recipeAsk) recipeAnswer { return recipeAnswer{text: valueTextWant(q.v)} }},
		{"RecipeFault",
			func(q recipeAsk) recipeAnswer { return recipeAnswer{value: valueCode(impl.RecipeFault(q.a))} },
			func(q recipeAsk) recipeAnswer { return recipeAnswer{value: valueCode(recipeFaultWant(q.a))} }},
		{"FormatRecipe",
			func(q recipeAsk) recipeAnswer { return recipeAnswer{text: impl.FormatRecipe(q.a)} },
			func(q recipeAsk) recipeAnswer { return recipeAnswer{text: formatRecipeWant(q.a)} }},
		{"ParseRecipe",
			func(q recipeAsk) recipeAnswer { return recipeAnswer{read: impl.ParseRecipe(q.text)} },
			func(q recipeAsk) recipeAnswer { return recipeAnswer{read: parseRecipeWant(q.text)} }},
		{"SetParams",
			func(q recipeAsk) recipeAnswer { return recipeAnswer{made: impl.SetParams(q.a, q.values)} },
			func(q recipeAsk) recipeAnswer { return recipeAnswer{made: setParamsWant(q.a, q.values)} }},
		{"TotalTime",
			func(q recipeAsk) recipeAnswer { return recipeAnswer{value: impl.TotalTime(q.a)} },
			func(q recipeAsk) recipeAnswer { return recipeAnswer{value: totalTimeWant(q.a)} }},
		{"DiffRecipes",
			func(q recipeAsk) recipeAnswer { return recipeAnswer{changes: impl.DiffRecipes(q.a, q.b)} },
			func(q recipeAsk) recipeAnswer { return recipeAnswer{changes: diffWant(q.a, q.b)} }},
		{"ApplyChanges",
			func(q recipeAsk) recipeAnswer { return recipeAnswer{made: impl.ApplyChanges(q.a, q.list)} },
			func(q recipeAsk) recipeAnswer { return recipeAnswer{made: applyWant(q.a, q.list)} }},
		{"SumOfRecipe",
			func(q recipeAsk) recipeAnswer { return recipeAnswer{value: impl.SumOfRecipe(q.a)} },
			func(q recipeAsk) recipeAnswer { return recipeAnswer{value: recipeSumWant(q.a)} }},
	}
}

// recipeMaps say what becomes of each kind of list.
type recipeMaps struct {
	ofParams   func([]impl.Param) []impl.Param
	ofSteps    func([]impl.RecipeStep) []impl.RecipeStep
	ofSettings func([]impl.Setting) []impl.Setting
	ofChanges  func([]impl.Change) []impl.Change
}

// mapped has the lists of an ask as the functions answer them.
func (q recipeAsk) mapped(of recipeMaps) recipeAsk {
	q.a, q.b = mappedRecipe(q.a, of.ofParams, of.ofSteps, of.ofSettings), mappedRecipe(q.b, of.ofParams, of.ofSteps, of.ofSettings)
	q.values, q.list = of.ofSettings(q.values), of.ofChanges(q.list)
	return q
}

func (q recipeAsk) copied() recipeAsk {
	q.text = strings.Clone(q.text)
	return q.mapped(recipeMaps{slices.Clone[[]impl.Param], slices.Clone[[]impl.RecipeStep], slices.Clone[[]impl.Setting], slices.Clone[[]impl.Change]})
}

// roomed has room behind each list, and each within it, which no call may write into.
func (q recipeAsk) roomed() recipeAsk {
	return q.mapped(recipeMaps{roomFor(param("room", 7, 7, 7)), roomFor(recipeStep("room", num(77))), roomFor(set("room", num(77))), roomFor(change(77, "room", "7", "7"))})
}

// wholly has what lies behind the ends of the lists, too; it is a copy.
func (q recipeAsk) wholly() recipeAsk {
	return q.mapped(recipeMaps{wholeCopy[impl.Param], wholeCopy[impl.RecipeStep], wholeCopy[impl.Setting], wholeCopy[impl.Change]})
}

func (q recipeAsk) same(p recipeAsk) bool {
	return sameRecipe(q.a, p.a) && sameRecipe(q.b, p.b) && slices.Equal(q.values, p.values) && slices.Equal(q.list, p.list)
}

func (q recipeAsk) scribble() {
	scribbleRecipe(q.a)
	scribbleRecipe(q.b)
	scribbleAll(q.values, set("scribble", num(-5)))
	scribbleAll(q.list, change(-5, "scribble", "-6", "-7"))
}

func (a recipeAnswer) same(b recipeAnswer) bool {
	return a.text == b.text && a.value == b.value && sameRecipeText(a.read, b.read) && sameMadeRecipe(a.made, b.made) && sameChanges(a.changes, b.changes)
}

func (a recipeAnswer) scribble() {
	scribbleRecipe(a.read.Recipe)
	scribbleRecipe(a.made.Recipe)
	scribbleAll(a.changes.Changes, change(-5, "scribble", "-6", "-7"))
}

func (a recipeAnswer) code() int64 {
	return a.value.Code + a.read.Code + a.made.Code + a.changes.Code
}

// zeroed tells whether there is nothing beside the code, but for the place where a text could not be read.
func (a recipeAnswer) zeroed() bool {
	none := impl.Recipe{}
	return a.text == "" && a.value.Value == 0 && sameRecipe(a.read.Recipe, none) && sameRecipe(a.made.Recipe, none) && len(a.changes.Changes) == 0 &&
		(a.read.At == 0 || a.read.Code == impl.ErrText)
}

// rightRecipeAsk has no fault, but that there may be too many changes or bytes.
func rightRecipeAsk(chance *rand.Rand, i int) recipeAsk {
	q := recipeAsk{a: someRecipe(chance, numbersOf(3, 9, 40)[i%3])}
	q.b, q.values = someTurned(chance, q.a), someGiven(chance, q.a)
	q.v, q.text, q.list = someValue(chance, q.a.Params, -mostSet), recipeTextWant(q.a), diffWant(q.a, q.b).Changes
	return q
}

// turnedText has some bytes in another one's place.
func turnedText(chance *rand.Rand, text string) string {
	bytes := []byte(text)
	for range 1 + chance.Intn(3) {
		bytes[chance.Intn(len(bytes))] = " \n#$-09ap\xff\x00"[chance.Intn(11)]
	}
	return string(bytes)
}

// someRecipeAsks are right and wrong ones, the same at every run.
func someRecipeAsks(n int) []recipeAsk {
	chance, ends, wrong := rand.New(rand.NewSource(198)), recipeEnds(), wrongValues()
	var asks []recipeAsk
	for i := range n {
		q := rightRecipeAsk(chance, i)
		end := ends[chance.Intn(len(ends))]
		switch i % 10 {
		case 1:
			q.a = spoiledRecipe(chance, q.a)
		case 2:
			q.b = spoiledRecipe(chance, q.b)
		case 3:
			q.text, q.v = turnedText(chance, q.text), wrong[chance.Intn(len(wrong))]
		case 4:
			q.values = append(q.values, set(recipeNames()[chance.Intn(8)], num(end)))
		case 5:
			q.values = append(q.values, set(recipeNames()[chance.Intn(8)], wrong[chance.Intn(len(wrong))]))
		case 6:
			q.list = someChanges(chance, q.a)
		case 7:
			q.list = append(q.list, change(end, "gas", "", "5"))
		case 8:
			q.text, q.v.Num = q.text+q.text, end
		case 9:
			q.list = longer(append(q.list, change(0, "none", "", "")), 398+chance.Intn(6))
		}
		asks = append(asks, q)
	}
	return append(asks, recipeAsk{}, greatRecipeAsk(), fullRecipeAsk())
}

// greatRecipeAsk has far too much of all.
func greatRecipeAsk() recipeAsk {
	q := fullRecipeAsk()
	q.b = recipe("great", make([]impl.Param, 1000), make([]impl.RecipeStep, 1000)...)
	q.values, q.list, q.text = make([]impl.Setting, 1000), make([]impl.Change, 10000), strings.Repeat("recipe a\n", 10000)
	return q
}

// fullRecipeAsk has as much as there may be.
func fullRecipeAsk() recipeAsk {
	q := recipeAsk{v: num(-mostSet), a: fullRecipe(), b: copyRecipe(fullRecipe()), text: recipeTextWant(longRecipe(4000))}
	for i, p := range q.a.Params {
		q.values = append(q.values, set(p.Name, num(p.Low)))
		q.b.Steps[i].Time = num(0)
	}
	q.list = longer(changes(change(39, "c7", "-1000000", ""), change(39, "c7", "", "-1000000")), 400)
	return q
}

func TestEveryRecipeAskIsAnswered(t *testing.T) {
	checkSteady(t, someRecipeAsks(600), recipeCalls())
}

func TestEveryRecipeAskIsAnsweredRightly(t *testing.T) {
	answers := checkRightly(t, someRecipeAsks(700), recipeCalls())
	many := func(a recipeAnswer) bool { return len(a.changes.Changes) > 5 }
	checkCodesMet(t, answers, many, impl.OK, impl.ErrForm, impl.ErrMany, impl.ErrRange, impl.ErrNone, impl.ErrText)
}

func TestZeroBesideACodeOfRecipes(t *testing.T) {
	checkZeroed(t, someRecipeAsks(1000), recipeCalls())
}

func TestRecipesAnswerNewMemory(t *testing.T) {
	checkNewMemory(t, someRecipeAsks(400), recipeCalls())
}

// The settings of each step, and the room behind them, are the step's own.
func TestSettingsOfStepsAreApart(t *testing.T) {
	for _, q := range append(someRecipeAsks(200), fullRecipeAsk()) {
		for _, r := range []impl.Recipe{impl.ParseRecipe(q.text).Recipe, impl.SetParams(q.a, q.values).Recipe, impl.ApplyChanges(q.a, q.list).Recipe, impl.ApplyChanges(q.a, nil).Recipe} {
			var lists [][]impl.Setting
			for _, s := range r.Steps {
				lists = append(lists, s.Settings)
			}
			checkApart(t, brief(r), lists, set("scribble", num(-5)), slices.Equal[[]impl.Setting])
		}
	}
}

func TestRecipesKeepNothing(t *testing.T) {
	checkKeepsNothing(t, someRecipeAsks(60), recipeCalls())
}

// Every end stands once in each place where a number is given.
func TestEveryEndOfRecipes(t *testing.T) {
	for _, n := range recipeEnds() {
		var asks []recipeAsk
		for i := range 14 {
			q := recipeAsk{v: num(5), a: copyRecipe(plainRecipe()), b: copyRecipe(plainRecipe()), values: settings(set("p", num(5))), list: changes(change(0, "gas", "3", "5"))}
			s := q.a.Steps[0]
			*[]*int64{&q.v.Kind, &q.v.Num, &q.a.Params[0].Low, &q.a.Params[0].High, &q.a.Params[0].Base, &q.a.Steps[0].Time.Kind, &q.a.Steps[0].Time.Num,
				&q.a.Steps[1].Time.Num, &s.Settings[0].Value.Kind, &s.Settings[0].Value.Num, &s.Settings[1].Value.Num, &q.values[0].Value.Kind, &q.values[0].Value.Num,
				&q.list[0].Step}[i] = n
			asks = append(asks, q)
		}
		checkRightly(t, asks, recipeCalls())
		checkSteady(t, asks, recipeCalls())
	}
}

// Every text, name and word that is no good stands once in each place where a text is given.
func TestEveryWordOfRecipes(t *testing.T) {
	for _, word := range append(wrongNames(), recipeNames()...) {
		var asks []recipeAsk
		for i := range 12 {
			q := recipeAsk{v: ref("p"), a: copyRecipe(plainRecipe()), b: copyRecipe(plainRecipe()), values: settings(set("p", num(5))), list: changes(change(0, "gas", "3", "5"))}
			s := q.a.Steps[0]
			*[]*string{&q.v.Name, &q.a.Name, &q.a.Params[1].Name, &q.a.Steps[1].Name, &q.a.Steps[0].Time.Name, &s.Settings[0].Name, &s.Settings[1].Value.Name, &q.values[0].Name,
				&q.list[0].Name, &q.list[0].Was, &q.list[0].Now, &q.text}[i] = word
			asks = append(asks, q)
		}
		checkRightly(t, asks, recipeCalls())
		checkSteady(t, asks, recipeCalls())
	}
}

func TestNoRecipeIsNoRecipe(t *testing.T) {
	bare := recipeAsk{v: num(1), a: recipe("a", nil), b: recipe("a", nil), text: "recipe a"}
	empty := bare
	empty.a, empty.b, empty.values, empty.list = recipe("a", params(), []impl.RecipeStep{}...), recipe("a", params(), []impl.RecipeStep{}...), settings(), changes()
	step, stepToo := bare, empty
	step.a, step.b = recipe("a", nil, recipeStep("s", num(1))), recipe("a", nil, recipeStep("s", num(1)))
	stepToo.a, stepToo.b = recipe("a", params(), recipeStep("s", num(1), settings()...)), recipe("a", params(), recipeStep("s", num(1), settings()...))
	checkNoneIsNone(t, [][2]recipeAsk{{bare, empty}, {step, stepToo}, {{}, {values: settings(), list: changes()}}}, recipeCalls())
}
