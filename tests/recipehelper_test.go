package tests

import (
	"math/big"
	"math/rand"
	"regexp"
	"slices"
	"strconv"
	"strings"
	"testing"

	"loop.example/g00057/impl"
)

const mostSet = 1000000

func num(n int64) impl.Value {
	return impl.Value{Kind: impl.VarNumber, Num: n}
}

func ref(name string) impl.Value {
	return impl.Value{Kind: impl.VarParam, Name: name}
}

func param(name string, low int64, high int64, base int64) impl.Param {
	return impl.Param{Name: name, Low: low, High: high, Base: base}
}

func set(name string, v impl.Value) impl.Setting {
	return impl.Setting{Name: name, Value: v}
}

func settings(list ...impl.Setting) []impl.Setting {
	return list
}

func recipeStep(name string, time impl.Value, list ...impl.Setting) impl.RecipeStep {
	return impl.RecipeStep{Name: name, Time: time, Settings: list}
}

func recipe(name string, params []impl.Param, list ...impl.RecipeStep) impl.Recipe {
	return impl.Recipe{Name: name, Params: params, Steps: list}
}

func params(list ...impl.Param) []impl.Param {
	return list
}

func recipeOf(r impl.Recipe) impl.RecipeResult {
	return impl.RecipeResult{Recipe: r}
}

func recipeCode(code int64) impl.RecipeResult {
	return impl.RecipeResult{Code: code}
}

func recipeRead(r impl.Recipe) impl.RecipeText {
	return impl.RecipeText{Recipe: r}
}

func recipeFailed(code int64, at int64) impl.RecipeText {
	return impl.RecipeText{Code: code, At: at}
}

func change(step int64, name string, was string, now string) impl.Change {
	return impl.Change{Step: step, Name: name, Was: was, Now: now}
}

func changes(list ...impl.Change) []impl.Change {
	return list
}

func changesOf(list ...impl.Change) impl.ChangesResult {
	return impl.ChangesResult{Changes: list}
}

func changesCode(code int64) impl.ChangesResult {
	return impl.ChangesResult{Code: code}
}

// mappedRecipe has the lists of a recipe as the functions answer them.
func mappedRecipe(r impl.Recipe, ofParams func([]impl.Param) []impl.Param, ofSteps func([]impl.RecipeStep) []impl.RecipeStep,
	ofSettings func([]impl.Setting) []impl.Setting) impl.Recipe {
	r.Params, r.Steps = ofParams(r.Params), ofSteps(r.Steps)
	for i, s := range r.Steps {
		r.Steps[i].Settings = ofSettings(s.Settings)
	}
	return r
}

func copyRecipe(r impl.Recipe) impl.Recipe {
	return mappedRecipe(r, slices.Clone[[]impl.Param], slices.Clone[[]impl.RecipeStep], slices.Clone[[]impl.Setting])
}

func scribbleRecipe(r impl.Recipe) {
	for _, s := range r.Steps[:cap(r.Steps)] {
		scribbleAll(s.Settings, set("scribble", num(-5)))
	}
	scribbleAll(r.Params, param("scribble", -5, -6, -7))
	scribbleAll(r.Steps, recipeStep("scribble", num(-5), set("scribble", num(-6))))
}

func sameRecipe(a impl.Recipe, b impl.Recipe) bool {
	return a.Name == b.Name && slices.Equal(a.Params, b.Params) && slices.EqualFunc(a.Steps, b.Steps, func(s impl.RecipeStep, r impl.RecipeStep) bool {
		return s.Name == r.Name && s.Time == r.Time && slices.Equal(s.Settings, r.Settings)
	})
}

func sameRecipeText(a impl.RecipeText, b impl.RecipeText) bool {
	return a.Code == b.Code && a.At == b.At && sameRecipe(a.Recipe, b.Recipe)
}

func sameMadeRecipe(a impl.RecipeResult, b impl.RecipeResult) bool {
	return a.Code == b.Code && sameRecipe(a.Recipe, b.Recipe)
}

func sameChanges(a impl.ChangesResult, b impl.ChangesResult) bool {
	return a.Code == b.Code && slices.Equal(a.Changes, b.Changes)
}

func checkRecipeText(t *testing.T, text string, want impl.RecipeText) {
	t.Helper()
	if got := impl.ParseRecipe(text); !sameRecipeText(got, want) {
		t.Errorf("ParseRecipe(%.200q) of %d bytes = %s, want %s", text, len(text), brief(got), brief(want))
	}
}

func checkRecipe(t *testing.T, what string, got impl.RecipeResult, want impl.RecipeResult) {
	t.Helper()
	if !sameMadeRecipe(got, want) {
		t.Errorf("%s: %s, want %s", what, brief(got), brief(want))
	}
}

func checkChanges(t *testing.T, what string, got impl.ChangesResult, want impl.ChangesResult) {
	t.Helper()
	if !sameChanges(got, want) {
		t.Errorf("%s: %s, want %s", what, brief(got), brief(want))
	}
}

// checkRecipeFault asks every call that tells the fault of a recipe, too.
func checkRecipeFault(t *testing.T, what string, r impl.Recipe, code int64) {
	t.Helper()
	if got := impl.RecipeFault(r); got != code {
		t.Errorf("%s, %s: the fault is %d, want %d", what, brief(r), got, code)
	}
	right := recipe("r", nil)
	told := numbers(impl.SetParams(r, nil).Code, impl.TotalTime(r).Code, impl.DiffRecipes(r, r).Code, impl.ApplyChanges(r, nil).Code)
	if code != impl.OK {
		told = append(told, impl.DiffRecipes(r, right).Code, impl.DiffRecipes(right, r).Code, impl.SumOfRecipe(r).Code)
		if text := impl.FormatRecipe(r); text != "" {
			t.Errorf("%s, %s has the text %q", what, brief(r), text)
		}
	}
	if slices.ContainsFunc(told, func(n int64) bool { return n != code }) {
		t.Errorf("%s, %s: the codes are %v, want %d", what, brief(r), told, code)
	}
}

var paramWord = regexp.MustCompile(`\A\$[A-Za-z_][A-Za-z0-9_]{0,15}\z`)
var numberWord = regexp.MustCompile(`\A-?(0{0,3}[0-9]{1,6}|0{0,2}1000000)\z`)

func valueTextWant(v impl.Value) string {
	text := map[int64]string{1: strconv.FormatInt(v.Num, 10), 2: "$" + v.Name}[v.Kind]
	if v.Kind == 1 && v.Name == "" && numberWord.MatchString(text) || v.Kind == 2 && v.Num == 0 && paramWord.MatchString(text) {
		return text
	}
	return ""
}

// valueRead is the value that a word says, if it says one.
func valueRead(word string) (impl.Value, bool) {
	if paramWord.MatchString(word) {
		return ref(word[1:]), true
	}
	n, _ := strconv.ParseInt(word, 10, 64)
	if numberWord.MatchString(word) {
		return num(n), true
	}
	return impl.Value{}, false
}

// paramNamed are the parameters of that name: one, or none.
func paramNamed(r impl.Recipe, name string) []impl.Param {
	var found []impl.Param
	for _, p := range r.Params {
		if p.Name == name {
			found = append(found, p)
		}
	}
	return found
}

// unknown tells whether a value is a parameter that there is not.
func unknown(r impl.Recipe, v impl.Value) bool {
	return v.Kind == impl.VarParam && len(paramNamed(r, v.Name)) == 0
}

// leastOf is the least number that a value may be; where there is none, 0.
func leastOf(r impl.Recipe, v impl.Value) int64 {
	for _, p := range paramNamed(r, v.Name) {
		return p.Low
	}
	return v.Num
}

func recipeFaultWant(r impl.Recipe) int64 {
	var codes faults
	codes.found(nameWant(r.Name))
	codes.wrong(impl.ErrMany, len(r.Params) >= 21, len(r.Steps) >= 41)
	names := map[string]int{}
	for _, p := range r.Params {
		codes.found(nameWant(p.Name))
		codes.wrong(impl.ErrForm, names["param "+p.Name] > 0)
		codes.wrong(impl.ErrRange, p.Low < -mostSet, p.High > mostSet, p.High < p.Low, p.Base < p.Low, p.Base > p.High)
		names["param "+p.Name]++
	}
	for i, s := range r.Steps {
		codes.found(nameWant(s.Name))
		codes.wrong(impl.ErrForm, names["step "+s.Name] > 0)
		codes.wrong(impl.ErrMany, len(s.Settings) >= 9)
		codes.wrong(impl.ErrForm, valueTextWant(s.Time) == "")
		codes.wrong(impl.ErrNone, unknown(r, s.Time))
		codes.wrong(impl.ErrRange, leastOf(r, s.Time) < 0)
		for _, c := range s.Settings {
			key := "set " + strconv.Itoa(i) + " " + c.Name
			codes.found(nameWant(c.Name))
			codes.wrong(impl.ErrForm, names[key] > 0, valueTextWant(c.Value) == "")
			codes.wrong(impl.ErrNone, unknown(r, c.Value))
			names[key]++
		}
		names["step "+s.Name]++
	}
	return codes.first()
}

// recipeTextWant is the text of a recipe without a fault, however long it is.
func recipeTextWant(r impl.Recipe) string {
	lines := [][]string{{"recipe", r.Name}}
	for _, p := range r.Params {
		lines = append(lines, []string{"param", p.Name, strconv.FormatInt(p.Low, 10), strconv.FormatInt(p.High, 10), strconv.FormatInt(p.Base, 10)})
	}
	for _, s := range r.Steps {
		lines = append(lines, []string{"step", s.Name, valueTextWant(s.Time)})
		for _, c := range s.Settings {
			lines = append(lines, []string{"set", c.Name, valueTextWant(c.Value)})
		}
	}
	text := ""
	for _, words := range lines {
		text += strings.Join(words, " ") + "\n"
	}
	return text
}

func formatRecipeWant(r impl.Recipe) string {
	if recipeFaultWant(r) != impl.OK || len(recipeTextWant(r)) > 4000 {
		return ""
	}
	return recipeTextWant(r)
}

var remark = regexp.MustCompile(`(\A| )#.*\z`)
var recipeLine = regexp.MustCompile(`\A *recipe +[^ ]+ *\z`)
var paramLine = regexp.MustCompile(`\A *param +[^ ]+( +` + numberForm + `){3} *\z`)
var stepLine = regexp.MustCompile(`\A *step +[^ ]+ +[^ ]+ *\z`)
var setLine = regexp.MustCompile(`\A *set +[^ ]+ +[^ ]+ *\z`)

// recipeLineRead puts what a line says into the recipe, and tells whether it may say that.
func recipeLineRead(r *impl.Recipe, line string, begun bool) bool {
	words, n := wordsBetween(line)
	last := len(r.Steps) - 1
	v, valued := valueRead(append(words, "", "")[2])
	switch {
	case recipeLine.MatchString(line):
		r.Name = words[1]
		return !begun
	case paramLine.MatchString(line):
		r.Params = append(r.Params, param(words[1], n[2], n[3], n[4]))
		return begun && last < 0
	case stepLine.MatchString(line):
		r.Steps = append(r.Steps, recipeStep(words[1], v))
		return begun && valued
	case setLine.MatchString(line) && last >= 0:
		r.Steps[last].Settings = append(r.Steps[last].Settings, set(words[1], v))
		return valued
	}
	return false
}

// parseRecipeWant asks whole lines by their forms, ahead of their remarks.
func parseRecipeWant(text string) impl.RecipeText {
	if len(text) > 4000 {
		return recipeFailed(impl.ErrMany, 0)
	}
	var r impl.Recipe
	begun, at := false, int64(0)
	for _, whole := range strings.Split(text, "\n") {
		line := remark.ReplaceAllString(whole, "")
		if words, _ := wordsBetween(line); len(words) > 0 {
			if !recipeLineRead(&r, line, begun) {
				return recipeFailed(impl.ErrText, at)
			}
			begun = true
		}
		at += int64(len(whole)) + 1
	}
	if !begun {
		return recipeFailed(impl.ErrText, int64(len(text)))
	}
	if code := recipeFaultWant(r); code != impl.OK {
		return recipeFailed(code, 0)
	}
	return recipeRead(r)
}

// settledWant is a value with the number of its parameter: the one that is given, or Base.
func settledWant(r impl.Recipe, v impl.Value, values []impl.Setting) impl.Value {
	if v.Kind != impl.VarParam {
		return v
	}
	for _, given := range values {
		if given.Name == v.Name {
			return num(given.Value.Num)
		}
	}
	return num(paramNamed(r, v.Name)[0].Base)
}

func setParamsWant(r impl.Recipe, values []impl.Setting) impl.RecipeResult {
	var codes faults
	codes.found(recipeFaultWant(r))
	for i, v := range values {
		found := paramNamed(r, v.Name)
		codes.wrong(impl.ErrNone, len(found) == 0)
		twice := slices.ContainsFunc(values[:i], func(other impl.Setting) bool { return other.Name == v.Name })
		codes.wrong(impl.ErrForm, v.Value.Kind != 1, twice)
		for _, p := range found {
			codes.wrong(impl.ErrRange, v.Value.Num < p.Low, v.Value.Num > p.High)
		}
	}
	if code := codes.first(); code != impl.OK {
		return recipeCode(code)
	}
	out := recipe(r.Name, nil)
	for _, s := range r.Steps {
		made := recipeStep(s.Name, settledWant(r, s.Time, values))
		for _, c := range s.Settings {
			made.Settings = append(made.Settings, set(c.Name, settledWant(r, c.Value, values)))
		}
		out.Steps = append(out.Steps, made)
	}
	return recipeOf(out)
}

func totalTimeWant(r impl.Recipe) impl.ShapeInt {
	settled := setParamsWant(r, nil)
	if settled.Code != impl.OK {
		return valueCode(settled.Code)
	}
	sum := int64(0)
	for _, s := range settled.Recipe.Steps {
		sum += s.Time.Num
	}
	return value(sum)
}

// textsOf are the texts of a step by name, its time under the empty one.
func textsOf(s impl.RecipeStep) map[string]string {
	texts := map[string]string{"": valueTextWant(s.Time)}
	for _, c := range s.Settings {
		texts[c.Name] = valueTextWant(c.Value)
	}
	return texts
}

func diffWant(a impl.Recipe, b impl.Recipe) impl.ChangesResult {
	stepNames := func(r impl.Recipe) []string {
		var names []string
		for _, s := range r.Steps {
			names = append(names, s.Name)
		}
		return names
	}
	var codes faults
	codes.found(recipeFaultWant(a))
	codes.found(recipeFaultWant(b))
	codes.wrong(impl.ErrForm, a.Name != b.Name, !slices.Equal(a.Params, b.Params), !slices.Equal(stepNames(a), stepNames(b)))
	if code := codes.first(); code != impl.OK {
		return changesCode(code)
	}
	var list []impl.Change
	for i := range a.Steps {
		was, now := textsOf(a.Steps[i]), textsOf(b.Steps[i])
		names := []string{""}
		for _, c := range slices.Concat(a.Steps[i].Settings, b.Steps[i].Settings) {
			if !slices.Contains(names, c.Name) {
				names = append(names, c.Name)
			}
		}
		for _, name := range names {
			if was[name] != now[name] {
				list = append(list, change(int64(i), name, was[name], now[name]))
			}
		}
	}
	return changesOf(list...)
}

// changedWant is the step behind a change, which is told there, and a code.
func changedWant(s impl.RecipeStep, c impl.Change) (impl.RecipeStep, int64) {
	v, valued := valueRead(c.Now)
	switch {
	case textsOf(s)[c.Name] != c.Was:
		return s, impl.ErrNone
	case !valued && (c.Now != "" || c.Name == ""):
		return s, impl.ErrText
	case c.Name == "":
		s.Time = v
		return s, impl.OK
	}
	var list []impl.Setting
	there := false
	for _, other := range s.Settings {
		switch {
		case other.Name != c.Name:
			list = append(list, other)
		case valued:
			list = append(list, set(c.Name, v))
		}
		there = there || other.Name == c.Name
	}
	if !there && valued {
		list = append(list, set(c.Name, v))
	}
	s.Settings = list
	return s, impl.OK
}

func applyWant(a impl.Recipe, list []impl.Change) impl.RecipeResult {
	if code := recipeFaultWant(a); code != impl.OK {
		return recipeCode(code)
	}
	if len(list) >= 401 {
		return recipeCode(impl.ErrMany)
	}
	out := copyRecipe(a)
	for _, c := range list {
		if c.Step < 0 || c.Step >= int64(len(out.Steps)) {
			return recipeCode(impl.ErrNone)
		}
		s, code := changedWant(out.Steps[c.Step], c)
		if code != impl.OK {
			return recipeCode(code)
		}
		out.Steps[c.Step] = s
	}
	if code := recipeFaultWant(out); code != impl.OK {
		return recipeCode(code)
	}
	return recipeOf(out)
}

// recipeSumWant puts all bytes into one great number, and takes the prime out of it once.
func recipeSumWant(r impl.Recipe) impl.ShapeInt {
	if code := recipeFaultWant(r); code != impl.OK {
		return valueCode(code)
	}
	text := formatRecipeWant(r)
	if text == "" {
		return valueCode(impl.ErrMany)
	}
	sum := big.NewInt(1)
	for _, b := range []byte(text) {
		sum.Add(sum.Mul(sum, big.NewInt(131)), big.NewInt(int64(b)))
	}
	return value(sum.Mod(sum, big.NewInt(998244353)).Int64())
}

// recipeNames are right ones.
func recipeNames() []string {
	return []string{"a", "B", "_", "p", "p2", "gas", "Z9_", strings.Repeat("w", 16)}
}

// wrongNames have a fault.
func wrongNames() []string {
	return []string{"", "9", "a b", "é", "a#", "#", "$a", "a-", "\xff", "a\n", strings.Repeat("w", 17), strings.Repeat("x", 5000)}
}

// recipeEnds stand at and just beyond every bound that chapter 17 names, and at the ends of int64.
func recipeEnds() []int64 {
	list := numbers(0, 1, 2, 3, 7, 8, 9, 19, 20, 21, 39, 40, 41, 400, 401, 999999, 1000000, 1000001, 999999999, 1000000000, 1<<32, wide, 1<<62, greatestInt-1, greatestInt)
	for _, n := range list {
		list = append(list, -n)
	}
	return append(list, leastInt)
}

// wrongValues are neither numbers nor parameters.
func wrongValues() []impl.Value {
	list := []impl.Value{{}, {Kind: 3}, {Kind: -1, Num: 5}, {Kind: 2}, {Kind: 1, Name: "p"}, {Kind: 1, Num: 5, Name: "p"}, {Kind: 2, Num: 1, Name: "p"},
		{Kind: 2, Num: -1, Name: "p"}, {Kind: 3, Name: "p"}, {Kind: 0, Name: "p"}, {Kind: 0, Num: 5}, num(mostSet + 1), num(-mostSet - 1), num(leastInt), num(greatestInt)}
	for _, name := range wrongNames() {
		list = append(list, ref(name))
	}
	return list
}

// someValue is a number of at least so much, or one of the parameters whose Low is that, too.
func someValue(chance *rand.Rand, list []impl.Param, least int64) impl.Value {
	if len(list) > 0 && chance.Intn(3) == 0 {
		if p := list[chance.Intn(len(list))]; p.Low >= least {
			return ref(p.Name)
		}
	}
	return num(max(least, chance.Int63n(numbers(7, 300, 2*mostSet)[chance.Intn(3)])-3))
}

func someSettings(chance *rand.Rand, list []impl.Param, n int) []impl.Setting {
	var out []impl.Setting
	for _, i := range chance.Perm(8)[:n] {
		out = append(out, set(recipeNames()[i], someValue(chance, list, -mostSet)))
	}
	for i := range out {
		out[i].Value.Num = min(out[i].Value.Num, mostSet)
	}
	return out
}

// someRecipe has no fault, and at most so many parameters and steps.
func someRecipe(chance *rand.Rand, most int) impl.Recipe {
	r := recipe(recipeNames()[chance.Intn(8)], nil)
	for i := range chance.Intn(min(most, 20) + 1) {
		low := chance.Int63n(20) - 6
		high := low + chance.Int63n(30)
		r.Params = append(r.Params, param(recipeNames()[i%8]+strings.Repeat("q", i/8), low, high, low+chance.Int63n(high-low+1)))
	}
	for i := range r.Params {
		r.Params[i].Name = r.Params[i].Name[max(0, len(r.Params[i].Name)-16):]
	}
	fewest := numbersOf(0, 0, 6)[chance.Intn(3)]
	for i := range chance.Intn(min(most, 40) + 1) {
		list := someSettings(chance, r.Params, fewest+chance.Intn(9-fewest))
		r.Steps = append(r.Steps, recipeStep("s"+strconv.Itoa(i), someRecipeTime(chance, r.Params), list...))
	}
	return r
}

// someTurned is a recipe with other times and settings, the same names, parameters and steps.
func someTurned(chance *rand.Rand, r impl.Recipe) impl.Recipe {
	r = copyRecipe(r)
	for i := range r.Steps {
		s := &r.Steps[i]
		if chance.Intn(3) == 0 {
			s.Time = someRecipeTime(chance, r.Params)
		}
		switch chance.Intn(4) {
		case 0:
			s.Settings = someSettings(chance, r.Params, chance.Intn(9))
		case 1:
			chance.Shuffle(len(s.Settings), func(a int, b int) { s.Settings[a], s.Settings[b] = s.Settings[b], s.Settings[a] })
		case 2:
			s.Settings = s.Settings[:chance.Intn(len(s.Settings)+1)]
		}
	}
	return r
}

func someRecipeTime(chance *rand.Rand, list []impl.Param) impl.Value {
	time := someValue(chance, list, 0)
	time.Num = min(time.Num, mostSet)
	return time
}

// fullRecipe has as much as there may be: its text is longer than a text may be.
func fullRecipe() impl.Recipe {
	r := recipe("full", nil)
	for i := range 20 {
		r.Params = append(r.Params, param("p"+strconv.Itoa(i), -mostSet, mostSet, mostSet))
	}
	for i := range 40 {
		s := recipeStep("s"+strconv.Itoa(i), num(mostSet))
		for k := range 8 {
			s.Settings = append(s.Settings, set("c"+strconv.Itoa(k), num(-mostSet)))
		}
		r.Steps = append(r.Steps, s)
	}
	return r
}

// longRecipe has no fault, and a text of just so many bytes, of 500 at least.
func longRecipe(bytes int) impl.Recipe {
	r := recipe("r", nil)
	for bytes-len(recipeTextWant(r)) > 60 {
		n := len(r.Steps)
		if n == 0 || len(r.Steps[n-1].Settings) == 8 {
			r.Steps = append(r.Steps, recipeStep("s"+strconv.Itoa(n), num(1)))
			continue
		}
		s := &r.Steps[n-1]
		s.Settings = append(s.Settings, set("c"+strconv.Itoa(len(s.Settings)), num(100000)))
	}
	for i := 0; len(recipeTextWant(r)) < bytes; i++ {
		r.Steps[i].Name += strings.Repeat("x", min(10, bytes-len(recipeTextWant(r))))
	}
	return r
}
