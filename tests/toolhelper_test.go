package tests

import (
	"math/rand"
	"slices"
	"strconv"
	"strings"
	"testing"

	"loop.example/g00057/impl"
)

func approval(recipe string, sum int64) impl.Approval {
	return impl.Approval{Recipe: recipe, Sum: sum}
}

func approvals(list ...impl.Approval) []impl.Approval {
	return list
}

// manyApproved are so many approvals without a fault: r0 with the sum 100, r1 with 101, ..
func manyApproved(n int) []impl.Approval {
	var list []impl.Approval
	for i := range n {
		list = append(list, approval("r"+strconv.Itoa(i), int64(100+i)))
	}
	return list
}

func tool(state int64, runs int64, limit int64, qualified bool, list ...impl.Approval) impl.Tool {
	return impl.Tool{State: state, Runs: runs, Limit: limit, Qualified: qualified, Approved: list}
}

func withRecipe(t impl.Tool, recipe string, sum int64) impl.Tool {
	t.Recipe, t.Sum = recipe, sum
	return t
}

// plainTool has no fault: one of three runs, Qualified, two recipes approved, of which it has the first where it has one.
func plainTool(state int64) impl.Tool {
	t := tool(state, 1, 3, true, approval("etch", 5), approval("strip", -7))
	if hasRecipe(state) {
		t = withRecipe(t, "etch", 5)
	}
	return t
}

func hasRecipe(state int64) bool {
	return state == 2 || state == 3
}

func toolStates() []int64 {
	return numbers(impl.ToolOff, impl.ToolIdle, impl.ToolReady, impl.ToolRunning, impl.ToolAlarm, impl.ToolDown, impl.ToolSafe)
}

func copyTool(t impl.Tool) impl.Tool {
	t.Approved = slices.Clone(t.Approved)
	return t
}

func toolOf(t impl.Tool) impl.ToolResult {
	return impl.ToolResult{Tool: t}
}

func toolCode(code int64) impl.ToolResult {
	return impl.ToolResult{Code: code}
}

func toolEvent(kind int64) impl.ToolEvent {
	return impl.ToolEvent{Kind: kind}
}

func loadOf(recipe string, sum int64) impl.ToolEvent {
	return impl.ToolEvent{Kind: impl.ToolLoad, Recipe: recipe, Sum: sum}
}

func toolEvents(list ...impl.ToolEvent) []impl.ToolEvent {
	return list
}

// oneRun are the events of a run from idle to idle.
func oneRun(recipe string, sum int64) []impl.ToolEvent {
	return toolEvents(loadOf(recipe, sum), toolEvent(impl.ToolStart), toolEvent(impl.ToolEnd))
}

func toolLog(t impl.Tool, codes []int64, runs ...impl.Approval) impl.ToolLog {
	return impl.ToolLog{Tool: t, Codes: codes, Runs: runs}
}

func logCode(code int64) impl.ToolLog {
	return impl.ToolLog{Code: code}
}

func sameTool(a impl.Tool, b impl.Tool) bool {
	return a.State == b.State && a.Recipe == b.Recipe && a.Sum == b.Sum && a.Runs == b.Runs && a.Limit == b.Limit && a.Qualified == b.Qualified &&
		slices.Equal(a.Approved, b.Approved)
}

func sameMadeTool(a impl.ToolResult, b impl.ToolResult) bool {
	return a.Code == b.Code && sameTool(a.Tool, b.Tool)
}

func sameLog(a impl.ToolLog, b impl.ToolLog) bool {
	return a.Code == b.Code && sameTool(a.Tool, b.Tool) && slices.Equal(a.Codes, b.Codes) && slices.Equal(a.Runs, b.Runs)
}

func checkTool(t *testing.T, what string, got impl.ToolResult, want impl.ToolResult) {
	t.Helper()
	if !sameMadeTool(got, want) {
		t.Errorf("%s: %s, want %s", what, brief(got), brief(want))
	}
}

func checkLog(t *testing.T, what string, got impl.ToolLog, want impl.ToolLog) {
	t.Helper()
	if !sameLog(got, want) {
		t.Errorf("%s: %s, want %s", what, brief(got), brief(want))
	}
}

// checkToolFault asks every call that tells the fault of a tool, too, with other faults beside it.
func checkToolFault(t *testing.T, what string, machine impl.Tool, code int64) {
	t.Helper()
	if got, want := impl.ToolFault(machine), toolFaultWant(machine); got != code || want != code {
		t.Errorf("%s, %s: the fault is %d, want %d (by the plain reckoning %d)", what, brief(machine), got, code, want)
	}
	if got := impl.CheckRuns(machine, impl.ToolLog{}); got != (code == impl.OK) {
		t.Errorf("%s, %s: CheckRuns of no runs is %t", what, brief(machine), got)
	}
	if code == impl.OK {
		checkLog(t, what, impl.RunTool(machine, nil), toolLog(machine, nil))
		return
	}
	for kind := int64(-1); kind <= 11; kind++ {
		checkTool(t, what+", acting", impl.ToolAct(machine, toolEvent(kind)), toolCode(code))
	}
	checkTool(t, what+", approving", impl.ApproveRecipe(machine, plainRecipe()), toolCode(code))
	checkTool(t, what+", approving none", impl.ApproveRecipe(machine, impl.Recipe{}), toolCode(code))
	checkTool(t, what+", approving too much", impl.ApproveRecipe(machine, fullRecipe()), toolCode(code))
	for _, n := range numbersOf(0, 1, 200, 201) {
		checkLog(t, what+", running", impl.RunTool(machine, make([]impl.ToolEvent, n)), logCode(code))
	}
}

func approvedWant(t impl.Tool, recipe string, sum int64) bool {
	found := false
	for _, a := range t.Approved {
		found = found || a.Recipe == recipe && a.Sum == sum
	}
	return found
}

// keptFaultWant is the fault of a tool whose state is not asked.
func keptFaultWant(t impl.Tool) int64 {
	var codes faults
	codes.wrong(impl.ErrRange, t.Limit < 1, t.Limit > 1000, t.Runs < 0, t.Runs > t.Limit)
	codes.wrong(impl.ErrMany, len(t.Approved) >= 21)
	names := map[string]int{}
	for _, a := range t.Approved {
		codes.found(nameWant(a.Recipe))
		codes.wrong(impl.ErrForm, names[a.Recipe] > 0)
		names[a.Recipe]++
	}
	return codes.first()
}

func toolFaultWant(t impl.Tool) int64 {
	var codes faults
	codes.wrong(impl.ErrForm, !slices.Contains(toolStates(), t.State))
	codes.found(keptFaultWant(t))
	if hasRecipe(t.State) {
		codes.wrong(impl.ErrForm, !approvedWant(t, t.Recipe, t.Sum), !t.Qualified, t.State == 3 && t.Runs == t.Limit)
	} else {
		codes.wrong(impl.ErrForm, t.Recipe != "", t.Sum != 0)
	}
	return codes.first()
}

// stateBehind has, for each event, the number of the state behind it for each state in which it comes; a dash: it may not come there.
func stateBehind(state int64, kind int64) byte {
	return []string{
		"1------",
		"-22----",
		"--3----",
		"---1---",
		"-444---",
		"----1--",
		"-5--5-5",
		"-----1-",
		"6666666",
	}[kind-1][state]
}

func actWant(t impl.Tool, e impl.ToolEvent) impl.ToolResult {
	if code := toolFaultWant(t); code != impl.OK {
		return toolCode(code)
	}
	if e.Kind < 1 || e.Kind > 9 {
		return toolCode(impl.ErrText)
	}
	var codes faults
	behind := stateBehind(t.State, e.Kind)
	codes.wrong(impl.ErrForm, behind == '-')
	codes.wrong(impl.ErrNone, e.Kind == 2 && !approvedWant(t, e.Recipe, e.Sum))
	codes.wrong(impl.ErrTaken, e.Kind == 2 && !t.Qualified)
	codes.wrong(impl.ErrMany, e.Kind == 3 && t.Runs == t.Limit)
	if len(codes) > 0 {
		return toolCode(codes.first())
	}
	out := withRecipe(copyTool(t), "", 0)
	out.State = int64(behind - '0')
	out.Runs = (t.Runs + bit(t.State == 3)) * bit(e.Kind != 8)
	out.Qualified = (t.Qualified || e.Kind == 8) && e.Kind != 7 && e.Kind != 9
	switch e.Kind {
	case 2:
		out = withRecipe(out, e.Recipe, e.Sum)
	case 3:
		out = withRecipe(out, t.Recipe, t.Sum)
	}
	return toolOf(out)
}

func runToolWant(t impl.Tool, events []impl.ToolEvent) impl.ToolLog {
	if code := toolFaultWant(t); code != impl.OK {
		return logCode(code)
	}
	if len(events) >= 201 {
		return logCode(impl.ErrMany)
	}
	log := toolLog(copyTool(t), nil)
	for _, e := range events {
		before, act := log.Tool, actWant(log.Tool, e)
		log.Codes = append(log.Codes, act.Code)
		if act.Code == impl.OK {
			log.Tool = act.Tool
		}
		// Nothing but a start leads to a running tool.
		if before.State != 3 && log.Tool.State == 3 {
			log.Runs = append(log.Runs, approval(before.Recipe, before.Sum))
		}
	}
	return log
}

func approveWant(t impl.Tool, r impl.Recipe) impl.ToolResult {
	sum := recipeSumWant(r)
	names := map[string]int{}
	for i, a := range t.Approved {
		names[a.Recipe] = i + 1
	}
	var codes faults
	codes.found(toolFaultWant(t))
	codes.found(sum.Code)
	codes.wrong(impl.ErrTaken, hasRecipe(t.State))
	codes.wrong(impl.ErrMany, names[r.Name] == 0 && len(t.Approved) == 20)
	if len(codes) > 0 {
		return toolCode(codes.first())
	}
	out := copyTool(t)
	if names[r.Name] == 0 {
		out.Approved = append(out.Approved, impl.Approval{})
		names[r.Name] = len(out.Approved)
	}
	out.Approved[names[r.Name]-1] = approval(r.Name, sum.Value)
	return toolOf(out)
}

func recoverWant(t impl.Tool) impl.ToolResult {
	if code := keptFaultWant(t); code != impl.OK {
		return toolCode(code)
	}
	out := impl.Tool{State: impl.ToolSafe, Runs: t.Runs, Limit: t.Limit, Approved: slices.Clone(t.Approved)}
	if t.State == 0 || t.State == 5 {
		out.State = t.State
	}
	out.Qualified = t.State == 0 && t.Qualified
	return toolOf(out)
}

func checkRunsWant(t impl.Tool, log impl.ToolLog) bool {
	good := log.Code == 0 && toolFaultWant(t) == impl.OK
	for _, run := range log.Runs {
		good = good && approvedWant(t, run.Recipe, run.Sum)
	}
	return good
}

// toolNames are few, so that they stand there twice now and then.
func toolNames() []string {
	return []string{"a", "etch", "strip", "_", "Z9_", strings.Repeat("w", 16)}
}

// toolEnds stand at and just beyond every bound that chapter 19 names, and at the ends of int64.
func toolEnds() []int64 {
	list := numbers(0, 1, 2, 3, 4, 5, 6, 7, 8, 9, 10, 11, 19, 20, 21, 199, 200, 201, 999, 1000, 1001, 998244352, 998244353, 1<<32, wide, 1<<62, greatestInt-1, greatestInt)
	for _, n := range list {
		list = append(list, -n)
	}
	return append(list, leastInt)
}

// someTool has no fault; its limit is low as often as not, and of its approvals some are those of someToolEvent.
func someTool(chance *rand.Rand) impl.Tool {
	limit := 1 + chance.Int63n(numbers(2, 4, 1000)[chance.Intn(3)])
	t := tool(chance.Int63n(7), chance.Int63n(limit+1), limit, chance.Intn(4) > 0, manyApproved(chance.Intn(15))...)
	for _, name := range toolNames()[chance.Intn(7):] {
		t.Approved = append(t.Approved, approval(name, chance.Int63n(3)-1))
	}
	if hasRecipe(t.State) && (len(t.Approved) == 0 || t.State == 3 && t.Runs == t.Limit) {
		t.State = numbers(0, 1, 4, 5, 6)[chance.Intn(5)]
	}
	if hasRecipe(t.State) {
		one := t.Approved[chance.Intn(len(t.Approved))]
		t = withRecipe(t, one.Recipe, one.Sum)
		t.Qualified = true
	}
	return t
}

// spoiledTool has one thing or two turned, wherever they stand.
func spoiledTool(chance *rand.Rand, t impl.Tool) impl.Tool {
	t, ends, wrong := copyTool(t), toolEnds(), wrongNames()
	for range 1 + chance.Intn(2) {
		end := ends[chance.Intn(len(ends))]
		switch chance.Intn(9) {
		case 0:
			*[]*int64{&t.State, &t.Runs, &t.Limit, &t.Sum}[chance.Intn(4)] = end
		case 1:
			t.State = chance.Int63n(9) - 1
		case 2:
			t.Approved = append(t.Approved, approval(wrong[chance.Intn(len(wrong))], end))
		case 3:
			t.Approved = append(t.Approved, approval(toolNames()[chance.Intn(6)], end))
		case 4:
			t.Approved = append(t.Approved, manyApproved(21)[:max(0, 19-len(t.Approved))+chance.Intn(3)]...)
		case 5:
			t.Recipe = append(toolNames(), wrong...)[chance.Intn(18)]
		case 6:
			t.Qualified = !t.Qualified
		case 7:
			t.Runs = t.Limit + chance.Int63n(3) - 1
		case 8:
			t.Approved = t.Approved[:chance.Intn(len(t.Approved)+1)]
		}
	}
	return t
}

// someToolEvent comes with what is approved, as often as not.
func someToolEvent(chance *rand.Rand, t impl.Tool) impl.ToolEvent {
	kinds := numbers(1, 1, 2, 2, 2, 2, 2, 2, 3, 3, 3, 3, 4, 4, 4, 4, 5, 6, 6, 7, 7, 8, 8, 8, 8, 9, 0, 10)
	e := impl.ToolEvent{Kind: kinds[chance.Intn(len(kinds))], Recipe: toolNames()[chance.Intn(6)], Sum: chance.Int63n(3) - 1}
	if len(t.Approved) > 0 && chance.Intn(3) > 0 {
		one := t.Approved[chance.Intn(len(t.Approved))]
		e.Recipe, e.Sum = one.Recipe, one.Sum
	}
	return e
}

func someToolEvents(chance *rand.Rand, t impl.Tool, n int) []impl.ToolEvent {
	var list []impl.ToolEvent
	for range n {
		list = append(list, someToolEvent(chance, t))
	}
	return list
}

// smallTools are all tools of few runs and approvals, with faults and without.
func smallTools() []impl.Tool {
	a, b := approval("a", 1), approval("b", 2)
	lists := [][]impl.Approval{nil, approvals(a), approvals(b, a), approvals(a, approval("a", 2)), approvals(approval("9", 1))}
	var tools []impl.Tool
	for number := range 9 * 4 * 4 * 2 * 3 * 3 * len(lists) {
		take := func(n int) int {
			one := number % n
			number /= n
			return one
		}
		t := tool(int64(take(9)-1), int64(take(4)-1), int64(take(4)), take(2) == 1, lists[take(len(lists))]...)
		tools = append(tools, withRecipe(t, []string{"", "a", "b"}[take(3)], int64(take(3))))
	}
	return tools
}
