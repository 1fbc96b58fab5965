package tests

import (
	"math/rand"
	"slices"
	"strings"
	"testing"

	"loop.example/g00057/impl"
)

// toolAsk has what the calls of chapter 19 are given; each takes what it needs.
type toolAsk struct {
	t      impl.Tool
	e      impl.ToolEvent
	events []impl.ToolEvent
	r      impl.Recipe
	log    impl.ToolLog
}

// toolAnswer has what a call answers, and else nothing.
type toolAnswer struct {
	fault impl.ShapeInt
	holds bool
	made  impl.ToolResult
	log   impl.ToolLog
}

type toolCall = callLike[toolAsk, toolAnswer]

// toolCalls stand beside what the plain reckoning answers.
func toolCalls() []toolCall {
	return []toolCall{
		{"ToolFault",
			func(q toolAsk) toolAnswer { return toolAnswer{fault: valueCode(impl.ToolFault(q.t))} },
			func(q toolAsk) toolAnswer { return toolAnswer{fault: valueCode(toolFaultWant(q.t))} }},
		{"IsApproved",
			func(q toolAsk) toolAnswer { return toolAnswer{holds: impl.IsApproved(q.t, q.e.Recipe, q.e.Sum)} },
			func(q toolAsk) toolAnswer { return toolAnswer{holds: approvedWant(q.t, q.e.Recipe, q.e.Sum)} }},
		{"ToolAct",
			func(q toolAsk) toolAnswer { return toolAnswer{made: impl.ToolAct(q.t, q.e)} },
			func(q toolAsk) toolAnswer { return toolAnswer{made: actWant(q.t, q.e)} }},
		{"RunTool",
			func(q toolAsk) toolAnswer { return toolAnswer{log: impl.RunTool(q.t, q.events)} },
			func(q toolAsk) toolAnswer { return toolAnswer{log: runToolWant(q.t, q.events)} }},
		{"ApproveRecipe",
			func(q toolAsk) toolAnswer { return toolAnswer{made: impl.ApproveRecipe(q.t, q.r)} },
			func(q toolAsk) toolAnswer { return toolAnswer{made: approveWant(q.t, q.r)} }},
		{"RecoverTool",
			func(q toolAsk) toolAnswer { return toolAnswer{made: impl.RecoverTool(q.t)} },
			func(q toolAsk) toolAnswer { return toolAnswer{made: recoverWant(q.t)} }},
		{"CheckRuns",
			func(q toolAsk) toolAnswer { return toolAnswer{holds: impl.CheckRuns(q.t, q.log)} },
			func(q toolAsk) toolAnswer { return toolAnswer{holds: checkRunsWant(q.t, q.log)} }},
	}
}

// toolMaps say what becomes of each kind of list; what becomes of a recipe is said by itself.
type toolMaps struct {
	ofApprovals func([]impl.Approval) []impl.Approval
	ofEvents    func([]impl.ToolEvent) []impl.ToolEvent
	ofNumbers   func([]int64) []int64
	ofRecipe    func(impl.Recipe) impl.Recipe
}

// mapped has the lists of an ask as the functions answer them.
func (q toolAsk) mapped(of toolMaps) toolAsk {
	q.t.Approved, q.log.Tool.Approved, q.log.Runs = of.ofApprovals(q.t.Approved), of.ofApprovals(q.log.Tool.Approved), of.ofApprovals(q.log.Runs)
	q.events, q.log.Codes, q.r = of.ofEvents(q.events), of.ofNumbers(q.log.Codes), of.ofRecipe(q.r)
	return q
}

func (q toolAsk) copied() toolAsk {
	q.t.Recipe, q.e.Recipe = strings.Clone(q.t.Recipe), strings.Clone(q.e.Recipe)
	return q.mapped(toolMaps{slices.Clone[[]impl.Approval], slices.Clone[[]impl.ToolEvent], slices.Clone[[]int64], copyRecipe})
}

// roomed has room behind each list, and each within it, which no call may write into.
func (q toolAsk) roomed() toolAsk {
	ofRecipe := func(r impl.Recipe) impl.Recipe { return recipeAsk{a: r}.roomed().a }
	return q.mapped(toolMaps{roomFor(approval("room", 77)), roomFor(loadOf("room", 77)), roomFor(int64(77)), ofRecipe})
}

// wholly has what lies behind the ends of the lists, too; it is a copy.
func (q toolAsk) wholly() toolAsk {
	ofRecipe := func(r impl.Recipe) impl.Recipe { return recipeAsk{a: r}.wholly().a }
	return q.mapped(toolMaps{wholeCopy[impl.Approval], wholeCopy[impl.ToolEvent], wholeCopy[int64], ofRecipe})
}

func (q toolAsk) same(p toolAsk) bool {
	return sameTool(q.t, p.t) && q.e == p.e && slices.Equal(q.events, p.events) && sameRecipe(q.r, p.r) && sameLog(q.log, p.log)
}

func scribbleLog(log impl.ToolLog) {
	scribbleAll(log.Tool.Approved, approval("scribble", -5))
	scribbleAll(log.Runs, approval("scribble", -6))
	scribbleAll(log.Codes, -7)
}

func (q toolAsk) scribble() {
	scribbleAll(q.t.Approved, approval("scribble", -5))
	scribbleAll(q.events, loadOf("scribble", -5))
	scribbleRecipe(q.r)
	scribbleLog(q.log)
}

func (a toolAnswer) same(b toolAnswer) bool {
	return a.fault == b.fault && a.holds == b.holds && sameMadeTool(a.made, b.made) && sameLog(a.log, b.log)
}

func (a toolAnswer) scribble() {
	scribbleAll(a.made.Tool.Approved, approval("scribble", -5))
	scribbleLog(a.log)
}

func (a toolAnswer) code() int64 {
	return a.fault.Code + a.made.Code + a.log.Code
}

func (a toolAnswer) zeroed() bool {
	return a.fault.Value == 0 && !a.holds && sameMadeTool(a.made, toolCode(a.made.Code)) && sameLog(a.log, logCode(a.log.Code))
}

// rightToolAsk has no fault, but that what comes may have a code.
func rightToolAsk(chance *rand.Rand, i int) toolAsk {
	q := toolAsk{t: someTool(chance), r: someRecipe(chance, numbersOf(3, 9)[i%2])}
	q.e, q.events = someToolEvent(chance, q.t), someToolEvents(chance, q.t, chance.Intn(numbersOf(8, 201)[i/2%2]))
	q.log = runToolWant(q.t, q.events)
	return q
}

// someToolAsks are right and wrong ones, the same at every run.
func someToolAsks(n int) []toolAsk {
	chance, ends := rand.New(rand.NewSource(220)), toolEnds()
	end := func() int64 { return ends[chance.Intn(len(ends))] }
	var asks []toolAsk
	for i := range n {
		q := rightToolAsk(chance, i)
		switch i % 7 {
		case 1:
			q.t = spoiledTool(chance, q.t)
		case 2:
			q.r = spoiledRecipe(chance, q.r)
		case 3:
			q.e, q.log.Code = impl.ToolEvent{Kind: end(), Recipe: wrongNames()[chance.Intn(12)], Sum: end()}, end()
		case 4:
			q.events = someToolEvents(chance, q.t, 199+chance.Intn(4))
		case 5:
			q.e.Kind, q.e.Sum = impl.ToolLoad, end()
			q.log.Runs = append(q.log.Runs, approval(toolNames()[chance.Intn(6)], end()))
		case 6:
			if hasRecipe(q.t.State) {
				q.t = withRecipe(q.t, "", 0)
			}
			q.t.State = chance.Int63n(9) - 1
		}
		asks = append(asks, q)
	}
	return append(asks, toolAsk{}, greatToolAsk(), fullToolAsk())
}

// greatToolAsk has far too much of all.
func greatToolAsk() toolAsk {
	q := toolAsk{t: tool(greatestInt, leastInt, greatestInt, true, manyApproved(1000)...), r: greatRecipeAsk().b}
	q.e, q.events = loadOf(strings.Repeat("e", 10000), leastInt), make([]impl.ToolEvent, 10000)
	q.log = toolLog(q.t, make([]int64, 10000), make([]impl.Approval, 10000)...)
	return q
}

// fullToolAsk has as much as there may be.
func fullToolAsk() toolAsk {
	q := toolAsk{t: tool(impl.ToolIdle, 0, 1000, true, manyApproved(20)...), e: loadOf("r19", 119), r: longRecipe(4000)}
	q.events = longer(oneRun("r19", 119), 200)
	q.log = runToolWant(q.t, q.events)
	return q
}

func TestEveryToolAskIsAnswered(t *testing.T) {
	checkSteady(t, someToolAsks(1000), toolCalls())
}

func TestEveryToolAskIsAnsweredRightly(t *testing.T) {
	answers := checkRightly(t, someToolAsks(2000), toolCalls())
	ran := func(a toolAnswer) bool { return len(a.log.Runs) > 1 }
	checkCodesMet(t, answers, ran, impl.OK, impl.ErrForm, impl.ErrMany, impl.ErrRange, impl.ErrNone, impl.ErrText, impl.ErrTaken)
}

func TestZeroBesideACodeOfTools(t *testing.T) {
	checkZeroed(t, someToolAsks(2000), toolCalls())
}

func TestToolsAnswerNewMemory(t *testing.T) {
	checkNewMemory(t, someToolAsks(1000), toolCalls())
}

// The approvals of a log's tool and its runs, and the room behind them, are each their own.
func TestListsOfLogsAreApart(t *testing.T) {
	for _, q := range someToolAsks(400) {
		log := impl.RunTool(q.t, q.events)
		checkApart(t, brief(q), [][]impl.Approval{log.Tool.Approved, log.Runs}, approval("scribble", -5), slices.Equal[[]impl.Approval])
	}
}

func TestToolsKeepNothing(t *testing.T) {
	checkKeepsNothing(t, someToolAsks(150), toolCalls())
}

// checkTurnedTools asks every call with a plain ask of each state in which one of so many things is turned.
func checkTurnedTools(t *testing.T, things int, turn func(q *toolAsk, i int)) {
	t.Helper()
	var asks []toolAsk
	for i := range things {
		for _, state := range toolStates() {
			q := toolAsk{t: copyTool(plainTool(state)), e: loadOf("etch", 5), events: oneRun("strip", -7), r: etchRecipe()}
			q.log = toolLog(plainTool(state), numbers(0, 0), approval("etch", 5), approval("strip", -7))
			turn(&q, i)
			asks = append(asks, q)
		}
	}
	checkRightly(t, asks, toolCalls())
	checkSteady(t, asks, toolCalls())
}

// Every end stands once in each place where a number is given.
func TestEveryEndOfTools(t *testing.T) {
	for _, n := range toolEnds() {
		checkTurnedTools(t, 10, func(q *toolAsk, i int) {
			*[]*int64{&q.t.State, &q.t.Sum, &q.t.Runs, &q.t.Limit, &q.t.Approved[0].Sum, &q.e.Kind, &q.e.Sum, &q.events[1].Kind, &q.log.Code, &q.log.Runs[1].Sum}[i] = n
		})
	}
}

// Every name, right and wrong, stands once in each place where a text is given.
func TestEveryNameOfTools(t *testing.T) {
	for _, name := range append(wrongNames(), toolNames()...) {
		checkTurnedTools(t, 7, func(q *toolAsk, i int) {
			*[]*string{&q.t.Recipe, &q.t.Approved[0].Recipe, &q.t.Approved[1].Recipe, &q.e.Recipe, &q.events[0].Recipe, &q.r.Name, &q.log.Runs[0].Recipe}[i] = name
		})
	}
}

func TestNoToolIsNoTool(t *testing.T) {
	bare := toolAsk{t: tool(1, 0, 1, true), e: loadOf("a", 1), r: recipe("a", nil)}
	empty := toolAsk{t: tool(1, 0, 1, true, approvals()...), e: loadOf("a", 1), events: toolEvents(), r: recipe("a", params(), []impl.RecipeStep{}...)}
	empty.log = toolLog(impl.Tool{Approved: approvals()}, numbers(), approvals()...)
	none := empty
	none.t, none.e, none.r = impl.Tool{Approved: approvals()}, impl.ToolEvent{}, recipe("", params(), []impl.RecipeStep{}...)
	checkNoneIsNone(t, [][2]toolAsk{{bare, empty}, {{}, none}}, toolCalls())
}
