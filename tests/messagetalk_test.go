package tests

import (
	"math/rand"
	"slices"
	"testing"

	"loop.example/g00057/impl"
)

func checkTalkStep(t *testing.T, was impl.Talk, event int64, now impl.Talk, say bool) {
	t.Helper()
	if got, want := impl.TalkStep(was, event), (impl.TalkResult{Talk: now, Say: say}); got != want {
		t.Errorf("TalkStep(%v, %d) = %v, want %v", was, event, got, want)
	}
}

func TestTalkStepByHand(t *testing.T) {
	for _, c := range []struct {
		was   impl.Talk
		event int64
		now   impl.Talk
		say   bool
	}{
		{talk(0, 0, 0), impl.EventSend, talk(1, 1, 0), true},
		{talk(0, 0, 0), impl.EventAck, talk(0, 0, 0), false},
		{talk(0, 0, 0), impl.EventNak, talk(0, 0, 0), false},
		{talk(0, 0, 0), impl.EventTick, talk(0, 0, 0), false},
		{talk(1, 1, 0), impl.EventSend, talk(1, 1, 0), false},
		{talk(1, 1, 0), impl.EventAck, talk(2, 1, 0), false},
		{talk(1, 3, 2), impl.EventAck, talk(2, 3, 2), false},
		{talk(1, 1, 0), impl.EventNak, talk(1, 2, 0), true},
		{talk(1, 1, 2), impl.EventNak, talk(1, 2, 0), true},
		{talk(1, 2, 1), impl.EventNak, talk(1, 3, 0), true},
		{talk(1, 3, 0), impl.EventNak, talk(3, 3, 0), false},
		{talk(1, 3, 1), impl.EventNak, talk(3, 3, 1), false},
		{talk(1, 1, 0), impl.EventTick, talk(1, 1, 1), false},
		{talk(1, 1, 1), impl.EventTick, talk(1, 1, 2), false},
		{talk(1, 1, 2), impl.EventTick, talk(1, 2, 0), true},
		{talk(1, 2, 2), impl.EventTick, talk(1, 3, 0), true},
		{talk(1, 3, 1), impl.EventTick, talk(1, 3, 2), false},
		{talk(1, 3, 2), impl.EventTick, talk(3, 3, 2), false},
		{talk(2, 1, 0), impl.EventSend, talk(2, 1, 0), false},
		{talk(3, 3, 2), impl.EventSend, talk(3, 3, 2), false},
	} {
		checkTalkStep(t, c.was, c.event, c.now, c.say)
		if want := talkWant(c.was, c.event); want != (impl.TalkResult{Talk: c.now, Say: c.say}) {
			t.Errorf("%v, %d: the plain reckoning answers %v", c.was, c.event, want)
		}
	}
}

// Talks that do not come about are answered, too.
func TestTalkStepOfOtherTalks(t *testing.T) {
	ends := numbers(leastInt, leastInt+1, -1, 0, 1, 2, 3, 4, 5, greatestInt-1, greatestInt)
	for _, n := range ends {
		for _, k := range ends {
			checkTalkStep(t, talk(0, n, k), impl.EventSend, talk(1, 1, 0), true)
			checkTalkStep(t, talk(1, n, k), impl.EventAck, talk(2, n, k), false)
			if n < 3 {
				checkTalkStep(t, talk(1, n, k), impl.EventNak, talk(1, n+1, 0), true)
			} else {
				checkTalkStep(t, talk(1, n, k), impl.EventNak, talk(3, n, k), false)
			}
			switch {
			case k < 2:
				checkTalkStep(t, talk(1, n, k), impl.EventTick, talk(1, n, k+1), false)
			case n < 3:
				checkTalkStep(t, talk(1, n, k), impl.EventTick, talk(1, n+1, 0), true)
			default:
				checkTalkStep(t, talk(1, n, k), impl.EventTick, talk(3, n, k), false)
			}
		}
	}
}

// Of every other event, and in every other phase, nothing changes.
func TestTalkStepThatChangesNothing(t *testing.T) {
	for _, phase := range messageEnds() {
		for _, event := range messageEnds() {
			for _, was := range []impl.Talk{talk(phase, 0, 0), talk(phase, 2, 1), talk(phase, 3, 2), talk(phase, greatestInt, leastInt), talk(phase, leastInt, greatestInt)} {
				if phase == 0 && event == 1 || phase == 1 && event >= 2 && event <= 4 {
					if got := impl.TalkStep(was, event); got != talkWant(was, event) || got == (impl.TalkResult{Talk: was}) {
						t.Errorf("TalkStep(%v, %d) = %v", was, event, got)
					}
					continue
				}
				checkTalkStep(t, was, event, was, false)
			}
		}
	}
}

func TestTalkStepOfAllSmallTalks(t *testing.T) {
	for number := range 13 * 13 * 13 * 13 {
		was, event := talk(int64(number%13)-4, int64(number/13%13)-4, int64(number/169%13)-4), int64(number/2197)-4
		if got, want := impl.TalkStep(was, event), talkWant(was, event); got != want {
			t.Fatalf("TalkStep(%v, %d) = %v, want %v", was, event, got, want)
		}
	}
}

func TestRunTalkByHand(t *testing.T) {
	checkTalkRun(t, nil, impl.TalkRun{})
	checkTalkRun(t, numbers(), impl.TalkRun{})
	checkTalkRun(t, numbers(1), impl.TalkRun{Talk: talk(1, 1, 0), Says: numbers(0)})
	checkTalkRun(t, numbers(1, 2), impl.TalkRun{Talk: talk(2, 1, 0), Says: numbers(0)})
	checkTalkRun(t, numbers(2, 3, 4, 0, 5, 1, 1, 2, 1), impl.TalkRun{Talk: talk(2, 1, 0), Says: numbers(5)})
	checkTalkRun(t, numbers(1, 4, 4, 4, 3, 2), impl.TalkRun{Talk: talk(2, 3, 0), Says: numbers(0, 3, 4)})
	checkTalkRun(t, numbers(1, 3, 3, 3), impl.TalkRun{Talk: talk(3, 3, 0), Says: numbers(0, 1, 2)})
	checkTalkRun(t, numbers(1, 4, 4, 4, 4, 4, 4, 4, 4, 4), impl.TalkRun{Talk: talk(3, 3, 2), Says: numbers(0, 3, 6)})
	checkTalkRun(t, numbers(1, 4, 4, 4, 4, 4, 4, 4, 4, 2), impl.TalkRun{Talk: talk(2, 3, 2), Says: numbers(0, 3, 6)})
	checkTalkRun(t, numbers(1, 4, 4, 3, 4, 4, 4), impl.TalkRun{Talk: talk(1, 3, 0), Says: numbers(0, 3, 6)})
	checkTalkRun(t, numbers(1, 3, 3, 3, 1, 2, 3, 4), impl.TalkRun{Talk: talk(3, 3, 0), Says: numbers(0, 1, 2)})
}

func TestRunTalkOfManyEvents(t *testing.T) {
	for _, n := range numbersOf(198, 199, 200, 201, 202, 100000) {
		events := make([]int64, n)
		events[min(n, 200)-1] = impl.EventSend
		want := impl.TalkRun{Code: impl.ErrMany}
		if n <= 200 {
			want = impl.TalkRun{Talk: talk(1, 1, 0), Says: numbers(int64(n) - 1)}
		}
		checkTalkRun(t, events, want)
		ticks := append(numbers(1), longer(numbers(4), n-1)...)
		checkTalkRun(t, ticks, talkRunWant(ticks))
	}
}

// checkTalkEnds: it says a thing three times at most, and nothing once it has ended.
func checkTalkEnds(t *testing.T, events []int64) impl.TalkRun {
	t.Helper()
	got := impl.RunTalk(events)
	if want := talkRunWant(events); !sameTalkRun(got, want) {
		t.Fatalf("RunTalk(%v) = %v, want %v", events, got, want)
	}
	sent := slices.Index(events, impl.EventSend)
	if len(got.Says) > 3 || int64(len(got.Says)) != got.Talk.Tries || (sent < 0) != (len(got.Says) == 0) || got.Talk.Wait < 0 || got.Talk.Wait > 2 || !slices.IsSorted(got.Says) {
		t.Fatalf("RunTalk(%v) = %v", events, got)
	}
	if sent >= 0 && got.Says[0] != int64(sent) {
		t.Fatalf("RunTalk(%v) = %v, it says nothing at %d", events, got, sent)
	}
	return got
}

func TestRunTalkOfAllShortTalks(t *testing.T) {
	met := map[int64]int{}
	for n := range 8 {
		events := make([]int64, n)
		for number := range power(6, n) {
			for i := range events {
				events[i] = int64(number % 6)
				number /= 6
			}
			met[checkTalkEnds(t, events).Talk.Phase]++
		}
	}
	for _, phase := range numbers(impl.TalkIdle, impl.TalkSent, impl.TalkDone, impl.TalkFailed) {
		if met[phase] < 1000 {
			t.Errorf("the phases are %v", met)
		}
	}
}

// Of what may come to a talk that was sent, nine events at most end it.
func TestTalksEnd(t *testing.T) {
	longest := 0
	for number := range power(3, 9) {
		events := numbers(impl.EventSend)
		for range 9 {
			events = append(events, numbers(impl.EventAck, impl.EventNak, impl.EventTick)[number%3])
			number /= 3
		}
		got := checkTalkEnds(t, events)
		if got.Talk.Phase != impl.TalkDone && got.Talk.Phase != impl.TalkFailed {
			t.Fatalf("RunTalk(%v) = %v, which has not ended", events, got)
		}
		longest += int(bit(impl.RunTalk(events[:9]).Talk.Phase == impl.TalkSent))
	}
	// Two ticks, and a third one or EventNak, twice; two ticks; and then any of the three.
	if longest != 2*2*3 {
		t.Errorf("%d talks need nine events to end", longest)
	}
}

// An event behind the end changes nothing; what was said is said of the beginning, too.
func TestRunTalkOfSomeEvents(t *testing.T) {
	chance, met := rand.New(rand.NewSource(209)), map[int64]int{}
	for range 4000 {
		events := someEvents(chance, chance.Intn(203))
		if len(events) > 200 {
			checkTalkRun(t, events, impl.TalkRun{Code: impl.ErrMany})
			continue
		}
		whole := checkTalkEnds(t, events)
		met[whole.Talk.Phase]++
		cut := chance.Intn(len(events) + 1)
		first := checkTalkEnds(t, events[:cut])
		if !slices.Equal(whole.Says[:len(first.Says)], first.Says) {
			t.Fatalf("%v says %v, of the first %d %v", events, whole.Says, cut, first.Says)
		}
		if first.Talk.Phase >= impl.TalkDone && !sameTalkRun(first, whole) {
			t.Fatalf("%v ended as %v and goes on to %v", events, first, whole)
		}
	}
	for _, phase := range numbers(impl.TalkDone, impl.TalkFailed) {
		if met[phase] < 100 {
			t.Errorf("the phases are %v", met)
		}
	}
}
