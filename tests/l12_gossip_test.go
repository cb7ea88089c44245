package tests

import (
	"fmt"
	"math"
	"slices"
	"strings"
	"testing"

	"loop.example/g00365/impl"
)

func TestCodesAndLimitsOfCircles(t *testing.T) {
	got := []int{
		impl.MaxSay, impl.SuspectFor,
		impl.GoTick, impl.GoHear, impl.GoDrop, impl.GoDown, impl.GoUp, impl.GoLeave, impl.GoPush,
	}
	if want := []int{3, 6, 0, 1, 2, 3, 4, 5, 6}; !slices.Equal(got, want) {
		t.Fatalf("constants are %v, not %v", got, want)
	}
}

func TestMoveOk(t *testing.T) {
	kinds := map[int]bool{math.MinInt: false, impl.GoTick - 1: false, impl.GoPush + 1: false, math.MaxInt: false}
	for kind := impl.GoTick; kind <= impl.GoPush; kind++ {
		kinds[kind] = true
	}
	whos := map[int]bool{
		math.MinInt: false, -1: false, 0: true, 1: true, 6: true, impl.MaxMembers - 1: true, impl.MaxMembers: false, math.MaxInt: false,
	}
	numbers := map[int]bool{
		math.MinInt: false, -1: false, 0: true, 1: true, impl.MaxNum: true, impl.MaxNum + 1: false, math.MaxInt: false,
	}
	for kind, kindOk := range kinds {
		for who, whoOk := range whos {
			for i, iOk := range numbers {
				m, want := impl.Move{Kind: kind, Who: who, I: i}, kindOk && whoOk && iOk
				if impl.MoveOk(m) != want {
					t.Errorf("MoveOk(%v) is not %v", m, want)
				}
				for _, settle := range []bool{false, true} {
					if g := impl.Chat(3, 1, []impl.Move{m}, settle); g.Ok != want || !want && !same(g, impl.Gossip{}) {
						t.Errorf("Chat of %v is %v", m, g)
					}
				}
			}
		}
	}
}

func TestChatRefuses(t *testing.T) {
	good := circleOf(3, 1).ticks(0, 9).hears(3).drops(1).downs(1).ups(1).leaves(2).pushes(0, 1).script
	for _, n := range farNumbers {
		for _, seed := range []int{math.MinInt, -1, 0, 1, impl.MaxNum - 1, impl.MaxNum, impl.MaxNum + 1, math.MaxInt} {
			want := n >= 1 && n <= 6 && seed >= 0 && seed <= impl.MaxNum
			for _, script := range [][]impl.Move{nil, {}, good} {
				for _, settle := range []bool{false, true} {
					g := impl.Chat(n, seed, script, settle)
					if g.Ok != want || !want && !same(g, impl.Gossip{}) || want && (len(g.Tables) != n || len(g.Up) != n) {
						t.Errorf("Chat(%d, %d, .., %v) = %v", n, seed, settle, g)
					}
				}
			}
		}
	}
	for _, move := range []impl.Move{{}, {Kind: impl.GoHear}, {Kind: impl.GoPush, Who: 11, I: impl.MaxNum}} {
		for size, ok := range map[int]bool{0: true, 1: true, 299: true, 300: true, 301: false, 302: false, 1000: false} {
			for _, settle := range []bool{false, true} {
				g := impl.Chat(2, 1, slices.Repeat([]impl.Move{move}, size), settle)
				if g.Ok != ok || !ok && !same(g, impl.Gossip{}) {
					t.Errorf("Chat of %d moves is %v", size, g)
				}
			}
		}
	}
	for _, bad := range []impl.Move{
		{Kind: -1}, {Kind: 7}, {Who: -1}, {Who: impl.MaxMembers}, {I: -1}, {I: impl.MaxNum + 1},
		{Kind: impl.GoHear, Who: impl.MaxMembers}, {Kind: impl.GoDown, I: -1}, {Kind: impl.GoPush, I: impl.MaxNum + 1},
	} {
		for at := range good {
			script := slices.Clone(good)
			script[at] = bad
			if g := impl.Chat(3, 1, script, at%2 == 0); !same(g, impl.Gossip{}) {
				t.Errorf("Chat with %v at %d is %v", bad, at, g)
			}
		}
		long := slices.Repeat([]impl.Move{{}}, impl.MaxScript)
		long[impl.MaxScript-1] = bad
		if g := impl.Chat(1, 0, long, false); !same(g, impl.Gossip{}) {
			t.Errorf("Chat with %v as the last one is %v", bad, g)
		}
	}
	// What lies behind the script's length is not read.
	if g := impl.Chat(1, 1, []impl.Move{{}, {Kind: -1}}[:1], false); !g.Ok {
		t.Error("Chat reads behind the length")
	}
}

// mustChat plays the talk, and fails unless it goes as the model tells and keeps the promise.
func mustChat(t *testing.T, k talk, settle bool) impl.Gossip {
	t.Helper()
	g := k.chat(settle)
	if want := modelChat(k.n, k.seed, k.script, settle); !same(g, want) {
		t.Fatalf("%v, settle %v:\n%s, %d rounds, and not\n%s, %d rounds", k, settle, gossipText(g), g.Rounds, gossipText(want), want.Rounds)
	}
	mustBeACircle(t, k, g)
	if settle {
		mustSayTheSame(t, k, g)
	} else if g.Rounds != 0 {
		t.Fatalf("%v: %d rounds without settling", k, g.Rounds)
	}
	return g
}

func mustBeACircle(t *testing.T, k talk, g impl.Gossip) {
	t.Helper()
	if !g.Ok || len(g.Tables) != k.n || len(g.Up) != k.n || g.Net < 0 || g.Net > impl.MaxNet || g.Rounds < 0 || g.Rounds > 200 {
		t.Fatalf("%v: %+v", k, g)
	}
	for id, x := range g.Tables {
		if !modelTableOk(x) || x.Self != id || len(x.Members) != k.n {
			t.Fatalf("%v: %d has %s", k, id, tableText(x))
		}
	}
}

// Promise 18.
func mustSayTheSame(t *testing.T, k talk, g impl.Gossip) {
	t.Helper()
	if g.Net != 0 || (g.Rounds < 200) != saysTheSame(g) || oneStays(g) && g.Rounds >= 200 {
		t.Fatalf("%v settled: %s, %d rounds", k, gossipText(g), g.Rounds)
	}
}

type chatted struct {
	what string
	k    talk
	want string
}

func mustBeSaid(t *testing.T, list []chatted) {
	t.Helper()
	for _, c := range list {
		if got := gossipText(mustChat(t, c.k, false)); got != c.want {
			t.Errorf("%s: %q, not %q", c.what, got, c.want)
		}
	}
}

func TestNewCircles(t *testing.T) {
	mustBeSaid(t, []chatted{
		{"one", circleOf(1, 0), "a; 0"},
		{"two", circleOf(2, impl.MaxNum), "aa aa; 0"},
		{"six", circleOf(6, 5), "aaaaaa aaaaaa aaaaaa aaaaaa aaaaaa aaaaaa; 0"},
		{"one asks nobody", circleOf(1, 0).ticks(0, 20).pushes(0, 0).pushes(0, 1), "a; 0"},
		{"one leaves", circleOf(1, 0).leaves(0), "l; 0"},
		{"one goes", circleOf(1, 0).downs(0), "-a; 0"},
	})
	for n := 1; n <= 6; n++ {
		want := impl.Gossip{Ok: true}
		for id := range n {
			want.Tables, want.Up = append(want.Tables, tableOf(id, "0a0 1a0 2a0 3a0 4a0 5a0"[:4*n-1])), append(want.Up, true)
		}
		for _, seed := range []int{0, 1, impl.MaxNum - 1, impl.MaxNum} {
			if g := impl.Chat(n, seed, nil, false); !same(g, want) {
				t.Errorf("%d with seed %d begin as %+v", n, seed, g)
			}
		}
	}
}

// doubted answers whom a member suspects, one behind the other, while nobody hears it.
func doubted(t *testing.T, n, seed, who int) []int {
	t.Helper()
	var all []int
	for len(all) < n-1 {
		g := mustChat(t, circleOf(n, seed).ticks(who, 7*(len(all)+1)), false)
		for _, m := range g.Tables[who].Members {
			if m.State != impl.MbAlive && !slices.Contains(all, m.Id) {
				all = append(all, m.Id)
			}
		}
		if len(g.Tables[who].Members) != n || len(all) == 0 {
			t.Fatalf("%d of %d with seed %d: %s", who, n, seed, tableText(g.Tables[who]))
		}
	}
	return all
}

// A prober's seed is seed + its number modulo MaxNum: the rounds that are drawn with it.
func TestSeedsOfProbers(t *testing.T) {
	for seed, want := range map[int]string{
		0:               "45312 53024 15430 51042 32105 30241",
		1:               "53124 25430 51043 42105 30251 40123",
		7:               "25341 54023 04135 50241 25103 43210",
		impl.MaxNum - 6: "13452 02534 31540 54102 32015 03421",
		impl.MaxNum - 3: "54213 43025 04531 45201 52013 14320",
		impl.MaxNum - 1: "14532 45302 53014 15420 51032 32104",
		impl.MaxNum:     "45312 53024 15430 51042 32105 30241",
	} {
		var rounds []string
		for who := range 6 {
			rounds = append(rounds, strings.Join(strings.Fields(strings.Trim(fmt.Sprint(doubted(t, 6, seed, who)), "[]")), ""))
		}
		mustBe(t, fmt.Sprintf("seed %d", seed), strings.Join(rounds, " "), want)
	}
}

// Two of a circle: 0 asks 1 at its first tick, and is at a loss for help at its third; 1 does not hear it unless it is told so.
func TestOneAsksTheOther(t *testing.T) {
	two := circleOf(2, 0)
	mustBeSaid(t, []chatted{
		{"a question", two.ticks(0, 1), "aa aa; 1"},
		{"waiting", two.ticks(0, 2), "aa aa; 1"},
		{"nobody to help", two.ticks(0, 3), "aa aa; 1"},
		{"still waiting", two.ticks(0, 6), "aa aa; 1"},
		{"no answer", two.ticks(0, 7), "as aa; 1"},
		{"asked again", two.ticks(0, 8), "as aa; 2"},
		{"the last moment", two.ticks(0, 12), "as aa; 2"},
		{"buried", two.ticks(0, 13), "ad aa; 2"},
		{"nobody left to ask", two.ticks(0, 40), "ad aa; 2"},
		{"an answer", two.ticks(0, 1).hears(1), "aa aa; 1"},
		{"answered", two.ticks(0, 1).hears(2), "aa aa; 0"},
		{"asked anew", two.ticks(0, 1).hears(2).ticks(0, 1), "aa aa; 1"},
		{"a question that is dropped", two.ticks(0, 1).drops(1).ticks(0, 6), "as aa; 0"},
		{"an answer that is dropped", two.ticks(0, 1).hears(1).drops(1).ticks(0, 6), "as aa; 0"},
		{"answered at the last moment", two.ticks(0, 6).hears(2).ticks(0, 1), "aa aa; 1"},
		{"answered while it is helped", two.ticks(0, 3).hears(2).ticks(0, 7), "as aa; 1"},
		{"an answer that comes late, of one that knows of nothing", two.ticks(0, 7).hears(2), "as aa; 0"},
		{"a late answer is no answer", two.ticks(0, 7).hears(1).ticks(0, 1).dropsAt(1).hears(1), "as aa; 0"},
		{"the other one asks", two.ticks(1, 7), "aa sa; 1"},
		{"both ask", two.ticks(0, 1).ticks(1, 1), "aa aa; 2"},
		{"both answer", two.ticks(0, 1).ticks(1, 1).hears(4), "aa aa; 0"},
	})
}

// Who is said to be suspect says that it lives, in a new life, and is heard.
func TestOneSaysThatItLives(t *testing.T) {
	two := circleOf(2, 0)
	doubts := two.ticks(0, 7).drops(1).ticks(0, 1)
	buried := two.ticks(0, 7).drops(1).ticks(0, 6)
	mustBeSaid(t, []chatted{
		{"doubted, and asked", doubts, "as aa; 1"},
		{"a new life", doubts.hears(1), "as aa1; 1"},
		{"heard", doubts.hears(2), "aa1 aa1; 0"},
		{"and answered", doubts.hears(2).ticks(0, 1), "aa1 aa1; 1"},
		{"doubted again", doubts.hears(2).ticks(0, 7), "as1 aa1; 1"},
		{"buried, and asked ahead of it", buried, "ad aa; 1"},
		{"a life from a question ahead of it", buried.hears(2), "aa1 aa1; 0"},
		{"buried, and not told", buried.drops(1), "ad aa; 0"},
		{"buried, and asking", buried.drops(1).ticks(1, 1), "ad aa; 1"},
		{"told that it is dead", buried.drops(1).ticks(1, 1).hears(2), "ad aa1; 0"},
		{"lives again", buried.drops(1).ticks(1, 1).hears(2).ticks(1, 1).hears(1), "aa1 aa1; 1"},
	})
}

func TestHearingAndDropping(t *testing.T) {
	two, six := circleOf(2, 0), circleOf(6, 0)
	mustBeSaid(t, []chatted{
		{"nothing to hear", two.hears(1).hearsAt(7).hearsAt(impl.MaxNum), "aa aa; 0"},
		{"nothing to drop", two.drops(1).dropsAt(3).dropsAt(impl.MaxNum), "aa aa; 0"},
		{"dropped", two.ticks(0, 1).drops(1), "aa aa; 0"},
		{"one of two dropped", two.ticks(0, 1).ticks(1, 1).dropsAt(1), "aa aa; 1"},
		{"round", two.ticks(0, 1).dropsAt(impl.MaxNum), "aa aa; 0"},
	})
	// With seed 0 the members 0 to 5 ask 4, 5, 1, 5, 3 and 3. Who is down does not answer: so one shows who it was that would hear.
	asked := six.ticks(0, 1).ticks(1, 1).ticks(2, 1).ticks(3, 1).ticks(4, 1).ticks(5, 1)
	for i, to := range map[int]int{0: 4, 1: 5, 2: 1, 3: 5, 4: 3, 5: 3, 6: 4, 7: 5, 8: 1, 11: 3, 600: 4, 602: 1, impl.MaxNum: 5, impl.MaxNum - 1: 4} {
		if got := whoHears(t, asked, i); got != to {
			t.Errorf("at %d: %d hears", i, got)
		}
		dropped := asked.dropsAt(i)
		if g := mustChat(t, dropped, false); g.Net != 5 {
			t.Errorf("dropped at %d: %d packets", i, g.Net)
		}
		// The others are there still, in their order.
		order := slices.Delete([]int{4, 5, 1, 5, 3, 3}, i%6, i%6+1)
		for place, to := range order {
			if got := whoHears(t, dropped, place); got != to {
				t.Errorf("dropped at %d, at %d: %d hears", i, place, got)
			}
		}
	}
}

// whoHears answers whom the question or request at place i reaches: that one says nothing to it if it is down.
func whoHears(t *testing.T, k talk, i int) int {
	t.Helper()
	before := mustChat(t, k, false).Net
	who := -1
	for id := range k.n {
		if g := mustChat(t, k.downs(id).hearsAt(i), false); g.Net < before {
			if who >= 0 {
				t.Fatalf("%v: both %d and %d hear %d", k, who, id, i)
			}
			who = id
		}
	}
	return who
}

func TestGoingComingAndLeaving(t *testing.T) {
	two, three := circleOf(2, 0), circleOf(3, 0)
	mustBeSaid(t, []chatted{
		{"down", three.downs(1), "aaa -aaa aaa; 0"},
		{"down twice", three.downs(1).downs(1), "aaa -aaa aaa; 0"},
		{"up again", three.downs(1).ups(1), "aaa aaa aaa; 0"},
		{"up already", three.ups(2), "aaa aaa aaa; 0"},
		{"all down", three.downs(0).downs(1).downs(2), "-aaa -aaa -aaa; 0"},
		{"no such one goes", three.downs(3).downs(11), "aaa aaa aaa; 0"},
		{"no such one comes", three.downs(0).ups(3).ups(11), "-aaa aaa aaa; 0"},
		{"left", three.leaves(1), "aaa ala aaa; 0"},
		{"left twice", three.leaves(1, 1), "aaa ala aaa; 0"},
		{"no such one leaves", three.leaves(3, 11), "aaa aaa aaa; 0"},
		{"who is down does not leave", three.downs(1).leaves(1), "aaa -aaa aaa; 0"},
		{"nor when it is up again", three.downs(1).leaves(1).ups(1), "aaa aaa aaa; 0"},
		{"left and down", three.leaves(1).downs(1), "aaa -ala aaa; 0"},
		{"left, down and up", three.leaves(1).downs(1).ups(1), "aaa ala aaa; 0"},
		{"who is down keeps what it knew", two.ticks(0, 7).downs(0).ups(0), "as aa; 1"},
		{"and what it asked", two.ticks(0, 1).downs(0).ups(0).ticks(0, 6), "as aa; 1"},
		{"and is answered", two.ticks(0, 1).downs(0).ups(0).hears(2).ticks(0, 1), "aa aa; 1"},
		{"who is down does not hear", two.ticks(0, 1).downs(1).hears(1), "aa -aa; 0"},
		{"nor an answer", two.ticks(0, 1).hears(1).downs(0).hears(1).ups(0).ticks(0, 6), "as aa; 0"},
		{"who left hears and answers", two.leaves(1).ticks(0, 1).hears(2), "al al; 0"},
		{"who left is asked no more", two.leaves(1).ticks(0, 1).hears(2).ticks(0, 30), "al al; 0"},
		{"who left while it asked", two.ticks(0, 1).leaves(0).hears(2), "la aa; 0"},
		{"who was doubted leaves", two.ticks(0, 7).leaves(1).hears(2), "al al; 0"},
		{"who was buried leaves", two.ticks(0, 13).drops(2).leaves(1).pushes(1, 0), "al al; 0"},
		{"who lives again leaves", two.ticks(0, 7).pushes(0, 1).leaves(1).pushes(0, 1), "al1 al1; 1"},
		{"who left is doubted by one that does not know", two.leaves(1).ticks(0, 13), "ad al; 2"},
		{"and says so", two.leaves(1).ticks(0, 13).pushes(0, 1), "al al; 2"},
		{"who left in another life is told of it", two.leaves(1).ticks(0, 8).hearsAt(1), "as al; 2"},
	})
}

func TestPushing(t *testing.T) {
	two, three := circleOf(2, 0), circleOf(3, 0)
	doubts := two.ticks(0, 7)
	left := three.leaves(0, 1, 2)
	mustBeSaid(t, []chatted{
		{"nothing new", three.pushes(0, 1).pushes(2, 0), "aaa aaa aaa; 0"},
		{"both hear", left.pushes(0, 1), "lla lla aal; 0"},
		{"both hear, the other way", left.pushes(1, 0), "lla lla aal; 0"},
		{"one behind the other", left.pushes(0, 1).pushes(1, 2), "lla lll lll; 0"},
		{"round", left.pushes(0, 3+2), "lal ala lal; 0"},
		{"far round", left.pushes(0, impl.MaxNum), "lla lla aal; 0"},
		{"with itself", left.pushes(0, 0).pushes(1, 1).pushes(2, 2), "laa ala aal; 0"},
		{"with itself, round", left.pushes(0, 3).pushes(1, impl.MaxNum).pushes(2, 302), "laa ala aal; 0"},
		{"no such one", left.pushes(3, 0).pushes(11, 1), "laa ala aal; 0"},
		{"one that is down", left.downs(0).pushes(0, 1), "-laa ala aal; 0"},
		{"with one that is down", left.downs(0).pushes(1, 0), "-laa ala aal; 0"},
		{"both down", left.downs(0).downs(1).pushes(1, 0), "-laa -ala aal; 0"},
		{"a third one is down", left.downs(2).pushes(1, 0), "lla lla -aal; 0"},
		// 1 says that it lives behind what it hears: of that 0 is told by the next one.
		{"as the other one's was", doubts.pushes(0, 1), "as aa1; 1"},
		{"as its own was", doubts.pushes(1, 0), "as aa1; 1"},
		{"told then", doubts.pushes(0, 1).pushes(0, 1), "aa1 aa1; 1"},
		{"told then, the other way", doubts.pushes(1, 0).pushes(1, 0), "aa1 aa1; 1"},
		{"no packet is sent, and nobody is answered", two.ticks(0, 1).pushes(0, 1).ticks(0, 6), "as aa; 1"},
	})
}

// A suspect is buried SuspectFor ticks of its own behind what one heard of it.
func TestTimersOfSuspects(t *testing.T) {
	two, three, four := circleOf(2, 0), circleOf(3, 0), circleOf(4, 4)
	heard := three.ticks(0, 7).pushes(0, 2)
	// With seed 4 the member 1 asks 0 first, then 3; and 3 asks 2.
	both := four.ticks(1, 9).ticks(3, 7).pushes(1, 3)
	mustBeSaid(t, []chatted{
		{"doubted", three.ticks(0, 7), "asa aaa aaa; 2"},
		{"told of it", heard, "asa aaa asa; 2"},
		{"the last moment of who was told", heard.ticks(2, 5), "asa aaa asa; 4"},
		{"buried by it", heard.ticks(2, 6), "asa aaa ada; 4"},
		{"the last moment of who told", heard.ticks(0, 5), "asa aaa asa; 4"},
		{"buried", heard.ticks(0, 6), "ada aaa asa; 4"},
		{"ticks of another one are not its own", heard.ticks(1, 6), "asa aaa asa; 4"},
		{"told again, it goes on", heard.ticks(0, 5).pushes(0, 2).pushes(2, 0).ticks(0, 1), "ada aaa asa; 4"},
		{"who hears more goes on", heard.ticks(2, 5).ticks(0, 1).hearsAt(4).ticks(2, 1), "asa aaa ada; 5"},
		{"who is told that it died does not wait", heard.ticks(0, 6).pushes(0, 2), "ada aaa ada; 4"},
		{"heard with a question", three.ticks(0, 8).hearsAt(2), "asa aaa asa; 3"},
		{"the last moment of who heard it", three.ticks(0, 8).hearsAt(2).ticks(2, 5), "asa aaa asa; 5"},
		{"buried by who heard it", three.ticks(0, 8).hearsAt(2).ticks(2, 6), "asa aaa ada; 5"},
		{"no suspect any more by an answer", two.ticks(0, 12).hearsAt(1).hearsAt(1).ticks(0, 1), "aa1 aa1; 2"},
		{"no suspect any more", two.ticks(0, 12).pushes(0, 1).pushes(0, 1).ticks(0, 1), "aa1 aa1; 2"},
		{"nor later", two.ticks(0, 12).pushes(0, 1).pushes(0, 1).hears(4).ticks(0, 6), "aa1 aa1; 1"},
		{"a new timer for a new life", two.ticks(0, 12).pushes(0, 1).pushes(0, 1).ticks(0, 2), "as1 aa1; 2"},
		{"its last moment", two.ticks(0, 12).pushes(0, 1).pushes(0, 1).ticks(0, 7), "as1 aa1; 3"},
		{"and it is over", two.ticks(0, 12).pushes(0, 1).pushes(0, 1).ticks(0, 8), "ad1 aa1; 3"},
		{"who is down waits for nothing", two.ticks(0, 12).downs(0).ticks(0, 9), "-as aa; 2"},
		{"who is up again goes on", two.ticks(0, 12).downs(0).ticks(0, 9).ups(0), "as aa; 2"},
		{"to its end", two.ticks(0, 12).downs(0).ticks(0, 9).ups(0).ticks(0, 1), "ad aa; 2"},
		{"who left waits for nothing", two.ticks(0, 12).leaves(0).ticks(0, 9), "ls aa; 2"},
		{"who left is no suspect", two.ticks(0, 12).leaves(1).pushes(0, 1).ticks(0, 9), "al al; 2"},
		{"two timers", both, "aaaa sasa aaaa sasa; 7"},
		{"the last moment of the first", both.ticks(1, 3), "aaaa sasa aaaa sasa; 9"},
		{"the first is over", both.ticks(1, 4), "aaaa dasa aaaa sasa; 9"},
		{"the last moment of the second, and a third", both.ticks(1, 5), "aaaa dass aaaa sasa; 9"},
		{"the second is over", both.ticks(1, 6), "aaaa dads aaaa sasa; 10"},
		{"two that are new: their last moment", both.ticks(3, 5), "aaaa sasa aaaa sasa; 10"},
		{"two that are new: both are over", both.ticks(3, 6), "aaaa sasa aaaa dada; 10"},
	})
}

// A suspect that is one in its next life, too, as far as one hears of it, has the timer that it had.
func TestATimerGoesOnInTheNextLife(t *testing.T) {
	// With seed 0 both 1 and 2 ask 3 first.
	k := circleOf(4, 0).ticks(1, 11).pushes(1, 3).pushes(3, 2).ticks(2, 7)
	died := circleOf(4, 0).ticks(1, 13).pushes(1, 3).pushes(3, 2).ticks(2, 7)
	mustBeSaid(t, []chatted{
		{"doubted in two lives", k, "aaaa aaas aaas1 aaaa1; 9"},
		{"told of the second one", k.pushes(1, 2), "aaaa aaas1 aaas1 aaaa1; 9"},
		{"the last moment", k.pushes(1, 2).ticks(1, 1), "aaaa aaas1 aaas1 aaaa1; 9"},
		{"over", k.pushes(1, 2).ticks(1, 2), "aaaa aaad1 aaas1 aaaa1; 9"},
		{"that of the other one is its own", k.pushes(1, 2).ticks(2, 5), "aaaa aaas1 aaas1 aaaa1; 12"},
		{"and over with its own", k.pushes(1, 2).ticks(2, 6), "aaaa aaas1 aaad1 aaaa1; 12"},
		{"buried in the first one", died, "aaaa aaad aaas1 aaaa1; 9"},
		{"who died in one has a new one in the next", died.pushes(1, 2).ticks(1, 5), "aaaa aass1 aaas1 aaaa1; 12"},
		{"to its end", died.pushes(1, 2).ticks(1, 6), "aaaa aasd1 aaas1 aaaa1; 12"},
	})
}

func TestTicksOfWhoIsNotThere(t *testing.T) {
	two := circleOf(2, 0)
	mustBeSaid(t, []chatted{
		{"no such one", two.ticks(2, 9).ticks(11, 20), "aa aa; 0"},
		{"down", two.downs(0).ticks(0, 9), "-aa aa; 0"},
		{"up again, from its first tick on", two.downs(0).ticks(0, 9).ups(0).ticks(0, 6), "aa aa; 1"},
		{"its last one", two.downs(0).ticks(0, 9).ups(0).ticks(0, 7), "as aa; 1"},
		{"left", two.leaves(0).ticks(0, 9), "la aa; 0"},
		{"left while it asked", two.ticks(0, 6).leaves(0).ticks(0, 9), "la aa; 1"},
		{"another one left", two.leaves(1).ticks(0, 1), "aa al; 1"},
		{"down while it asked", two.ticks(0, 6).downs(0).ticks(0, 9).ups(0), "aa aa; 1"},
		{"and up again", two.ticks(0, 6).downs(0).ticks(0, 9).ups(0).ticks(0, 1), "as aa; 1"},
	})
}

// With seed 0, of three, 0 asks 1 and then 2, 1 asks 2, and 2 asks 0.
func TestAskingByAnother(t *testing.T) {
	three := circleOf(3, 0)
	asks := three.ticks(0, 3).drops(1)
	late := three.ticks(0, 8)
	// With seed 3, of four, both 0 and 3 ask 1; 2 and 3 help 0.
	helps := circleOf(4, 3).ticks(0, 3).drops(2).ticks(3, 1).dropsAt(1).hears(4)
	mustBeSaid(t, []chatted{
		{"a question and a request", three.ticks(0, 3), "aaa aaa aaa; 2"},
		{"the question is answered", three.ticks(0, 3).hears(1).hearsAt(1).ticks(0, 1), "aaa aaa aaa; 2"},
		{"a request", asks, "aaa aaa aaa; 1"},
		{"a question on behalf of another", asks.hears(1), "aaa aaa aaa; 1"},
		{"an answer to who asked", asks.hears(2), "aaa aaa aaa; 1"},
		{"that goes on to whose behalf it is on", asks.hears(3), "aaa aaa aaa; 1"},
		{"and ends there", asks.hears(4), "aaa aaa aaa; 0"},
		{"it counts", asks.hears(4).ticks(0, 1), "aaa aaa aaa; 1"},
		{"and goes on with the next one", asks.hears(4).ticks(0, 7), "aas aaa aaa; 2"},
		{"who helps asked the same one itself", helps, "aaaa aaaa aaaa aaaa; 0"},
		{"it counts for whose behalf it was on", helps.ticks(0, 1), "aaaa aaaa aaaa aaaa; 1"},
		{"and not for who helped", helps.ticks(3, 6), "aaaa aaaa aaaa asaa; 2"},
		{"dropped as a request", asks.drops(1).ticks(0, 4), "asa aaa aaa; 0"},
		{"dropped as a question", asks.hears(1).drops(1).ticks(0, 4), "asa aaa aaa; 0"},
		{"dropped as an answer", asks.hears(2).drops(1).ticks(0, 4), "asa aaa aaa; 0"},
		{"dropped as it goes on", asks.hears(3).drops(1).ticks(0, 4), "asa aaa aaa; 0"},
		{"who helps is down", asks.downs(2).hears(1), "aaa aaa -aaa; 0"},
		{"who is asked is down", asks.downs(1).hears(2), "aaa -aaa aaa; 0"},
		{"who helps is down when it is answered", asks.hears(2).downs(2).hears(1), "aaa aaa -aaa; 0"},
		{"who asked is down, and not told of", asks.downs(0).hears(3), "-aaa aaa aaa; 1"},
		{"nor hears", asks.downs(0).hears(4), "-aaa aaa aaa; 0"},
		{"nor is answered", asks.downs(0).hears(4).ups(0).ticks(0, 4), "asa aaa aaa; 0"},
		{"who helps has left", asks.leaves(2).hears(4), "aal aal aal; 0"},
		{"who is asked has left", asks.leaves(1).hears(4), "ala ala ala; 0"},
		{"who asked left", asks.leaves(0).hears(4), "laa aaa aaa; 0"},
		{"answered at the last moment", asks.ticks(0, 3).hears(4).ticks(0, 1), "aaa aaa aaa; 1"},
		{"answered behind it", asks.ticks(0, 4).hears(4), "asa aaa aaa; 0"},
		{"an answer of one that is asked no more", late.hears(1).hearsAt(2).ticks(0, 6), "ads aaa aaa; 3"},
		{"an answer of the one that is", late.hearsAt(2).hearsAt(2).ticks(0, 1), "asa aaa asa; 3"},
	})
}

// Who helps is drawn, and in that order is asked to; with what it draws the next round is drawn, too.
func TestWhoHelps(t *testing.T) {
	for _, c := range []struct {
		n, seed int
		// Whom 0 asks and who helps; who begins the next round, and who does without help.
		reached             []int
		anew, anewUnaided   int
		silent              string
		unansweredAndBuried string
	}{
		{2, 0, []int{1}, 1, 1, "as", "ad"},
		{3, 0, []int{1, 2}, 2, 2, "asa", "ada"},
		{4, 0, []int{2, 3, 1}, 3, 1, "aasa", "aada"},
		{5, 3, []int{4, 2, 1, 3}, 3, 1, "aaaas", "aaaad"},
		{6, 4, []int{4, 3, 2, 5}, 4, 5, "aaaasa", "aaaada"},
		{6, 9, []int{1, 4, 5, 2}, 2, 3, "asaaaa", "adaaaa"},
	} {
		k := circleOf(c.n, c.seed)
		what := fmt.Sprintf("%d members, seed %d", c.n, c.seed)
		asked := k.ticks(0, 3)
		if g := mustChat(t, asked, false); g.Net != len(c.reached) {
			t.Fatalf("%s: %d packets", what, g.Net)
		}
		for place, want := range c.reached {
			if got := whoHears(t, asked, place); got != want {
				t.Errorf("%s: at %d it is %d, not %d", what, place, got, want)
			}
		}
		helped, unaided := asked.drops(1).hears(4*(len(c.reached)-1)), k.ticks(0, 1).hears(2)
		if c.n == 2 {
			helped = asked.hears(2)
		}
		for range c.n - 2 {
			helped, unaided = helped.ticks(0, 1).hears(2), unaided.ticks(0, 1).hears(2)
		}
		for _, end := range []struct {
			k    talk
			want int
		}{{helped, c.anew}, {unaided, c.anewUnaided}} {
			if got := whoHears(t, end.k.ticks(0, 1), 0); got != end.want {
				t.Errorf("%s: the next round begins with %d, not %d", what, got, end.want)
			}
		}
		for ticks, want := range map[int]string{6: strings.Repeat("a", c.n), 7: c.silent, 12: c.silent, 13: c.unansweredAndBuried} {
			if got := strings.Fields(gossipText(mustChat(t, k.ticks(0, ticks), false)))[0]; got != want {
				t.Errorf("%s: %q behind %d ticks, not %q", what, got, ticks, want)
			}
		}
	}
	// Who is dead or has left does not help; who is suspect does.
	dead := circleOf(4, 0).ticks(0, 13)
	mustBeSaid(t, []chatted{
		// 0 asks 2, with the help of 3 and 1; then 1, with that of the suspect 2 and of 3.
		{"a suspect helps", circleOf(4, 0).ticks(0, 10), "aasa aaaa aaaa aaaa; 6"},
		{"buried while the second one is asked", dead, "aada aaaa aaaa aaaa; 6"},
		{"the second one is a suspect", dead.ticks(0, 1), "asda aaaa aaaa aaaa; 6"},
		{"the third one is asked, with the help of one alone", dead.ticks(0, 4), "asda aaaa aaaa aaaa; 8"},
		{"left", circleOf(4, 0).leaves(1, 3).pushes(0, 1).pushes(0, 3).ticks(0, 3), "alal alaa aaaa alal; 1"},
	})
}

// newsOf answers what one who is asked hears, of all others that have left, by one who knows of all: with its question, which is the packet of this turn.
func newsOf(t *testing.T, n, from, to, turn int) string {
	t.Helper()
	k := circleOf(n, 0)
	packets := 0
	for id := range n {
		// The first tick of each says one packet, the third one one for each that helps.
		more := 1 + min(impl.MaxHelpers, n-2)
		switch {
		case id == from:
		case turn-packets >= more:
			k = k.ticks(id, 3)
			packets += more
		case turn-packets > 0:
			k = k.ticks(id, 1)
			packets++
		}
	}
	if packets != turn {
		return ""
	}
	k = k.drops(packets)
	for id := range n {
		if id != from && id != to {
			k = k.leaves(id).pushes(from, id)
		}
	}
	g := mustChat(t, k.ticks(from, 1).hears(1), false)
	if g.Net != 1 {
		t.Fatalf("%v: %d packets", k, g.Net)
	}
	return strings.Fields(strings.TrimSuffix(gossipText(g), "; 1"))[to]
}

func TestWhatAPacketSays(t *testing.T) {
	// Of 2 to 0, from the place 0, 1 .. on: 2 is left aside, and of 0 there is nothing new.
	for turn, want := range []string{"alaaaa", "alalaa", "aaalla", "aaalla", "aaaall", "aaaaal", "alaaaa", "alalaa"} {
		if got := newsOf(t, 6, 2, 0, turn); got != want {
			t.Errorf("turn %d: %q, not %q", turn, got, want)
		}
	}
	// Of 0 to 3.
	for turn, want := range []string{"allaaa", "allaaa", "aalaaa", "aaaala", "aaaall", "alaaal", "allaaa"} {
		if got := newsOf(t, 6, 0, 3, turn); got != want {
			t.Errorf("turn %d: %q, not %q", turn, got, want)
		}
	}
	for turn, want := range []string{"alaa", "alla", "aala", "alaa", "alaa", "alla"} {
		if got := newsOf(t, 4, 3, 0, turn); got != want {
			t.Errorf("four, turn %d: %q, not %q", turn, got, want)
		}
	}
	told := 0
	for n := 2; n <= 6; n++ {
		for from := range n {
			for to := range n {
				if from != to {
					told += mustTellNews(t, n, from, to)
				}
			}
		}
	}
	if told < 500 {
		t.Errorf("%d packets", told)
	}
}

// mustTellNews answers how many turns one packet could be brought to.
func mustTellNews(t *testing.T, n, from, to int) int {
	t.Helper()
	told := 0
	for turn := range 21 {
		got := newsOf(t, n, from, to, turn)
		if got == "" {
			continue
		}
		told++
		if want := newsAt(n, from, to, turn); got != want {
			t.Errorf("%d members, %d to %d, turn %d: %q, not %q", n, from, to, turn, got, want)
		}
	}
	return told
}

// newsAt answers what is to be heard: the first two of the round, but for who says it.
func newsAt(n, from, to, turn int) string {
	heard := []byte(strings.Repeat("a", n))
	others := 0
	for place := turn; others < min(impl.MaxSay-1, n-1); place++ {
		if id := place % n; id != from {
			others++
			if id != to {
				heard[id] = 'l'
			}
		}
	}
	return string(heard)
}

// A packet says what its sender's table is when it is sent, its own member first of all.
func TestWhatIsSaidIsOld(t *testing.T) {
	two, three := circleOf(2, 0), circleOf(3, 0)
	mustBeSaid(t, []chatted{
		{"left behind its question", two.ticks(0, 1).leaves(0).hears(1), "la aa; 1"},
		{"left ahead of its answer", two.ticks(0, 1).leaves(1).hears(2), "al al; 0"},
		{"left behind its answer", two.ticks(0, 1).hears(1).leaves(1).hears(1), "aa al; 0"},
		{"doubted behind its question", three.ticks(0, 7).hears(1), "asa aaa aaa; 2"},
		{"doubted ahead of its question", three.ticks(0, 8).hearsAt(2), "asa aaa asa; 3"},
		{"a new life ahead of its answer", two.ticks(0, 8).hearsAt(1).hearsAt(1), "aa1 aa1; 1"},
		{"said of itself with an answer to what is older", two.ticks(0, 8).hearsAt(1).hears(1).hearsAt(1), "aa1 aa1; 1"},
		{"with a request", three.ticks(0, 1).leaves(1).pushes(0, 1).ticks(0, 2).hearsAt(1), "ala ala ala; 2"},
		{"what is older is not heard", two.ticks(0, 7).pushes(0, 1).pushes(0, 1).hears(1), "aa1 aa1; 1"},
	})
}

// sixUnheard answers six of which five asked and asked, and nobody heard them: 75 packets.
func sixUnheard() talk {
	k := circleOf(6, 3)
	for id := range 5 {
		k = k.ticks(id, 24)
	}
	return k
}

// With seed 3 the member 5 asks 4, then 3, then 0: it says one packet at its ticks 1, 8 and 15, three at 3 and 10.
func TestAFullCircle(t *testing.T) {
	tables := "asdaad aasdda daasda dsaaad adsaad "
	full := sixUnheard().ticks(5, 8)
	mustBeSaid(t, []chatted{
		{"room for five", sixUnheard(), tables + "aaaaaa; 75"},
		{"room for one", sixUnheard().ticks(5, 3), tables + "aaaaaa; 79"},
		{"full to the last place", full, tables + "aaaasa; 80"},
		{"three are lost", full.ticks(5, 2), tables + "aaaasa; 80"},
		{"room again", full.ticks(5, 2).drops(2).ticks(5, 4), tables + "aaasda; 78"},
		{"which the next one finds", full.ticks(5, 2).drops(2).ticks(5, 5), tables + "aaasda; 79"},
		{"one finds room, two are lost", full.drops(1).ticks(5, 2), tables + "aaaasa; 80"},
		{"two find room, one is lost", full.drops(2).ticks(5, 2), tables + "aaaasa; 80"},
		{"what is heard makes room for its answer", full.hears(1), tables + "aaaasa; 80"},
		{"what nobody hears makes room", full.downs(5).hears(1).ups(5), tables + "aaaasa; 79"},
		{"a question that is lost", full.ticks(5, 7), tables + "aaasda; 80"},
		{"is waited for", full.ticks(5, 14), tables + "saadda; 80"},
	})
	// What the next packet says, from 5 to 0, of which 5 knows that 3 is a suspect and 4 is dead: from the place 80 modulo 6 on, if none found room behind the 80th.
	at := func(what string, k talk, place int, want string) {
		t.Helper()
		if got := strings.Fields(gossipText(mustChat(t, k.ticks(5, 5).hearsAt(place), false)))[0]; got != want {
			t.Errorf("%s: %q, not %q", what, got, want)
		}
	}
	at("three were lost", full.ticks(5, 2).drops(1), 79, "asdsad")
	at("one found room, two were lost", full.drops(1).ticks(5, 2).drops(1), 79, "asdsdd")
	at("two found room, one was lost", full.drops(2).ticks(5, 2).drops(1), 79, "asdadd")
	at("three found room", full.drops(3).ticks(5, 2).drops(1), 79, "asdaad")
}

type settled struct {
	what   string
	k      talk
	rounds int
	want   string
}

func TestSettledCircles(t *testing.T) {
	two, three := circleOf(2, 0), circleOf(3, 0)
	stuck := circleOf(6, 1).leaves(0, 1, 2, 3, 4).downs(5)
	for _, c := range []settled{
		{"one", circleOf(1, 0), 0, "a; 0"},
		{"one that left", circleOf(1, 0).leaves(0), 0, "l; 0"},
		{"nobody", circleOf(1, 0).downs(0), 0, "-a; 0"},
		{"all alive", circleOf(6, 9), 0, "aaaaaa aaaaaa aaaaaa aaaaaa aaaaaa aaaaaa; 0"},
		{"a question to be answered", two.ticks(0, 1), 0, "aa aa; 0"},
		{"a question to nobody", two.ticks(0, 1).downs(0).downs(1), 0, "-aa -aa; 0"},
		{"nobody is up, whatever they say", three.ticks(0, 7).downs(0).downs(1).downs(2), 0, "-asa -aaa -aaa; 0"},
		{"doubted, and all questions heard", two.ticks(0, 8), 0, "aa1 aa1; 0"},
		{"buried, and all questions heard", two.ticks(0, 13), 0, "aa1 aa1; 0"},
		{"buried, and none heard", two.ticks(0, 13).drops(2), 1, "aa1 aa1; 0"},
		{"told of a life alone", two.ticks(0, 7).drops(1).pushes(0, 1), 1, "aa1 aa1; 0"},
		{"left, and told", two.leaves(1).pushes(0, 1), 0, "al al; 0"},
		{"left", two.leaves(1), 1, "al al; 0"},
		{"all left", two.leaves(0, 1), 1, "ll ll; 0"},
		{"down", two.downs(1), 13, "ad -aa; 0"},
		{"the first one down", two.downs(0), 13, "-aa da; 0"},
		{"a suspect, and down", two.ticks(0, 7).downs(1), 6, "ad -aa; 0"},
		{"buried, and down", two.ticks(0, 13).downs(1), 0, "ad -aa; 0"},
		{"left, down and told", two.leaves(1).pushes(0, 1).downs(1), 0, "al -al; 0"},
		{"left, down and not told", two.leaves(1).downs(1), 13, "ad -al; 0"},
		{"down and up again", two.ticks(0, 13).downs(1).drops(2).ups(1), 1, "aa1 aa1; 0"},
		{"who is down stays so, with what it knew", two.ticks(1, 7).drops(1).downs(1), 13, "ad -sa; 0"},
		{"the last one that is up has left, and one is not up", two.leaves(0).downs(1), 200, "la -aa; 0"},
		{"nobody ticks, and a suspect stays", two.ticks(0, 7).leaves(0).downs(1), 200, "ls -aa; 0"},
		{"all others left, and one is not up", stuck, 200, "llllla llllla llllla llllla llllla -aaaaaa; 0"},
		{"but for one that tells that it died", circleOf(6, 1).leaves(0, 1, 2, 3).downs(5), 15, "llllad llllad llllad llllad llllad -aaaaaa; 0"},
		{"a suspect of one of two, and down", three.ticks(0, 7).downs(1), 6, "ada -aaa ada; 0"},
		{"two of three down", three.downs(0).downs(2), 20, "-aaa dad -aaa; 0"},
		{"a full net, all of which is heard at once", sixUnheard().ticks(5, 8), 0, strings.Repeat(" a1a1a1a1a1a1", 6)[1:] + "; 0"},
		{"six, one down", circleOf(6, 9).downs(0), 14, "-aaaaaa daaaaa daaaaa daaaaa daaaaa daaaaa; 0"},
	} {
		g := mustChat(t, c.k, true)
		if got := gossipText(g); got != c.want || g.Rounds != c.rounds {
			t.Errorf("%s: %q and %d rounds, not %q and %d", c.what, got, g.Rounds, c.want, c.rounds)
		}
		if g := mustChat(t, c.k, false); g.Rounds != 0 {
			t.Errorf("%s, not settled: %d rounds", c.what, g.Rounds)
		}
	}
}

// Two that left are up, of which neither knows of the other one; all others left and are down, as both know. So it is their push alone that tells it: which is that of the round that brings them together.
func TestWhoPushesWithWhom(t *testing.T) {
	for n := 2; n <= 6; n++ {
		for a := range n {
			for b := range n {
				if a == b {
					continue
				}
				k := circleOf(n, 0)
				for id := range n {
					if id != a && id != b {
						k = k.leaves(id).pushes(a, id).pushes(b, id).downs(id)
					}
				}
				apart := (b - a + n) % n
				want := min(apart, n-apart)
				if g := mustChat(t, k.leaves(a, b), true); g.Rounds != want {
					t.Errorf("%d and %d of %d: %d rounds, not %d", a, b, n, g.Rounds, want)
				}
			}
		}
	}
}
