package tests

import (
	"fmt"
	"math"
	"slices"
	"strings"
	"testing"

	"loop.example/g00365/impl"
)

func TestCodesAndLimitsOfTheCluster(t *testing.T) {
	got := []int{
		impl.AcCall, impl.AcRetry, impl.AcDeliver, impl.AcDouble, impl.AcDrop, impl.AcTick, impl.AcCrash, impl.AcStart,
		impl.AcRead, impl.AcWatch, impl.MaxScript, impl.MaxNet, impl.MaxNotes,
	}
	if want := []int{0, 1, 2, 3, 4, 5, 6, 7, 8, 9, 300, 80, 400}; !slices.Equal(got, want) {
		t.Fatalf("constants are %v, not %v", got, want)
	}
}

func TestActionOk(t *testing.T) {
	ops := []impl.Op{
		{}, setA, op(impl.OpSet, "", "x", 0), op(impl.OpNone, "", "", 1), op(impl.OpNone, "a", "", 0), op(impl.OpNone, "", "v", 0), op(impl.OpShut, "", "", 0),
		op(impl.OpShut, "", "", 1), op(impl.OpOpen, "", "", 1), op(impl.OpTake, "a/b", "", impl.MaxIndex), op(8, "", "", 0), op(-1, "", "", 0),
	}
	keys := []string{"", "a", "a/b", longKey, tooLongKey, "A", "a\x00"}
	nodes := []int{math.MinInt, -1, 0, 1, 4, 5, math.MaxInt}
	numbers := []int{math.MinInt, -1, 0, 1, impl.MaxNum, impl.MaxNum + 1, math.MaxInt}
	good := 0
	for _, kind := range []int{math.MinInt, -1, 0, 1, 2, 3, 4, 5, 6, 7, 8, 9, 10, math.MaxInt} {
		for _, node := range nodes {
			for _, i := range numbers {
				for _, o := range ops {
					for _, key := range keys {
						a := impl.Action{Kind: kind, Node: node, I: i, Op: o, Key: []byte(key)}
						want := modelAction(a)
						if impl.ActionOk(a) != want {
							t.Fatalf("ActionOk(%v) is not %v", a, want)
						}
						if ran := impl.Run(5, 4, []impl.Action{a}, false); ran.Ok != want || !want && !same(ran, impl.Result{}) {
							t.Fatalf("Run of %v is %v", a, ran)
						}
						if want {
							good++
						}
					}
				}
			}
		}
	}
	// Three nodes and three numbers each: five operations of a call, three keys of a read and of a watch, nothing else of the others.
	if good != 3*3*(5+2*3+7) {
		t.Errorf("%d are good", good)
	}
}

func TestRunRefuses(t *testing.T) {
	good := three().calls(0, 0, setA).script
	for _, servers := range farNumbers {
		for _, clients := range farNumbers {
			for _, settle := range []bool{false, true} {
				r := impl.Run(servers, clients, good, settle)
				if is := servers >= 1 && servers <= 5 && clients >= 1 && clients <= 4; r.Ok != is || !is && !same(r, impl.Result{}) {
					t.Errorf("Run(%d, %d, .., %v) = %v", servers, clients, settle, r)
				}
			}
		}
	}
	tick := impl.Action{Kind: impl.AcTick}
	for size, ok := range map[int]bool{0: true, 1: true, 299: true, 300: true, 301: false, 302: false, 1000: false} {
		for _, settle := range []bool{false, true} {
			r := impl.Run(1, 1, slices.Repeat([]impl.Action{tick}, size), settle)
			if r.Ok != ok || !ok && !same(r, impl.Result{}) {
				t.Errorf("Run of %d actions is %v", size, r)
			}
		}
	}
	for _, bad := range []impl.Action{
		{Kind: -1}, {Kind: 10}, {Kind: impl.AcTick, Node: -1}, {Kind: impl.AcTick, Node: 5}, {Kind: impl.AcDrop, I: -1},
		{Kind: impl.AcDrop, I: impl.MaxNum + 1}, {Kind: impl.AcRetry, Op: setA}, {Kind: impl.AcCall, Op: impl.Op{N: 1}},
		{Kind: impl.AcRead}, {Kind: impl.AcWatch, Key: []byte("A")}, {Kind: impl.AcStart, Key: []byte("a")}, {Key: []byte("a")},
	} {
		for at := range good {
			script := slices.Clone(good)
			script[at] = bad
			if r := impl.Run(3, 2, script, at%2 == 0); !same(r, impl.Result{}) {
				t.Errorf("Run with %v at %d is %v", bad, at, r)
			}
		}
	}
	// What lies behind the script's length is not read.
	if r := impl.Run(1, 1, []impl.Action{tick, {Kind: -1}}[:1], false); !r.Ok {
		t.Error("Run reads behind the length")
	}
}

func cast(servers, clients int) scene {
	return scene{servers: servers, clients: clients}
}

func (s scene) then(times int, a impl.Action) scene {
	s.script = slices.Concat(s.script, slices.Repeat([]impl.Action{a}, times))
	return s
}

func (s scene) ticks(node, times int) scene {
	return s.then(times, impl.Action{Kind: impl.AcTick, Node: node})
}

// hears delivers the first message so many times.
func (s scene) hears(times int) scene {
	return s.then(times, impl.Action{Kind: impl.AcDeliver})
}

func (s scene) hearsAt(i int) scene {
	return s.then(1, impl.Action{Kind: impl.AcDeliver, I: i})
}

func (s scene) doubles(i int) scene {
	return s.then(1, impl.Action{Kind: impl.AcDouble, I: i})
}

func (s scene) drops(i int) scene {
	return s.then(1, impl.Action{Kind: impl.AcDrop, I: i})
}

func (s scene) calls(client, node int, o impl.Op) scene {
	return s.then(1, impl.Action{Kind: impl.AcCall, Node: node, I: client, Op: o})
}

func (s scene) retries(client, node int) scene {
	return s.then(1, impl.Action{Kind: impl.AcRetry, Node: node, I: client})
}

func (s scene) falls(node int) scene {
	return s.then(1, impl.Action{Kind: impl.AcCrash, Node: node})
}

func (s scene) starts(node int) scene {
	return s.then(1, impl.Action{Kind: impl.AcStart, Node: node})
}

func (s scene) reads(node int, key string) scene {
	return s.then(1, impl.Action{Kind: impl.AcRead, Node: node, Key: []byte(key)})
}

func (s scene) watches(node int, key string, since int) scene {
	return s.then(1, impl.Action{Kind: impl.AcWatch, Node: node, I: since, Key: []byte(key)})
}

// mustRun plays the scene, and fails unless it goes as the model tells and keeps the promises.
func mustRun(t *testing.T, s scene, settle bool) impl.Result {
	t.Helper()
	r := s.run(settle)
	if want := modelRun(s.servers, s.clients, s.script, settle); !same(r, want) {
		t.Fatalf("%v, settle %v:\n%+v\nand not\n%+v", s, settle, r, want)
	}
	mustKeepPromises(t, s, r, settle, make(map[int]int))
	return r
}

func factTexts(l []impl.Fact) string {
	var out []string
	for _, f := range l {
		who := "-"
		if f.Cmd.Client >= 0 {
			who = fmt.Sprintf("%d.%d", f.Cmd.Client, f.Cmd.Req)
		}
		out = append(out, fmt.Sprintf("%d:%s", f.At, who))
	}
	return strings.Join(out, " ")
}

func callTexts(l []impl.Call) string {
	var out []string
	for _, c := range l {
		text := fmt.Sprintf("%d.%d %d..", c.Client, c.Req, c.From)
		if c.To != -1 {
			code := []string{"well", "none", "held", "turned", "full", "old"}[c.Reply.Code]
			text += fmt.Sprintf("%d %s@%d", c.To, code, c.Reply.Index)
		}
		out = append(out, text)
	}
	return strings.Join(out, "; ")
}

func noteTexts(l []impl.Note) string {
	var out []string
	for _, n := range l {
		view := fmt.Sprintf("%d-", n.View.Index)
		if n.View.Has {
			view = fmt.Sprintf("%d=%s", n.View.Index, n.View.Val)
		}
		out = append(out, fmt.Sprintf("%d@%d %s>%d k%d %s", n.At, n.Node, n.Key, n.Since, n.K, view))
	}
	return strings.Join(out, "; ")
}

// played is what is wanted of a scene: what is empty of it is not there.
type played struct {
	what                       string
	s                          scene
	facts, calls, reads, watch string
	net                        int
}

func mustPlay(t *testing.T, p played) impl.Result {
	t.Helper()
	r := mustRun(t, p.s, false)
	mustBe(t, p.what+": facts", factTexts(r.Facts), p.facts)
	mustBe(t, p.what+": calls", callTexts(r.Calls), p.calls)
	mustBe(t, p.what+": reads", noteTexts(r.Reads), p.reads)
	mustBe(t, p.what+": watches", noteTexts(r.Watch), p.watch)
	if r.Net != p.net {
		t.Errorf("%s: %d messages, not %d", p.what, r.Net, p.net)
	}
	return r
}

var setA = op(impl.OpSet, "a", "x", 0)

// one answers one server that leads, since the third action, and one client.
func one() scene {
	return cast(1, 1).ticks(0, 3)
}

// three answers three servers of which the first one leads: each of them has applied its item, and the net is empty, behind 15 actions.
func three() scene {
	return cast(3, 2).ticks(0, 3).hears(12)
}

func TestOneLeadsAndOthersFollow(t *testing.T) {
	r := mustPlay(t, played{what: "new", s: cast(3, 1)})
	for id, n := range r.Nodes {
		fresh, _ := modelNodeNew(id, 3)
		if !same(n, fresh) || !same(r.States[id], impl.State{}) || !r.Up[id] {
			t.Errorf("%d begins as %v, %v, %v", id, n, r.States[id], r.Up[id])
		}
	}
	mustPlay(t, played{what: "waiting", s: cast(3, 1).ticks(0, 2)})
	mustPlay(t, played{what: "asking", s: cast(3, 1).ticks(0, 3), net: 2})
	mustPlay(t, played{what: "one vote", s: cast(3, 1).ticks(0, 3).hears(1), net: 2})
	mustPlay(t, played{what: "leading", s: cast(3, 1).ticks(0, 3).hears(3), net: 3})
	mustPlay(t, played{what: "committed", s: cast(3, 1).ticks(0, 3).hears(7), facts: "10:-", net: 3})
	r = mustPlay(t, played{what: "all told", s: three(), facts: "10:-"})
	mustBe(t, "the first one", nodeText(r.Nodes[0]), "lead t1 v0 l0 w0 [1] c1 by[0 1] next[2 2 2] match[1 1 1]")
	mustBe(t, "the second one", nodeText(r.Nodes[1]), "follow t1 v0 l0 w0 [1] c1")
	mustPlay(t, played{what: "alone", s: one(), facts: "3:-"})
}

func TestCalls(t *testing.T) {
	for _, p := range []played{
		{what: "sent", s: one().calls(0, 0, setA), facts: "3:-", calls: "0.1 4..", net: 1},
		{what: "heard", s: one().calls(0, 0, setA).hears(1), facts: "3:- 5:0.1", calls: "0.1 4..", net: 1},
		{what: "back", s: one().calls(0, 0, setA).hears(2), facts: "3:- 5:0.1", calls: "0.1 4..6 well@2"},
		{what: "who waits does not call", s: one().calls(0, 0, setA).calls(0, 0, setA).hears(4), facts: "3:- 6:0.1", calls: "0.1 4..7 well@2"},
		{what: "called again", s: one().calls(0, 0, setA).hears(2).calls(0, 0, op(impl.OpDel, "b", "", 0)).hears(2),
			facts: "3:- 5:0.1 8:0.2", calls: "0.1 4..6 well@2; 0.2 7..9 none@3"},
		{what: "no such client", s: one().calls(1, 0, setA).calls(impl.MaxNum, 0, setA), facts: "3:-"},
		{what: "no such server", s: one().calls(0, 1, setA).calls(0, 4, setA), facts: "3:-"},
		{what: "a call at no server counts for nothing", s: one().calls(0, 1, setA).calls(0, 0, setA), facts: "3:-", calls: "0.1 5..", net: 1},
		{what: "two clients", s: cast(1, 2).ticks(0, 3).calls(1, 0, setA).calls(0, 0, setA).hears(4), facts: "3:- 6:1.1 7:0.1", calls: "1.1 4..8 well@2; 0.1 5..9 well@3"},
		{what: "the last client", s: cast(1, 4).ticks(0, 3).calls(3, 0, setA).hears(2), facts: "3:- 5:3.1", calls: "3.1 4..6 well@2"},
		{what: "nobody leads yet", s: cast(1, 1).calls(0, 0, setA).hears(1).ticks(0, 3).hears(1), facts: "5:-", calls: "0.1 1.."},
		{what: "to one that follows", s: three().calls(0, 1, setA).hears(1), facts: "10:-", calls: "0.1 16.."},
		{what: "to one that stands", s: cast(2, 1).ticks(0, 3).drops(0).calls(0, 0, setA).hears(1), calls: "0.1 5.."},
		{what: "to one that is down", s: three().falls(0).calls(0, 0, setA), facts: "10:-", calls: "0.1 17..", net: 1},
		{what: "to one that is down, heard", s: three().falls(0).calls(0, 0, setA).hears(1).starts(0), facts: "10:-", calls: "0.1 17.."},
		{what: "nothing asked for", s: one().calls(0, 0, impl.Op{}).hears(2), facts: "3:- 5:0.1", calls: "0.1 4..6 well@2"},
	} {
		mustPlay(t, p)
	}
	r := mustPlay(t, played{what: "what was called", s: one().calls(0, 0, op(impl.OpTake, "b/c", "v", 9)), facts: "3:-", calls: "0.1 4..", net: 1})
	if !same(r.Calls[0], impl.Call{Client: 0, Req: 1, Op: op(impl.OpTake, "b/c", "v", 9), From: 4, To: -1}) {
		t.Errorf("%v", r.Calls[0])
	}
}

func TestRetries(t *testing.T) {
	for _, p := range []played{
		{what: "nothing is waited for", s: one().retries(0, 0), facts: "3:-"},
		{what: "no such client", s: one().calls(0, 0, setA).retries(1, 0).retries(impl.MaxNum, 0), facts: "3:-", calls: "0.1 4..", net: 1},
		{what: "no such server", s: one().calls(0, 0, setA).retries(0, 1).retries(0, 4), facts: "3:-", calls: "0.1 4..", net: 1},
		{what: "sent again", s: one().calls(0, 0, setA).retries(0, 0), facts: "3:-", calls: "0.1 4..", net: 2},
		{what: "lost and sent again", s: one().calls(0, 0, setA).drops(0).retries(0, 0).hears(2), facts: "3:- 7:0.1", calls: "0.1 4..8 well@2"},
		{what: "to another one", s: three().calls(0, 2, setA).hears(1).retries(0, 0).hears(1), facts: "10:-", calls: "0.1 16..", net: 2},
		{what: "to one that is down", s: three().calls(0, 2, setA).falls(2).retries(0, 2).hears(2), facts: "10:-", calls: "0.1 16.."},
		{what: "behind a reply", s: one().calls(0, 0, setA).hears(2).retries(0, 0), facts: "3:- 5:0.1", calls: "0.1 4..6 well@2"},
	} {
		mustPlay(t, p)
	}
}

// A request that comes twice stands at one place, and is answered as before; an older one is not answered.
func TestRequestsThatComeTwice(t *testing.T) {
	setB := op(impl.OpSet, "b", "y", 0)
	asked := three().calls(0, 0, setA)
	for _, p := range []played{
		{what: "applied already", s: one().calls(0, 0, setA).doubles(0).hears(1), facts: "3:- 5:0.1", calls: "0.1 4..", net: 2},
		{what: "applied already, both replies heard", s: one().calls(0, 0, setA).doubles(0).hears(3), facts: "3:- 5:0.1", calls: "0.1 4..7 well@2"},
		{what: "at work still", s: asked.doubles(0).hears(1), facts: "10:-", calls: "0.1 16..", net: 2},
		{what: "another one's at work", s: asked.calls(1, 0, setA).hears(2), facts: "10:-", calls: "0.1 16..; 1.1 17..", net: 4},
		{what: "older than the last one", s: one().calls(0, 0, setA).retries(0, 0).hearsAt(0).hearsAt(1).calls(0, 0, setB).hearsAt(1).hearsAt(1).hears(1),
			facts: "3:- 6:0.1 9:0.2", calls: "0.1 4..7 well@2; 0.2 8..10 well@3"},
		{what: "older, while the next one is at work", s: asked.retries(0, 0).hears(1).hearsAt(1).hearsAt(1).hearsAt(1).hearsAt(1).hearsAt(3).calls(0, 0, setB),
			facts: "10:- 21:0.1", calls: "0.1 16..23 well@2; 0.2 24..", net: 4},
		{what: "an older reply", s: one().calls(0, 0, setA).doubles(0).hears(1).hearsAt(0).calls(0, 0, setB).hears(1), facts: "3:- 5:0.1", calls: "0.1 4..7 well@2; 0.2 8..", net: 1},
	} {
		mustPlay(t, p)
	}
}

func TestDeliveringDoublingDropping(t *testing.T) {
	first := cast(3, 1).ticks(0, 3)
	for _, p := range []played{
		{what: "nothing to deliver", s: cast(1, 1).hears(1).hearsAt(7)},
		{what: "nothing to double", s: cast(1, 1).doubles(0).doubles(impl.MaxNum)},
		{what: "nothing to drop", s: cast(1, 1).drops(0).drops(3)},
		{what: "dropped", s: first.drops(0), net: 1},
		{what: "all dropped", s: first.drops(1).drops(1)},
		{what: "doubled", s: first.doubles(0), net: 3},
	} {
		mustPlay(t, p)
	}
	voted := func(what string, s scene, want ...int) {
		t.Helper()
		r := mustRun(t, s, false)
		var got []int
		for id, n := range r.Nodes {
			if n.Vote == 0 && id > 0 {
				got = append(got, id)
			}
		}
		if !slices.Equal(got, want) {
			t.Errorf("%s: %v voted, not %v", what, got, want)
		}
	}
	five := cast(5, 1).ticks(0, 3)
	voted("the first one", five.hearsAt(0), 1)
	voted("the last one", five.hearsAt(3), 4)
	voted("once round", five.hearsAt(4), 1)
	voted("far round", five.hearsAt(impl.MaxNum), 4)
	voted("far round, twice", five.hearsAt(impl.MaxNum).hearsAt(impl.MaxNum-1), 3, 4)
	voted("doubled", five.doubles(6), 3)
	voted("doubled and delivered", five.doubles(2).hearsAt(3), 3, 4)
	voted("what is dropped is not heard", five.drops(1).hears(3), 1, 3, 4)
	voted("dropped far round", five.drops(impl.MaxNum).hears(3), 1, 2, 3)
	voted("what one that is down hears", five.falls(3).hears(4).starts(3), 1, 2, 4)
	voted("what one that is down hears, and stays", five.falls(3).doubles(2).starts(3).hearsAt(2), 3)
}

// Each tick of the one that leads says four messages; 80 find room.
func TestAFullNet(t *testing.T) {
	lead := cast(5, 1).ticks(0, 3).hears(8).drops(0).drops(0).drops(0)
	full := lead.ticks(0, 20)
	for _, p := range []played{
		{what: "room for three more", s: lead.ticks(0, 19), net: 77},
		{what: "the fourth one is lost", s: full, net: 80},
		{what: "full to the last place", s: lead.drops(0).ticks(0, 20), net: 80},
		{what: "one more tick", s: lead.drops(0).ticks(0, 21), net: 80},
		{what: "a call that is lost", s: full.calls(0, 0, setA), calls: "0.1 35..", net: 80},
		{what: "a call that finds the last place", s: full.drops(0).calls(0, 0, setA), calls: "0.1 36..", net: 80},
		{what: "a retry that is lost", s: full.calls(0, 0, setA).drops(0).retries(0, 0).retries(0, 0), calls: "0.1 35..", net: 80},
		{what: "what is delivered makes room", s: full.hears(1), net: 80},
		{what: "what is doubled makes none", s: full.doubles(0), net: 80},
		{what: "dropped", s: full.drops(79), net: 79},
	} {
		r := mustPlay(t, p)
		if n := r.Nodes[0]; n.Role != impl.RoLead || n.Commit != 0 {
			t.Errorf("%s: %s", p.what, nodeText(n))
		}
	}
	// Two were heard when the first one commits: of what it tells, that to 1 and to 2 finds room, at the end.
	told := cast(5, 1).ticks(0, 3).hears(10).ticks(0, 20).hearsAt(2).hearsAt(2)
	if r := mustPlay(t, played{what: "two find room", s: told, facts: "35:-", net: 80}); r.Nodes[2].Commit != 0 || r.Nodes[1].Commit != 0 {
		t.Errorf("%v", r.Nodes)
	}
	r := mustPlay(t, played{what: "and are heard", s: told.hearsAt(79).hearsAt(78), facts: "35:-", net: 80})
	for id, commit := range []int{1, 1, 1, 0, 0} {
		if r.Nodes[id].Commit != commit {
			t.Errorf("%d: %s", id, nodeText(r.Nodes[id]))
		}
	}
}

func TestTicksOfServersThatAreNot(t *testing.T) {
	for _, p := range []played{
		{what: "no such server", s: cast(2, 1).ticks(2, 9).ticks(4, 20)},
		{what: "down", s: cast(2, 1).falls(0).ticks(0, 9)},
		{what: "up again", s: cast(2, 1).falls(0).ticks(0, 9).starts(0).ticks(0, 3), net: 1},
		{what: "up again, waiting from 0 on", s: cast(2, 1).ticks(0, 2).falls(0).starts(0).ticks(0, 2)},
		{what: "the second one waits longer", s: cast(2, 1).ticks(1, 4)},
		{what: "the second one stands", s: cast(2, 1).ticks(1, 5), net: 1},
	} {
		mustPlay(t, p)
	}
}

func TestFallsAndStarts(t *testing.T) {
	called := three().calls(0, 0, setA).hears(10)
	whole := mustPlay(t, played{what: "before", s: called, facts: "10:- 20:0.1", calls: "0.1 16..24 well@2"})
	for id := range 3 {
		r := mustPlay(t, played{what: "down", s: called.falls(id), facts: "10:- 20:0.1", calls: "0.1 16..24 well@2"})
		if !same(r.Nodes[id], modelFall(whole.Nodes[id], 3)) || !same(r.States[id], impl.State{}) || r.Up[id] {
			t.Errorf("%d fell: %s, %v, up %v", id, nodeText(r.Nodes[id]), r.States[id], r.Up[id])
		}
		again := mustPlay(t, played{what: "down twice", s: called.falls(id).falls(id), facts: "10:- 20:0.1", calls: "0.1 16..24 well@2"})
		if !same(again, r) {
			t.Errorf("%d fell twice: %v", id, again)
		}
		up := mustPlay(t, played{what: "up", s: called.falls(id).starts(id), facts: "10:- 20:0.1", calls: "0.1 16..24 well@2"})
		if !slices.Equal(up.Up, []bool{true, true, true}) || !same(up.Nodes, r.Nodes) || !same(up.States, r.States) {
			t.Errorf("%d started: %v", id, up)
		}
		for other := range 3 {
			if other != id && (!same(r.Nodes[other], whole.Nodes[other]) || !same(r.States[other], whole.States[other]) || !r.Up[other]) {
				t.Errorf("%d fell, and %d turned", id, other)
			}
		}
	}
	none := mustPlay(t, played{what: "no such server", s: called.falls(3).starts(3).falls(4).starts(4), facts: "10:- 20:0.1", calls: "0.1 16..24 well@2"})
	if !same(none, whole) {
		t.Errorf("%v", none)
	}
	still := mustPlay(t, played{what: "started while up", s: called.starts(0).starts(2), facts: "10:- 20:0.1", calls: "0.1 16..24 well@2"})
	if !same(still, whole) {
		t.Errorf("%v", still)
	}
}

// Who fell applies all again, when it hears what is committed; who leads answers again.
func TestAppliedAgain(t *testing.T) {
	for _, p := range []played{
		{what: "fallen", s: one().calls(0, 0, setA).hears(2).falls(0).starts(0).reads(0, "a"), facts: "3:- 5:0.1", calls: "0.1 4..6 well@2", reads: "9@0 a>0 k0 0-"},
		{what: "leading again", s: one().calls(0, 0, setA).hears(2).falls(0).starts(0).ticks(0, 3).reads(0, "a"),
			facts: "3:- 5:0.1 11:-", calls: "0.1 4..6 well@2", reads: "12@0 a>0 k3 2=x", net: 1},
		{what: "the first reply was lost", s: one().calls(0, 0, setA).hears(1).drops(0).falls(0).starts(0).ticks(0, 3).hears(1),
			facts: "3:- 5:0.1 11:-", calls: "0.1 4..12 well@2"},
		{what: "watched since it fell", s: one().calls(0, 0, setA).hears(2).falls(0).starts(0).watches(0, "a", 0).watches(0, "a", 1).watches(0, "a", 2).ticks(0, 3),
			facts: "3:- 5:0.1 14:-", calls: "0.1 4..6 well@2", watch: "14@0 a>0 k2 2=x; 14@0 a>1 k2 2=x", net: 1},
		{what: "a follower", s: three().calls(0, 0, setA).hears(10).falls(2).starts(2).reads(2, "a").ticks(0, 1).hearsAt(1).reads(2, "a"),
			facts: "10:- 20:0.1", calls: "0.1 16..24 well@2", reads: "29@2 a>0 k0 0-; 32@2 a>0 k2 2=x", net: 2},
	} {
		mustPlay(t, p)
	}
}

func TestReads(t *testing.T) {
	for _, p := range []played{
		{what: "nothing yet", s: cast(2, 1).reads(0, "a").reads(1, "b/c"), reads: "1@0 a>0 k0 0-; 2@1 b/c>0 k0 0-"},
		{what: "no such server", s: cast(2, 1).reads(2, "a").reads(4, "a")},
		{what: "down", s: cast(2, 1).falls(1).reads(1, "a").starts(1).reads(1, "a"), reads: "4@1 a>0 k0 0-"},
		{what: "set", s: one().calls(0, 0, setA).reads(0, "a").hears(1).reads(0, "a").reads(0, "b"), facts: "3:- 6:0.1", calls: "0.1 4..",
			reads: "5@0 a>0 k1 0-; 7@0 a>0 k2 2=x; 8@0 b>0 k2 0-", net: 1},
		{what: "deleted", s: one().calls(0, 0, setA).hears(2).calls(0, 0, op(impl.OpDel, "a", "", 0)).hears(2).reads(0, "a"),
			facts: "3:- 5:0.1 8:0.2", calls: "0.1 4..6 well@2; 0.2 7..9 well@3", reads: "10@0 a>0 k3 3-"},
		{what: "each tells its own", s: three().calls(0, 0, setA).hears(5).reads(0, "a").reads(1, "a").reads(2, "a").hearsAt(1).reads(1, "a").reads(2, "a"),
			facts: "10:- 20:0.1", calls: "0.1 16..",
			reads: "22@0 a>0 k2 2=x; 23@1 a>0 k1 0-; 24@2 a>0 k1 0-; 26@1 a>0 k1 0-; 27@2 a>0 k2 2=x", net: 3},
	} {
		mustPlay(t, p)
	}
	mustPlay(t, played{what: "its number plays no part", s: one().then(1, impl.Action{Kind: impl.AcRead, I: 7, Key: []byte("a")}), facts: "3:-", reads: "4@0 a>0 k1 0-"})
	// A script has too few actions for MaxNotes: all its reads are told.
	if r := mustRun(t, cast(1, 1).then(impl.MaxScript, impl.Action{Kind: impl.AcRead, Key: []byte("a")}), false); len(r.Reads) != impl.MaxScript {
		t.Errorf("%d reads", len(r.Reads))
	}
}

func TestWatches(t *testing.T) {
	set := one().calls(0, 0, setA).hears(2)
	again := func(s scene) scene { return s.calls(0, 0, op(impl.OpSet, "a", "y", 0)).hears(2) }
	was := "3:- 5:0.1"
	back := "0.1 4..6 well@2"
	for _, p := range []played{
		{what: "told at once", s: set.watches(0, "a", 0), facts: was, calls: back, watch: "7@0 a>0 k2 2=x"},
		{what: "told at once, one below", s: set.watches(0, "a", 1), facts: was, calls: back, watch: "7@0 a>1 k2 2=x"},
		{what: "not above", s: set.watches(0, "a", 2).watches(0, "a", 3).watches(0, "a", impl.MaxNum), facts: was, calls: back},
		{what: "told when it turns", s: again(set.watches(0, "a", 2)), facts: was + " 9:0.2", calls: back + "; 0.2 8..10 well@3", watch: "9@0 a>2 k3 3=y"},
		{what: "not above yet", s: again(set.watches(0, "a", 3)), facts: was + " 9:0.2", calls: back + "; 0.2 8..10 well@3"},
		{what: "told once", s: again(set.watches(0, "a", 0)), facts: was + " 9:0.2", calls: back + "; 0.2 8..10 well@3", watch: "7@0 a>0 k2 2=x"},
		{what: "others go on", s: again(set.watches(0, "a", 3).watches(0, "a", 0).watches(0, "b", 0).watches(0, "a", 2)), facts: was + " 12:0.2",
			calls: back + "; 0.2 11..13 well@3", watch: "8@0 a>0 k2 2=x; 12@0 a>2 k3 3=y"},
		{what: "in their order", s: again(set.watches(0, "a", 2).watches(0, "b", 0).watches(0, "a", 2)), facts: was + " 11:0.2",
			calls: back + "; 0.2 10..12 well@3", watch: "11@0 a>2 k3 3=y; 11@0 a>2 k3 3=y"},
		{what: "another key", s: again(set.watches(0, "b", 0)), facts: was + " 9:0.2", calls: back + "; 0.2 8..10 well@3"},
		{what: "when it goes", s: set.watches(0, "a", 2).calls(0, 0, op(impl.OpDel, "a", "", 0)).hears(1), facts: was + " 9:0.2",
			calls: back + "; 0.2 8..", watch: "9@0 a>2 k3 3-", net: 1},
		{what: "gone with its server", s: again(set.watches(0, "a", 2).falls(0).starts(0).ticks(0, 3)), facts: was + " 12:- 15:0.2", calls: back + "; 0.2 13..", net: 1},
		{what: "no such server", s: set.watches(1, "a", 0).watches(4, "a", 0), facts: was, calls: back},
		{what: "down", s: set.falls(0).watches(0, "a", 0).starts(0).ticks(0, 3), facts: was + " 12:-", calls: back, net: 1},
	} {
		mustPlay(t, p)
	}
	r := mustRun(t, set.then(impl.MaxScript-len(set.script), impl.Action{Kind: impl.AcWatch, Key: []byte("a")}), false)
	if len(r.Watch) != impl.MaxScript-len(set.script) {
		t.Errorf("%d notes", len(r.Watch))
	}
}

// What is committed is applied place by place: who looks tells each of them by itself, though they came at once.
func TestAppliedPlaceByPlace(t *testing.T) {
	two := three().falls(2).calls(0, 0, setA).hears(4)
	r := mustPlay(t, played{what: "without the third one", s: two, facts: "10:- 21:0.1", calls: "0.1 17..", net: 3})
	if r.States[0].Index != 2 {
		t.Errorf("%v", r.States[0])
	}
	late := two.starts(2).watches(2, "b", 0).watches(2, "a", 0).drops(0).drops(0).hears(1)
	late = late.calls(1, 0, op(impl.OpSet, "b", "y", 0)).hears(2).drops(0).hears(1)
	mustPlay(t, played{what: "late", s: late, facts: "10:- 21:0.1 32:1.1", calls: "0.1 17..27 well@2; 1.1 28..", net: 3})
	mustPlay(t, played{what: "told at once", s: late.hearsAt(1), facts: "10:- 21:0.1 32:1.1", calls: "0.1 17..27 well@2; 1.1 28..",
		watch: "33@2 a>0 k2 2=x; 33@2 b>0 k3 3=y", net: 3})
}

// What a server says is sent ahead of the replies to what it applies then.
func TestRepliesGoBehindWhatIsSaid(t *testing.T) {
	committed := three().calls(0, 0, setA).hears(4)
	mustPlay(t, played{what: "committed", s: committed, facts: "10:- 20:0.1", calls: "0.1 16..", net: 4})
	mustPlay(t, played{what: "the last message", s: committed.hearsAt(3), facts: "10:- 20:0.1", calls: "0.1 16..21 well@2", net: 3})
	both := cast(2, 2).ticks(0, 3).hears(6).calls(1, 0, setA).calls(0, 0, setA).hears(2)
	mustPlay(t, played{what: "two at work", s: both, facts: "7:-", calls: "1.1 10..; 0.1 11..", net: 2})
	// The first message had one of them, the second one both, so their second answer commits them at once.
	applied := both.hears(2).hearsAt(1)
	mustPlay(t, played{what: "two at once", s: applied, facts: "7:- 16:1.1 16:0.1", calls: "1.1 10..; 0.1 11..", net: 4})
	mustPlay(t, played{what: "the first reply", s: applied.hearsAt(2), facts: "7:- 16:1.1 16:0.1", calls: "1.1 10..17 well@2; 0.1 11..", net: 3})
	mustPlay(t, played{what: "the second reply", s: applied.hearsAt(3), facts: "7:- 16:1.1 16:0.1", calls: "1.1 10..; 0.1 11..17 well@3", net: 3})
}

// One that does not lead applies and answers nobody.
func TestWhoDoesNotLeadAnswersNobody(t *testing.T) {
	s := three().calls(0, 0, setA).hears(6)
	r := mustPlay(t, played{what: "a follower applies", s: s, facts: "10:- 20:0.1", calls: "0.1 16..", net: 3})
	if r.States[1].Index != 2 || len(r.Calls) != 1 {
		t.Errorf("%v", r.States[1])
	}
	mustPlay(t, played{what: "one reply there is", s: s.drops(1).drops(0).hears(2), facts: "10:- 20:0.1", calls: "0.1 16..", net: 0})
}

func TestSettling(t *testing.T) {
	isolated := three().ticks(1, 5).drops(0).hears(2).drops(0).hears(2).drops(0).hears(2)
	for _, c := range []struct {
		what         string
		s            scene
		rounds       int
		facts, calls string
	}{
		{"alone", cast(1, 1), 3, "0:-", ""},
		{"alone, having waited", cast(1, 1).ticks(0, 2), 1, "2:-", ""},
		{"alone, leading", one(), 0, "3:-", ""},
		{"alone, down", one().falls(0), 3, "3:- 4:-", ""},
		{"alone, called", cast(1, 1).calls(0, 0, setA), 3, "2:- 3:0.1", "0.1 1..4 well@2"},
		{"alone, called in time", one().calls(0, 0, setA), 0, "3:- 5:0.1", "0.1 4..6 well@2"},
		{"quiet already", three(), 0, "10:-", ""},
		{"messages are left", cast(3, 2).ticks(0, 3).hears(3), 0, "10:-", ""},
		{"nothing yet", cast(3, 1), 3, "7:-", ""},
		{"commits were lost", cast(3, 2).ticks(0, 3).hears(8).drops(0).drops(0), 1, "10:-", ""},
		{"items were lost", cast(3, 2).ticks(0, 3).hears(4).drops(0).drops(0), 1, "12:-", ""},
		{"one lacks an item", cast(3, 2).ticks(0, 3).hears(5).drops(0).hears(1).drops(0).drops(0), 1, "10:-", ""},
		{"one lacks an item, and knows nothing of it", three().calls(0, 0, setA).hears(2).drops(0).hears(1).drops(1).hears(3), 1, "10:- 20:0.1", "0.1 16..23 well@2"},
		{"a client waits", three().calls(0, 1, setA), 1, "10:- 25:0.1", "0.1 16..29 well@2"},
		{"the reply was lost", three().calls(0, 0, setA).hears(4).drops(3), 1, "10:- 20:0.1", "0.1 16..32 well@2"},
		{"another one stands", three().ticks(1, 5).drops(0).drops(0), 4, "10:- 33:-", ""},
		{"two lead", isolated, 1, "10:- 26:-", ""},
		{"all down", three().falls(0).falls(1).falls(2), 3, "10:- 25:-", ""},
		{"one of five", cast(5, 4).falls(0).falls(1).falls(2).falls(3), 3, "18:-", ""},
	} {
		r := mustRun(t, c.s, true)
		mustBe(t, c.what+": facts", factTexts(r.Facts), c.facts)
		mustBe(t, c.what+": calls", callTexts(r.Calls), c.calls)
		if r.Rounds != c.rounds || r.Net != 0 || slices.Contains(r.Up, false) {
			t.Errorf("%s: %d rounds, not %d; %d messages, up %v", c.what, r.Rounds, c.rounds, r.Net, r.Up)
		}
		if still := mustRun(t, c.s, false); still.Rounds != 0 {
			t.Errorf("%s: not settled, and %d rounds", c.what, still.Rounds)
		}
	}
	if quiet := mustRun(t, three(), true); !same(quiet, mustRun(t, three(), false)) {
		t.Errorf("settling turned what was quiet: %v", quiet)
	}
}

func fact(client, req int, o impl.Op) impl.Fact {
	return impl.Fact{At: -5, Cmd: impl.Cmd{Client: client, Req: req, Op: o}}
}

func mustFollow(t *testing.T, what string, l []impl.Fact, index, replies int) (impl.State, []impl.Reply) {
	t.Helper()
	s, told := impl.Follow(l)
	want, tell := modelFollow(l)
	if !same(s, want) || !same(told, tell) || s.Index != index || len(told) != replies {
		t.Fatalf("%s: Follow tells %v, %v", what, s, told)
	}
	return s, told
}

func TestFollow(t *testing.T) {
	nobodys, first := fact(-1, 0, impl.Op{}), fact(0, 1, setA)
	second := fact(0, 2, op(impl.OpDel, "b", "", 0))
	mustFollow(t, "nothing", nil, 0, 0)
	mustFollow(t, "an empty list", []impl.Fact{}, 0, 0)
	mustFollow(t, "nobody's", []impl.Fact{nobodys}, 1, 1)
	s, told := mustFollow(t, "some", []impl.Fact{nobodys, first, second, first, second}, 5, 5)
	if want := []impl.Reply{{Index: 1}, {Index: 2}, {Code: impl.RpNone, Index: 3}, {Code: impl.RpOld, Index: 4}, {Code: impl.RpNone, Index: 3}}; !slices.Equal(told, want) {
		t.Errorf("%v", told)
	}
	if !same(impl.Look(s, []byte("a")), impl.View{Index: 2, Has: true, Val: []byte("x")}) {
		t.Errorf("%v", s)
	}
	for _, bad := range []impl.Fact{{}, fact(4, 1, setA), fact(-2, 1, setA), fact(0, 0, setA), fact(-1, 0, setA), fact(-1, 1, impl.Op{}), fact(0, 1, op(impl.OpSet, "A", "", 0)), fact(0, impl.MaxIndex+1, setA)} {
		mustFollow(t, "bad alone", []impl.Fact{bad}, 0, 0)
		mustFollow(t, "bad at first", []impl.Fact{bad, first, second}, 0, 0)
		mustFollow(t, "bad in the middle", []impl.Fact{nobodys, first, bad, second, bad}, 2, 2)
		mustFollow(t, "bad at last", []impl.Fact{nobodys, first, second, bad}, 3, 3)
		mustFollow(t, "too many, and bad", append(slices.Repeat([]impl.Fact{nobodys}, impl.MaxLog), bad), 0, 0)
		mustFollow(t, "many, and bad", append(slices.Repeat([]impl.Fact{nobodys}, impl.MaxLog-1), bad), impl.MaxLog-1, impl.MaxLog-1)
	}
	for size, index := range map[int]int{399: 399, 400: 400, 401: 0, 402: 0, 2000: 0} {
		mustFollow(t, "many", slices.Repeat([]impl.Fact{first}, size), index, index)
	}
	// What lies behind the length is not read.
	mustFollow(t, "cut", slices.Repeat([]impl.Fact{nobodys}, 500)[:3], 3, 3)
}
