package tests

import (
	"fmt"
	"math/rand"
	"slices"
	"strings"
	"testing"

	"loop.example/g00365/impl"
)

// scene is a script with those who play it.
type scene struct {
	servers, clients int
	script           []impl.Action
}

func (s scene) String() string {
	var out strings.Builder
	fmt.Fprintf(&out, "%d servers, %d clients:", s.servers, s.clients)
	for _, a := range s.script {
		name := []string{"call", "retry", "deliver", "double", "drop", "tick", "crash", "start", "read", "watch"}[a.Kind]
		fmt.Fprintf(&out, " %s(%d %d %d%q%q%d %q)", name, a.Node, a.I, a.Op.Kind, a.Op.Key, a.Op.Val, a.Op.N, a.Key)
	}
	return out.String()
}

func (s scene) upTo(actions int) scene {
	s.script = slices.Clone(s.script[:actions])
	return s
}

// withAllFalling answers the scene with a fall of each server behind it.
func (s scene) withAllFalling() scene {
	s.script = slices.Clone(s.script)
	for id := range s.servers {
		s.script = append(s.script, impl.Action{Kind: impl.AcCrash, Node: id})
	}
	return s
}

func (s scene) run(settle bool) impl.Result {
	return impl.Run(s.servers, s.clients, s.script, settle)
}

// statesOf answers the states behind 0, 1 .. facts, and the replies.
func statesOf(facts []impl.Fact) ([]impl.State, []impl.Reply) {
	states := make([]impl.State, 1)
	var replies []impl.Reply
	for _, fact := range facts {
		s, reply := modelApply(states[len(states)-1], fact.Cmd)
		states, replies = append(states, s), append(replies, reply)
	}
	return states, replies
}

// Promise 7.
func mustBeOneList(t *testing.T, s scene, r impl.Result) {
	t.Helper()
	if !r.Ok || r.Split {
		t.Fatalf("%v: Ok %v, Split %v", s, r.Ok, r.Split)
	}
	state, told := impl.Follow(r.Facts)
	states, replies := statesOf(r.Facts)
	if !slices.Equal(told, replies) || !same(state, states[len(r.Facts)]) {
		t.Fatalf("%v: Follow tells %v, %v", s, state, told)
	}
	for _, call := range r.Calls {
		if call.To == -1 {
			if call.Reply != (impl.Reply{}) {
				t.Fatalf("%v: %v has a reply and did not come back", s, call)
			}
			continue
		}
		at := slices.IndexFunc(r.Facts, func(f impl.Fact) bool { return f.Cmd.Client == call.Client && f.Cmd.Req == call.Req })
		if at < 0 || replies[at] != call.Reply || r.Facts[at].At < call.From || r.Facts[at].At > call.To || !same(r.Facts[at].Cmd.Op, call.Op) {
			t.Fatalf("%v: %v is not what place %d of %v tells", s, call, at+1, r.Facts)
		}
	}
	for _, note := range slices.Concat(r.Reads, r.Watch) {
		if note.K < 0 || note.K > len(r.Facts) || !same(note.View, impl.Look(states[note.K], note.Key)) {
			t.Fatalf("%v: %v is not what the first facts tell", s, note)
		}
	}
}

// Promise 8.
func mustBeSettled(t *testing.T, s scene, r impl.Result) {
	t.Helper()
	if len(r.Facts) > impl.MaxLog/2-20 {
		return
	}
	state, _ := impl.Follow(r.Facts)
	leads := 0
	for id, n := range r.Nodes {
		if n.Role == impl.RoLead {
			leads++
		}
		if len(n.Log) != len(r.Facts) || n.Commit != len(r.Facts) || !same(r.States[id], state) || !r.Up[id] {
			t.Fatalf("%v: server %d is %s with state %v, up %v", s, id, nodeText(n), r.States[id], r.Up[id])
		}
	}
	if leads != 1 || r.Rounds >= 60 || r.Net != 0 {
		t.Fatalf("%v: %d lead, %d rounds, %d messages", s, leads, r.Rounds, r.Net)
	}
	for _, call := range r.Calls {
		if call.To < 0 {
			t.Fatalf("%v: %v did not come back", s, call)
		}
	}
}

// Promise 9, of a result of a scene's first actions and one of all of it.
func mustBeABeginning(t *testing.T, s scene, actions int, part, whole impl.Result) {
	t.Helper()
	if len(part.Facts) > len(whole.Facts) || !same(part.Facts, whole.Facts[:len(part.Facts)]) {
		t.Fatalf("%v: up to %d the facts are %v, then %v", s, actions, part.Facts, whole.Facts)
	}
	if len(part.Reads) > len(whole.Reads) || !same(part.Reads, whole.Reads[:len(part.Reads)]) {
		t.Fatalf("%v: up to %d the reads are %v, then %v", s, actions, part.Reads, whole.Reads)
	}
	if len(part.Watch) > len(whole.Watch) || !same(part.Watch, whole.Watch[:len(part.Watch)]) {
		t.Fatalf("%v: up to %d the watches are %v, then %v", s, actions, part.Watch, whole.Watch)
	}
	if len(part.Calls) > len(whole.Calls) {
		t.Fatalf("%v: up to %d there are %d calls, then %d", s, actions, len(part.Calls), len(whole.Calls))
	}
	for i, call := range part.Calls {
		then := whole.Calls[i]
		if call.To == -1 && then.To != -1 {
			if then.To <= actions {
				t.Fatalf("%v: up to %d there is %v, then %v", s, actions, call, then)
			}
			then.To, then.Reply = -1, impl.Reply{}
		}
		if !same(call, then) {
			t.Fatalf("%v: up to %d there is %v, then %v", s, actions, call, then)
		}
	}
}

// Promise 11, with who led in each term so far.
func mustAgreeOnLogs(t *testing.T, s scene, r impl.Result, led map[int]int) {
	t.Helper()
	newest := 0
	for _, n := range r.Nodes {
		newest = max(newest, n.Term)
	}
	for id, n := range r.Nodes {
		if !modelNode(n, s.servers) || n.Id != id {
			t.Fatalf("%v: server %d is %s", s, id, nodeText(n))
		}
		if n.Role == impl.RoLead {
			if other, is := led[n.Term]; is && other != id {
				t.Fatalf("%v: in term %d both %d and %d lead", s, n.Term, other, id)
			}
			led[n.Term] = id
			if n.Term == newest {
				mustBegin(t, s, n, r.Facts)
			}
		}
		mustBegin(t, s, impl.Node{Id: id, Log: n.Log}, r.Facts[:n.Commit])
		for _, other := range r.Nodes[:id] {
			mustBeAlikeAhead(t, s, n, other)
		}
	}
}

func mustBegin(t *testing.T, s scene, n impl.Node, facts []impl.Fact) {
	t.Helper()
	for i, fact := range facts {
		if i >= len(n.Log) || !same(n.Log[i].Cmd, fact.Cmd) {
			t.Fatalf("%v: server %d lacks the fact at %d", s, n.Id, i+1)
		}
	}
}

func mustBeAlikeAhead(t *testing.T, s scene, a, b impl.Node) {
	t.Helper()
	for i := min(len(a.Log), len(b.Log)) - 1; i >= 0; i-- {
		if a.Log[i].Term == b.Log[i].Term {
			if !sameLog(a.Log[:i+1], b.Log[:i+1]) {
				t.Fatalf("%v: up to place %d, %d and %d have unlike items", s, i+1, a.Id, b.Id)
			}
			return
		}
	}
}

// Promise 12.
func mustGoForward(t *testing.T, s scene, r impl.Result) {
	t.Helper()
	for _, note := range r.Watch {
		if note.View.Index <= note.Since {
			t.Fatalf("%v: %v is told, and is not above Since", s, note)
		}
	}
	notes := slices.Concat(r.Reads, r.Watch)
	slices.SortStableFunc(notes, func(a, b impl.Note) int { return a.At - b.At })
	for id := range s.servers {
		most, at := 0, 0
		for _, note := range notes {
			if note.Node != id {
				continue
			}
			for ; at < min(note.At, len(s.script)); at++ {
				if a := s.script[at]; a.Kind == impl.AcCrash && a.Node == id {
					most = 0
				}
			}
			if note.K < most {
				t.Fatalf("%v: %v goes back behind %d", s, note, most)
			}
			most = note.K
		}
	}
}

// What promises 2, 3, 4 and 6 say of one state and one server, as it is seen here: states are what the committed facts leave, and facts are what most have.
func mustBeBacked(t *testing.T, s scene, r impl.Result) {
	t.Helper()
	states, _ := statesOf(r.Facts)
	for id, n := range r.Nodes {
		if !impl.StateOk(r.States[id]) || !sameState(r.States[id], states[n.Commit]) {
			t.Fatalf("%v: server %d has %v, and %d committed", s, id, r.States[id], n.Commit)
		}
	}
	for i, fact := range r.Facts {
		have := 0
		for _, n := range r.Nodes {
			if i < len(n.Log) && sameFact(impl.Fact{Cmd: n.Log[i].Cmd}, impl.Fact{Cmd: fact.Cmd}) {
				have++
			}
		}
		if 2*have <= s.servers {
			t.Fatalf("%v: %d have the fact at %d", s, have, i+1)
		}
	}
}

func mustKeepPromises(t *testing.T, s scene, r impl.Result, settled bool, led map[int]int) {
	t.Helper()
	mustBeOneList(t, s, r)
	mustBeBacked(t, s, r)
	mustAgreeOnLogs(t, s, r, led)
	mustGoForward(t, s, r)
	if settled {
		mustBeSettled(t, s, r)
	} else if r.Rounds != 0 {
		t.Fatalf("%v: %d rounds without settling", s, r.Rounds)
	}
	if len(r.Nodes) != s.servers || len(r.States) != s.servers || len(r.Up) != s.servers || r.Net < 0 || r.Net > impl.MaxNet {
		t.Fatalf("%v: %d servers, %d states, %d up, %d messages", s, len(r.Nodes), len(r.States), len(r.Up), r.Net)
	}
}

// moods are how likely each kind of action is in a scene that is drawn.
var moods = [][10]int{
	{20, 1, 90, 0, 0, 1, 0, 0, 1, 4},
	{15, 3, 80, 2, 2, 3, 1, 4, 2, 6},
	{12, 8, 45, 10, 12, 8, 0, 0, 4, 4},
	{12, 6, 60, 3, 3, 10, 2, 6, 3, 4},
	{10, 10, 15, 20, 1, 30, 0, 2, 3, 3},
	{1, 1, 1, 1, 1, 1, 1, 1, 1, 1},
	{8, 4, 60, 1, 1, 8, 3, 10, 3, 12},
}

func drawKind(r *rand.Rand, mood [10]int) int {
	all := 0
	for _, weight := range mood {
		all += weight
	}
	at := r.Intn(all)
	for kind, weight := range mood {
		if at < weight {
			return kind
		}
		at -= weight
	}
	return 0
}

func drawOp(r *rand.Rand) impl.Op {
	key, val := string("abcd/"[r.Intn(5)]), string("xyz"[r.Intn(3)])
	switch kind := 1 + r.Intn(7); kind {
	case impl.OpDel:
		return op(kind, key, "", 0)
	case impl.OpOpen:
		return op(kind, "", "", r.Intn(2))
	case impl.OpShut:
		return op(kind, "", "", 1+r.Intn(20))
	case impl.OpFree:
		return op(kind, key, "", 1+r.Intn(20))
	case impl.OpCas, impl.OpTake:
		return op(kind, key, val, 1+r.Intn(20))
	default:
		return op(impl.OpSet, key, val, 0)
	}
}

// drawer draws a scene with an eye on what has come of it so far, so that much comes of it.
type drawer struct {
	*rand.Rand
	mood [10]int
	live *modelCluster
}

func (d *drawer) server() int {
	if d.Intn(50) == 0 {
		return d.Intn(impl.MaxServers)
	}
	if d.Intn(4) > 0 {
		for id, n := range d.live.Nodes {
			if n.Role == impl.RoLead && d.Intn(3) > 0 {
				return id
			}
		}
	}
	return d.Intn(d.live.servers)
}

func (d *drawer) client(waits bool) int {
	if d.Intn(50) == 0 {
		return d.Intn(impl.MaxClients + 1)
	}
	for range 4 {
		if client := d.Intn(len(d.live.waits)); (d.live.waits[client] >= 0) == waits {
			return client
		}
	}
	return d.Intn(len(d.live.waits))
}

func (d *drawer) hasLead() bool {
	return slices.ContainsFunc(d.live.Nodes, func(n impl.Node) bool { return n.Role == impl.RoLead })
}

func (d *drawer) action() impl.Action {
	a := impl.Action{Kind: drawKind(d.Rand, d.mood), Node: d.server()}
	if d.Intn(3) > 0 && !d.hasLead() {
		a.Kind = impl.AcDeliver
		if len(d.live.net) == 0 {
			a.Kind, a.Node = impl.AcTick, d.Intn(d.live.servers)
		}
	}
	switch a.Kind {
	case impl.AcCall:
		a.I, a.Op = d.client(false), drawOp(d.Rand)
	case impl.AcRetry:
		a.I = d.client(true)
	case impl.AcDeliver, impl.AcDouble, impl.AcDrop:
		if d.Intn(3) == 0 {
			a.I = d.Intn(impl.MaxNum)
		}
	case impl.AcStart:
		if down := slices.Index(d.live.Up, false); down >= 0 {
			a.Node = down
		}
	case impl.AcRead, impl.AcWatch:
		a.Node, a.Key = d.Intn(d.live.servers), []byte{"abcd/"[d.Intn(5)]}
		if a.Kind == impl.AcWatch {
			a.I = d.Intn(len(d.live.Facts) + 3)
		}
	}
	return a
}

func drawScene(r *rand.Rand, most int) scene {
	s := scene{servers: 1 + r.Intn(5), clients: 1 + r.Intn(4)}
	d := drawer{Rand: r, mood: moods[r.Intn(len(moods))], live: newModelCluster(s.servers, s.clients)}
	size := most
	if r.Intn(2) == 0 {
		size = r.Intn(most + 1)
	}
	for range size {
		a := d.action()
		d.live.now++
		d.live.act(a)
		s.script = append(s.script, a)
	}
	return s
}

// What was seen in scenes that were drawn, so that they are known to be worth it.
type sights struct {
	scenes, facts, back, notBack, reads, watches, full, down, rounds, terms int
}

func (x *sights) see(r impl.Result) {
	x.scenes++
	x.facts += len(r.Facts)
	for _, call := range r.Calls {
		if call.To >= 0 {
			x.back++
		} else {
			x.notBack++
		}
	}
	x.reads += len(r.Reads)
	x.watches += len(r.Watch)
	if r.Net == impl.MaxNet {
		x.full++
	}
	if slices.Contains(r.Up, false) {
		x.down++
	}
	x.rounds = max(x.rounds, r.Rounds)
	for _, n := range r.Nodes {
		x.terms = max(x.terms, n.Term)
	}
}

func TestDrawnScenesGoAsTheModelTells(t *testing.T) {
	t.Parallel()
	r := rand.New(rand.NewSource(5))
	var seen, settled sights
	for range 300 {
		s := drawScene(r, impl.MaxScript)
		for _, settle := range []bool{false, true} {
			got, want := s.run(settle), modelRun(s.servers, s.clients, s.script, settle)
			if !same(got, want) {
				t.Fatalf("%v, settle %v:\n%+v\nand not\n%+v", s, settle, got, want)
			}
			if settle {
				settled.see(got)
			} else {
				seen.see(got)
			}
		}
	}
	mustHaveSeen(t, seen, settled)
}

func mustHaveSeen(t *testing.T, seen, settled sights) {
	t.Helper()
	few := seen.facts < 4*seen.scenes || seen.back < 2*seen.scenes || seen.notBack < seen.scenes || seen.reads < 3*seen.scenes ||
		3*seen.watches < seen.scenes || 50*seen.full < seen.scenes || 10*seen.down < seen.scenes || seen.terms < 10
	if few || settled.facts <= seen.facts || settled.notBack > 0 || settled.rounds < 4 {
		t.Errorf("too little was seen: %+v, settled %+v", seen, settled)
	}
}

func TestDrawnScenesKeepThePromises(t *testing.T) {
	t.Parallel()
	r := rand.New(rand.NewSource(50))
	var seen, settled sights
	for range 600 {
		s := drawScene(r, impl.MaxScript-impl.MaxServers)
		led := make(map[int]int)
		whole := s.run(false)
		mustKeepPromises(t, s, whole, false, led)
		seen.see(whole)
		end := s.run(true)
		mustKeepPromises(t, s, end, true, led)
		mustBeABeginning(t, s, len(s.script), whole, end)
		settled.see(end)
		for range 3 {
			actions := r.Intn(len(s.script) + 1)
			part := s.upTo(actions)
			begun := part.run(false)
			mustKeepPromises(t, part, begun, false, led)
			mustBeABeginning(t, s, actions, begun, whole)
			fallen := part.withAllFalling()
			again := fallen.run(true)
			mustKeepPromises(t, fallen, again, true, make(map[int]int))
			mustBeABeginning(t, fallen, actions, begun, again)
		}
	}
	mustHaveSeen(t, seen, settled)
}

// What the document does not name for an action's kind plays no part in it.
func TestFieldsThatPlayNoPart(t *testing.T) {
	t.Parallel()
	r := rand.New(rand.NewSource(52))
	for range 100 {
		s := drawScene(r, impl.MaxScript)
		noisy := s.upTo(len(s.script))
		for i := range noisy.script {
			switch a := &noisy.script[i]; a.Kind {
			case impl.AcDeliver, impl.AcDouble, impl.AcDrop:
				a.Node = r.Intn(impl.MaxServers)
			case impl.AcTick, impl.AcCrash, impl.AcStart, impl.AcRead:
				a.I = r.Intn(impl.MaxNum)
			}
		}
		if !same(noisy.run(true), s.run(true)) {
			t.Fatalf("%v goes another way than %v", noisy, s)
		}
	}
}

// eachScene calls f with the scene and each that has up to so many of the actions behind it.
func eachScene(s scene, actions []impl.Action, most int, f func(s scene)) {
	f(s)
	if most == 0 {
		return
	}
	for _, a := range actions {
		eachScene(s.then(1, a), actions, most-1, f)
	}
}

// All ways to go on from some scenes, by three actions.
func TestAllSmallScenes(t *testing.T) {
	b := op(impl.OpSet, "a", "y", 0)
	actions := cast(2, 2).hears(1).hearsAt(1).doubles(0).drops(0).ticks(0, 1).ticks(1, 1).falls(0).falls(1).starts(0).starts(1).
		calls(0, 0, setA).calls(1, 0, b).retries(0, 0).retries(0, 1).watches(1, "a", 1).reads(1, "a").script
	two := cast(2, 2).ticks(0, 3).hears(6)
	for name, s := range map[string]scene{
		"new":       cast(2, 2),
		"alone":     cast(1, 2).ticks(0, 3).calls(0, 0, setA),
		"standing":  cast(2, 2).ticks(0, 3).ticks(1, 4),
		"leading":   two,
		"at work":   two.calls(0, 0, setA).hears(1),
		"committed": two.calls(0, 0, setA).hears(3),
		"fallen":    two.calls(0, 0, setA).hears(3).falls(0),
		"two stand": two.ticks(1, 5).calls(0, 0, setA).hearsAt(1),
	} {
		t.Run(name, func(t *testing.T) {
			t.Parallel()
			eachScene(s, actions, 3, func(s scene) {
				for _, settle := range []bool{false, true} {
					if r, want := s.run(settle), modelRun(s.servers, s.clients, s.script, settle); !sameResult(r, want) {
						t.Fatalf("%v, settle %v:\n%+v\nand not\n%+v", s, settle, r, want)
					}
				}
			})
		})
	}
}

// sameResult answers like same, and is much quicker.
func sameResult(a, b impl.Result) bool {
	return a.Ok == b.Ok && a.Split == b.Split && a.Net == b.Net && a.Rounds == b.Rounds && slices.Equal(a.Up, b.Up) &&
		slices.EqualFunc(a.Nodes, b.Nodes, sameServer) && slices.EqualFunc(a.Facts, b.Facts, sameFact) &&
		slices.EqualFunc(a.Calls, b.Calls, sameCall) && slices.EqualFunc(a.Reads, b.Reads, sameNote) &&
		slices.EqualFunc(a.Watch, b.Watch, sameNote) && slices.EqualFunc(a.States, b.States, sameState)
}

func sameFact(a, b impl.Fact) bool {
	return a.At == b.At && sameLog([]impl.Item{{Cmd: a.Cmd}}, []impl.Item{{Cmd: b.Cmd}})
}

func sameCall(a, b impl.Call) bool {
	return a.From == b.From && a.To == b.To && a.Reply == b.Reply &&
		sameFact(impl.Fact{Cmd: impl.Cmd{Client: a.Client, Req: a.Req, Op: a.Op}}, impl.Fact{Cmd: impl.Cmd{Client: b.Client, Req: b.Req, Op: b.Op}})
}

func sameNote(a, b impl.Note) bool {
	return [5]int{a.At, a.Node, a.Since, a.K, a.View.Index} == [5]int{b.At, b.Node, b.Since, b.K, b.View.Index} &&
		a.View.Has == b.View.Has && string(a.Key) == string(b.Key) && string(a.View.Val) == string(b.View.Val)
}

func sameState(a, b impl.State) bool {
	return a.Index == b.Index && a.Lost == b.Lost && slices.Equal(a.Sess, b.Sess) && slices.Equal(a.Lasts, b.Lasts) &&
		slices.EqualFunc(a.Rows, b.Rows, func(x, y impl.Row) bool {
			return x.Turned == y.Turned && x.Holder == y.Holder && string(x.Key) == string(y.Key) && string(x.Val) == string(y.Val)
		}) &&
		slices.EqualFunc(a.Tombs, b.Tombs, func(x, y impl.Tomb) bool { return x.Index == y.Index && string(x.Key) == string(y.Key) })
}

func TestMemoryOfTheCluster(t *testing.T) {
	r := rand.New(rand.NewSource(500))
	for range 40 {
		s := drawScene(r, 150)
		script := withRoom(s.script)
		for _, settle := range []bool{false, true} {
			mustKeep(t, fmt.Sprintf("%v, settle %v", s, settle), []any{script}, func() []any {
				return []any{impl.Run(s.servers, s.clients, script, settle)}
			})
		}
		facts := withRoom(s.run(true).Facts)
		mustKeep(t, fmt.Sprintf("Follow(%v)", facts), []any{facts}, func() []any {
			state, replies := impl.Follow(facts)
			return []any{state, replies}
		})
	}
	for i := range script300() {
		a := withRoom(script300()[i])
		mustKeep(t, fmt.Sprint(a), []any{a}, func() []any { return []any{impl.ActionOk(a)} })
	}
	// The actions of this one share their keys and values, as notes and calls must not.
	shared := scene{servers: 1, clients: 1, script: script300()}
	mustKeep(t, "shared", []any{shared.script}, func() []any { return []any{shared.run(true)} })
	refused := withRoom(append(script300(), impl.Action{}))
	mustKeep(t, "refused", []any{refused}, func() []any { return []any{impl.Run(1, 1, refused, true)} })
	many := withRoom(slices.Repeat([]impl.Fact{fact(0, 1, setA)}, impl.MaxLog+1))
	mustKeep(t, "too many", []any{many}, func() []any {
		state, replies := impl.Follow(many)
		return []any{state, replies}
	})
}

// script300 answers the longest script: one server, called, read and watched over and over.
func script300() []impl.Action {
	s := one()
	for len(s.script)+6 <= impl.MaxScript {
		s = s.calls(0, 0, setA).hears(2).watches(0, "a", len(s.script)).reads(0, "a").watches(0, "a", 0)
	}
	return s.reads(0, "a").reads(0, "b").reads(0, "c").script
}

func TestTheLongestScript(t *testing.T) {
	s := scene{servers: 1, clients: 1, script: script300()}
	if len(s.script) != impl.MaxScript {
		t.Fatalf("%d actions", len(s.script))
	}
	r := mustRun(t, s, false)
	if len(r.Facts) != 50 || len(r.Calls) != 49 || len(r.Reads) != 52 || r.Calls[48].To < 0 {
		t.Errorf("%d facts, %d calls, %d reads", len(r.Facts), len(r.Calls), len(r.Reads))
	}
	mustRun(t, s, true)
	// The most facts that a script can bring about: nothing but calls, each heard and answered.
	most := cast(1, 4).ticks(0, 3)
	for len(most.script)+3 <= impl.MaxScript {
		most = most.calls(len(most.script)%4, 0, setA).hears(2)
	}
	if r := mustRun(t, most, true); len(r.Facts) != 100 || r.Rounds != 0 {
		t.Errorf("%d facts, %d rounds", len(r.Facts), r.Rounds)
	}
}

// Nothing is kept: an earlier answer stays as it was when others are asked for and written over.
func TestNothingOfTheClusterIsKept(t *testing.T) {
	s := scene{servers: 1, clients: 1, script: script300()}
	first, again := s.run(true), s.run(true)
	state, replies := impl.Follow(first.Facts)
	again.Facts[0].At, again.Nodes[0].Log[1].Cmd.Op.Key[0], again.Reads[0].Key[0], again.Calls[0].Op.Val[0] = 99, 'q', 'q', 'q'
	again.States[0].Rows[0].Key[0], again.Watch[0].View.Val[0], again.Up[0] = 'q', 'q', false
	other, _ := impl.Follow(again.Facts)
	other.Rows[0].Val[0] = 'q'
	if !same(first, modelRun(1, 1, s.script, true)) || !same(s.run(true), first) {
		t.Error("an answer turned")
	}
	if now, told := impl.Follow(first.Facts); !same(now, state) || !same(told, replies) {
		t.Error("Follow tells another thing")
	}
}

// Promises 9 and 11 at each of a scene's beginnings, with who led in each term from the first action on.
func TestEachBeginningOfDrawnScenes(t *testing.T) {
	t.Parallel()
	r := rand.New(rand.NewSource(51))
	for range 25 {
		s := drawScene(r, impl.MaxScript)
		whole, led := s.run(false), make(map[int]int)
		for actions := range s.script {
			part := s.upTo(actions)
			begun := part.run(false)
			mustAgreeOnLogs(t, part, begun, led)
			mustBeABeginning(t, s, actions, begun, whole)
		}
	}
}
