package tests

import (
	"fmt"
	"math/rand"
	"slices"
	"testing"

	"loop.example/g00365/impl"
)

// smallLogs answers the terms of all logs of at most so many items, with terms up to most that never go down.
func smallLogs(size, most int) [][]int {
	logs := [][]int{nil}
	for at := 0; at < len(logs); at++ {
		log := logs[at]
		if len(log) == size {
			continue
		}
		least := 1
		if len(log) > 0 {
			least = log[len(log)-1]
		}
		for term := least; term <= most; term++ {
			logs = append(logs, append(slices.Clone(log), term))
		}
	}
	return logs
}

func lastOr0(log []int) int {
	if len(log) == 0 {
		return 0
	}
	return log[len(log)-1]
}

// smallMsgs answers each message to a server of so many that has a term, a place and items of a small kind.
func smallMsgs(to, servers int) []impl.Msg {
	var all []impl.Msg
	for from := range servers {
		if from == to {
			continue
		}
		for term := 1; term <= 3; term++ {
			for prev := 0; prev <= 3; prev++ {
				all = append(all, ack(from, to, term, prev, false), ack(from, to, term, prev, true))
				for prevTerm := min(prev, 1); prevTerm <= min(prev*3, term); prevTerm++ {
					all = append(all, ask(from, to, term, prev, prevTerm))
					for _, log := range smallLogs(2, term) {
						for _, commit := range []int{0, 1, 3} {
							if m := add(from, to, term, prev, prevTerm, commit, log...); modelMsg(m) {
								all = append(all, m)
							}
						}
					}
				}
			}
			all = append(all, vote(from, to, term, false), vote(from, to, term, true))
		}
	}
	return all
}

// Each small server that follows, or stands, hears each small message.
func TestAllSmallServersThatFollow(t *testing.T) {
	t.Parallel()
	heard := 0
	msgs := smallMsgs(1, 2)
	for _, log := range smallLogs(3, 3) {
		for term := lastOr0(log); term <= 3; term++ {
			for commit := 0; commit <= len(log); commit++ {
				for vote := -1; vote <= 1; vote++ {
					for _, role := range []int{impl.RoFollow, impl.RoStand} {
						n := follows(1, 2, term, commit, log...)
						n.Vote, n.Role, n.Wait = vote, role, 2
						n.Votes[1] = role == impl.RoStand
						if !modelNode(n, 2) {
							continue
						}
						mustTick(t, n, 2)
						for _, m := range msgs {
							mustHear(t, n, 2, m)
							heard++
						}
					}
				}
			}
		}
	}
	if heard < 100000 {
		t.Errorf("only %d were heard", heard)
	}
}

// Each small server that leads of three hears small messages: all acks, and of the other kinds those that one of the others sends, with one item or Commit at most.
func TestAllSmallServersThatLead(t *testing.T) {
	t.Parallel()
	heard := 0
	msgs := slices.DeleteFunc(smallMsgs(0, 3), func(m impl.Msg) bool {
		return m.Kind == impl.MsAdd && len(m.Items)+m.Commit > 1 || m.From == 2 && m.Kind != impl.MsAck
	})
	for _, log := range smallLogs(2, 2) {
		for term := max(1, lastOr0(log)); term <= 2; term++ {
			for commit := 0; commit <= len(log); commit++ {
				eachOver([]byte{0, 1, 2}, 4, func(b []byte) {
					if len(b) != 4 {
						return
					}
					n := leads(0, 3, term, commit, log...)
					n.Next, n.Match = []int{1, 1 + int(b[0]), 1 + int(b[1])}, []int{0, int(b[2]), int(b[3])}
					if !modelNode(n, 3) {
						return
					}
					mustTick(t, n, 3)
					mustPropose(t, n, 3, impl.Cmd{Client: 0, Req: 1})
					for _, m := range msgs {
						mustHear(t, n, 3, m)
						heard++
					}
				})
			}
		}
	}
	if heard < 100000 {
		t.Errorf("only %d were heard", heard)
	}
}

// pickLog answers items whose terms never go down, up to a term.
func pickLog(r *rand.Rand, size, term int) []impl.Item {
	var terms []int
	for range size {
		terms = append(terms, 1+r.Intn(term))
	}
	slices.Sort(terms)
	log := frees(terms...)
	for i := range log {
		if r.Intn(2) == 0 {
			log[i].Cmd = impl.Cmd{Client: r.Intn(4), Req: 1 + r.Intn(9), Op: op(impl.OpSet, numbered(r.Intn(9)), "v", 0)}
		}
	}
	return log
}

func pickNode(r *rand.Rand) (impl.Node, int) {
	servers := 1 + r.Intn(5)
	n, _ := modelNodeNew(r.Intn(servers), servers)
	n.Term = 1 + r.Intn(5)
	n.Log = pickLog(r, r.Intn(7), n.Term)
	n.Commit = r.Intn(len(n.Log) + 1)
	n.Role, n.Lead, n.Vote, n.Wait = r.Intn(3), r.Intn(servers+1)-1, r.Intn(servers+1)-1, r.Intn(12)
	if n.Role != impl.RoFollow {
		n.Vote = n.Id
		for i := range n.Votes {
			n.Votes[i] = r.Intn(2) == 0
		}
	}
	if n.Role == impl.RoLead {
		n.Lead = n.Id
		for i := range n.Next {
			n.Next[i], n.Match[i] = 1+r.Intn(len(n.Log)+1), r.Intn(len(n.Log)+1)
		}
	}
	return n, servers
}

func pickMsg(r *rand.Rand, n impl.Node, servers int) impl.Msg {
	m := impl.Msg{Kind: r.Intn(4), From: r.Intn(servers), To: n.Id, Term: max(1, n.Term+[]int{0, 0, 0, 0, -1, 1, 2}[r.Intn(7)])}
	place := r.Intn(len(n.Log) + 2)
	switch m.Kind {
	case impl.MsVote:
		m.Yes = r.Intn(3) > 0
	case impl.MsAck:
		m.Prev, m.Yes = place, r.Intn(2) == 0
	default:
		m.Prev = place
		if place > 0 && place <= len(n.Log) && r.Intn(4) > 0 {
			m.PrevTerm = n.Log[place-1].Term
		} else if place > 0 {
			m.PrevTerm = 1 + r.Intn(m.Term)
		}
	}
	if m.Kind == impl.MsAdd {
		m.Commit = r.Intn(len(n.Log) + 4)
		own := n.Log[min(place, len(n.Log)):]
		m.Items = append(copyLog(own[:r.Intn(min(4, len(own))+1)]), pickLog(r, r.Intn(3), m.Term)...)
	}
	return m
}

func TestPickedServersGoAsTheModelTells(t *testing.T) {
	t.Parallel()
	r := rand.New(rand.NewSource(4))
	good, turned := 0, 0
	for range 30000 {
		n, servers := pickNode(r)
		if !modelNode(n, servers) {
			t.Fatalf("%v was picked", n)
		}
		m := pickMsg(r, n, servers)
		is, _ := mustHear(t, n, servers, m)
		if len(is.Votes) > 0 {
			good++
			if len(is.Log) != len(n.Log) || is.Commit != n.Commit {
				turned++
			}
		}
		mustTick(t, n, servers)
		mustPropose(t, n, servers, impl.Cmd{Client: r.Intn(5) - 1, Req: r.Intn(3)})
	}
	if good < 10000 || turned < 1000 {
		t.Errorf("only %d messages were heard, %d logs turned", good, turned)
	}
}

// netWalk is a few servers with a net that loses, doubles and turns round what they say.
type netWalk struct {
	t       *testing.T
	pick    *rand.Rand
	servers int
	nodes   []impl.Node
	net     []impl.Msg
	req     int
	ledIn   map[int]int
	votedIn map[[2]int]int
	facts   []impl.Item
	commits int
}

func newNetWalk(t *testing.T, seed int64, servers int) *netWalk {
	w := &netWalk{t: t, pick: rand.New(rand.NewSource(seed)), servers: servers, ledIn: map[int]int{}, votedIn: map[[2]int]int{}}
	for id := range servers {
		n, _ := impl.NodeNew(id, servers)
		w.nodes = append(w.nodes, n)
	}
	return w
}

func (w *netWalk) turn(id int, n impl.Node, said []impl.Msg) {
	w.t.Helper()
	if !modelNode(n, w.servers) {
		w.t.Fatalf("%d became %v", id, n)
	}
	w.nodes[id] = n
	if len(w.net) < 60 {
		w.net = append(w.net, said...)
	}
	if n.Role == impl.RoLead {
		if other, led := w.ledIn[n.Term]; led && other != id {
			w.t.Fatalf("%d and %d led in term %d", other, id, n.Term)
		}
		w.ledIn[n.Term] = id
	}
	if n.Vote >= 0 {
		if other, voted := w.votedIn[[2]int{id, n.Term}]; voted && other != n.Vote {
			w.t.Fatalf("%d voted for %d and %d in term %d", id, other, n.Vote, n.Term)
		}
		w.votedIn[[2]int{id, n.Term}] = n.Vote
	}
	w.mustAgree(n)
}

// mustAgree fails if what a server committed is not what was committed before, or if not most of all have it.
func (w *netWalk) mustAgree(n impl.Node) {
	w.t.Helper()
	for i, x := range n.Log[:n.Commit] {
		if i < len(w.facts) && !sameLog(w.facts[i:i+1], n.Log[i:i+1]) {
			w.t.Fatalf("%v was committed at %d, and then %v", w.facts[i], i+1, x)
		}
	}
	if n.Commit <= len(w.facts) {
		return
	}
	w.facts = copyLog(n.Log[:n.Commit])
	w.commits++
	have := 0
	for _, other := range w.nodes {
		if len(other.Log) >= n.Commit && sameLog(other.Log[:n.Commit], w.facts) {
			have++
		}
	}
	if 2*have <= w.servers || n.Role != impl.RoLead || n.Log[n.Commit-1].Term != n.Term {
		w.t.Fatalf("%v committed what %d have", n, have)
	}
}

func (w *netWalk) step() {
	w.t.Helper()
	id := w.pick.Intn(w.servers)
	switch kind := w.pick.Intn(100); {
	case kind < 12:
		n, said := mustTick(w.t, w.nodes[id], w.servers)
		w.turn(id, n, said)
	case kind < 13:
		w.turn(id, impl.Fall(w.nodes[id], w.servers), nil)
	case kind < 20:
		w.req++
		c := impl.Cmd{Client: w.pick.Intn(4), Req: w.req, Op: op(impl.OpSet, numbered(w.pick.Intn(20)), "v", 0)}
		n, said, _ := mustPropose(w.t, w.nodes[id], w.servers, c)
		w.turn(id, n, said)
	case len(w.net) > 0:
		at := w.pick.Intn(min(len(w.net), 1+w.pick.Intn(len(w.net))))
		m := w.net[at]
		if w.pick.Intn(8) > 0 {
			w.net = slices.Delete(w.net, at, at+1)
		}
		if w.pick.Intn(12) > 0 {
			n, said := mustHear(w.t, w.nodes[m.To], w.servers, m)
			w.turn(m.To, n, said)
		}
	}
}

func TestServersAgreeWhateverTheNetDoes(t *testing.T) {
	commits, leaders := 0, 0
	for seed := range int64(10) {
		w := newNetWalk(t, seed, 1+int(seed)%5)
		for range 2500 {
			w.step()
		}
		commits += w.commits
		leaders += len(w.ledIn)
	}
	if commits < 300 || leaders < 50 {
		t.Errorf("only %d commits, under %d that led", commits, leaders)
	}
}

// All that is said is heard at once and in order: one leads, and all have all.
func TestServersAgreeOnAGoodNet(t *testing.T) {
	for servers := 1; servers <= impl.MaxServers; servers++ {
		w := newNetWalk(t, int64(servers), servers)
		hearAll := func() {
			for len(w.net) > 0 {
				m := w.net[0]
				w.net = w.net[1:]
				n, said := mustHear(t, w.nodes[m.To], servers, m)
				w.turn(m.To, n, said)
			}
		}
		for range 4 {
			for id := range servers {
				n, said := mustTick(t, w.nodes[id], servers)
				w.turn(id, n, said)
				hearAll()
			}
		}
		for req := 1; req <= 30; req++ {
			n, said, put := mustPropose(t, w.nodes[0], servers, impl.Cmd{Client: 1, Req: req})
			if !put {
				t.Fatalf("%d of %d servers: %d is not put: %v", 0, servers, req, n)
			}
			w.turn(0, n, said)
			hearAll()
		}
		for _, n := range w.nodes {
			if n.Term != 1 || n.Commit != 31 || len(n.Log) != 31 || n.Lead != 0 || n.Log[30].Cmd.Req != 30 {
				t.Errorf("of %d servers %d is %v", servers, n.Id, n)
			}
		}
		if behind := impl.Behind(w.nodes[0], servers); len(behind) != 0 || impl.Backed(w.nodes[0], servers, 31) != servers {
			t.Errorf("of %d servers %v are behind", servers, behind)
		}
	}
}

func TestMemoryOfServers(t *testing.T) {
	set := withRoom(impl.Cmd{Client: 1, Req: 1, Op: op(impl.OpSet, "a/b", "val", 0)})
	for _, good := range append(goodNodes(), badNodes()[3].n) {
		if len(good.Log) > 100 {
			good.Log, good.Commit = good.Log[:9], 0
			if good.Role == impl.RoLead {
				good.Next, good.Match = slices.Repeat([]int{6}, 5), make([]int, 5)
			}
		}
		for i := range good.Log {
			good.Log[i].Cmd = impl.Cmd{Client: 0, Req: 1, Op: op(impl.OpSet, numbered(i), "v", 0)}
		}
		n, servers := withRoom(good), len(good.Votes)
		mustKeep(t, fmt.Sprintf("reading %v", n), []any{n, set}, func() []any {
			told, _ := impl.AddFor(n, servers, (n.Id+1)&3)
			impl.NodeOk(n, servers)
			impl.TermAt(n, servers, 1)
			impl.Newer(n, servers, 1, 1)
			impl.Backed(n, servers, 1)
			return []any{told, impl.Behind(n, servers), impl.Fall(n, servers)}
		})
		mustKeep(t, fmt.Sprintf("Tick of %v", n), []any{n}, func() []any {
			is, said := impl.Tick(n, servers)
			return []any{is, said}
		})
		mustKeep(t, fmt.Sprintf("Propose to %v", n), []any{n, set}, func() []any {
			is, said, _ := impl.Propose(n, servers, set)
			return []any{is, said}
		})
		for _, m := range heardInMemory(n) {
			m = withRoom(m)
			mustKeep(t, fmt.Sprintf("%v hears %v", n, m), []any{n, m}, func() []any {
				is, said := impl.Hear(n, servers, m)
				return []any{is, said}
			})
		}
	}
}

// heardInMemory answers messages to n of each kind, which it takes up and which it refuses.
func heardInMemory(n impl.Node) []impl.Msg {
	from := (n.Id + 1) % max(2, len(n.Votes))
	size, last := len(n.Log), (&modelServer{Node: n}).lastTerm()
	item := asked(max(1, last), 2, 3, op(impl.OpTake, "some/key", "some value", 9))
	return []impl.Msg{
		ask(from, n.Id, max(1, n.Term), size, last),
		vote(from, n.Id, max(1, n.Term), true),
		{Kind: impl.MsAdd, From: from, To: n.Id, Term: max(1, n.Term), Prev: size, PrevTerm: last, Items: []impl.Item{item, item}, Commit: size + 1},
		{Kind: impl.MsAdd, From: from, To: n.Id, Term: min(n.Term+1, impl.MaxTerm), Items: []impl.Item{item, item, item}, Commit: 2},
		ack(from, n.Id, max(1, n.Term), size, true),
		ack(from, n.Id, max(1, n.Term), 0, false),
		ack(from, n.Id, min(n.Term+1, impl.MaxTerm), 0, false),
	}
}

// No function keeps anything: an earlier answer stays as it was when others are asked for and written over.
func TestNothingOfServersIsKept(t *testing.T) {
	n := leads(0, 3, 5, 0, 2, 5)
	first, said := impl.Tick(n, 3)
	second, again := impl.Tick(n, 3)
	second.Log[0].Term, second.Next[1], second.Votes[0] = 99, 77, false
	again[0].Term = 88
	if !same(first, n) || !same(said, []impl.Msg{add(0, 1, 5, 2, 5, 0), add(0, 2, 5, 2, 5, 0)}) {
		t.Errorf("%v, %v", first, said)
	}
}
