package tests

import (
	"fmt"
	"math"
	"slices"
	"strings"
	"testing"

	"loop.example/g00365/impl"
)

func TestCodesOfServers(t *testing.T) {
	if impl.RoFollow != 0 || impl.RoStand != 1 || impl.RoLead != 2 {
		t.Error(impl.RoFollow, impl.RoStand, impl.RoLead)
	}
}

var farNumbers = []int{math.MinInt, math.MinInt + 1, -2, -1, 0, 1, 2, 3, 4, 5, 6, 7, math.MaxInt - 1, math.MaxInt}

func TestNodeNew(t *testing.T) {
	made := 0
	for _, id := range farNumbers {
		for _, servers := range farNumbers {
			n, ok := impl.NodeNew(id, servers)
			want, is := modelNodeNew(id, servers)
			if ok != is || !same(n, want) || impl.NodeOk(n, servers) != is {
				t.Errorf("NodeNew(%d, %d) = %v, %v", id, servers, n, ok)
			}
			if ok {
				made++
			}
		}
	}
	if made != 1+2+3+4+5 {
		t.Errorf("%d servers could be made", made)
	}
	n, _ := impl.NodeNew(1, 3)
	if !same(n, impl.Node{Id: 1, Vote: -1, Lead: -1, Votes: make([]bool, 3), Next: make([]int, 3), Match: make([]int, 3)}) {
		t.Errorf("NodeNew(1, 3) = %v", n)
	}
}

// follows answers a server that follows in a term, with items of these terms, so many of them committed.
func follows(id, servers, term, commit int, log ...int) impl.Node {
	n, _ := modelNodeNew(id, servers)
	n.Term, n.Commit, n.Log = term, commit, frees(log...)
	return n
}

// stands answers a server that stands in a term and has its own vote.
func stands(id, servers, term, commit int, log ...int) impl.Node {
	n := follows(id, servers, term, commit, log...)
	n.Role, n.Vote, n.Votes[id] = impl.RoStand, id, true
	return n
}

// leads answers a server that leads in a term, all others having nothing as far as it knows.
func leads(id, servers, term, commit int, log ...int) impl.Node {
	n := stands(id, servers, term, commit, log...)
	n.Role, n.Lead = impl.RoLead, id
	for i := range servers {
		n.Next[i] = len(log) + 1
		n.Votes[i] = i == id || i <= servers/2
	}
	n.Match[id] = len(log)
	return n
}

// fullLog answers so many items of one term.
func fullLog(size, term int) []int {
	return slices.Repeat([]int{term}, size)
}

func goodNodes() []impl.Node {
	var all []impl.Node
	for servers := 1; servers <= impl.MaxServers; servers++ {
		for id := range servers {
			all = append(all, follows(id, servers, 0, 0), stands(id, servers, 1, 0), leads(id, servers, 1, 0))
		}
	}
	middle := follows(1, 3, 6, 2, 1, 1, 3, 6)
	middle.Vote, middle.Lead, middle.Wait = 2, 0, 4
	middle.Log[1] = asked(1, 0, 1, op(impl.OpSet, "a/b", "v", 0))
	middle.Log[3] = asked(6, 3, 9, op(impl.OpTake, "z", "w", 7))
	head := leads(0, 3, 6, 1, 1, 2, 6, 6)
	head.Next, head.Match, head.Wait = []int{5, 3, 1}, []int{4, 2, 0}, 3
	head.Log[2] = asked(6, 1, 2, op(impl.OpCas, "k", "", 4))
	odd := leads(2, 4, 9, 0, 2, 9)
	odd.Next, odd.Match, odd.Votes = []int{1, 3, 1, 2}, []int{2, 0, 0, 1}, make([]bool, 4)
	three := stands(2, 5, 7, 3, 2, 2, 4)
	three.Votes[0], three.Lead, three.Wait = true, 1, 5
	last := impl.MaxServers - 1
	most := follows(last, 5, impl.MaxTerm, impl.MaxLog, fullLog(impl.MaxLog, impl.MaxTerm)...)
	most.Vote, most.Lead, most.Wait = last, last, 20
	mostStands := copyServer(most)
	mostStands.Role, mostStands.Votes = impl.RoStand, slices.Repeat([]bool{true}, 5)
	mostLeads := copyServer(mostStands)
	mostLeads.Role = impl.RoLead
	mostLeads.Next, mostLeads.Match = slices.Repeat([]int{impl.MaxLog + 1}, 5), slices.Repeat([]int{impl.MaxLog}, 5)
	return append(all, middle, head, odd, three, most, mostStands, mostLeads)
}

var (
	eachRole  = []int{impl.RoFollow, impl.RoStand, impl.RoLead}
	onlyLead  = []int{impl.RoLead}
	notLead   = []int{impl.RoFollow, impl.RoStand}
	notFollow = []int{impl.RoStand, impl.RoLead}
	onlyWait  = []int{impl.RoFollow}
)

type nodeTurn struct {
	what  string
	roles []int
	ok    bool
	do    func(n *impl.Node)
}

func logIs(n *impl.Node, items ...impl.Item) {
	n.Log, n.Commit = items, 0
	n.Term = max(n.Term, 3)
	if n.Role == impl.RoLead {
		for i := range n.Next {
			n.Next[i], n.Match[i] = 1, 0
		}
	}
}

var nodeTurns = []nodeTurn{
	{"as it is", eachRole, true, func(n *impl.Node) {}},
	{"an id below 0", eachRole, false, func(n *impl.Node) { n.Id = -1 }},
	{"an id too great", eachRole, false, func(n *impl.Node) { n.Id = len(n.Votes) }},
	{"a far id", eachRole, false, func(n *impl.Node) { n.Id = math.MaxInt }},
	{"the last id, if it follows", onlyWait, true, func(n *impl.Node) { n.Id = len(n.Votes) - 1 }},
	{"the id and the vote turned", []int{impl.RoStand}, true, func(n *impl.Node) { n.Id, n.Vote = 0, 0 }},
	{"a term below 0", eachRole, false, func(n *impl.Node) { n.Term = -1; n.Log, n.Commit = nil, 0 }},
	{"a far term below 0", eachRole, false, func(n *impl.Node) { n.Term = math.MinInt; n.Log, n.Commit = nil, 0 }},
	{"the greatest term", eachRole, true, func(n *impl.Node) { n.Term = impl.MaxTerm }},
	{"a term too great", eachRole, false, func(n *impl.Node) { n.Term = impl.MaxTerm + 1 }},
	{"no term, no log, if it follows", onlyWait, true, func(n *impl.Node) { n.Term, n.Commit, n.Log = 0, 0, nil }},
	{"no term, no log, if it does not", notFollow, false, func(n *impl.Node) { logIs(n); n.Term = 0 }},
	{"a vote below nobody", eachRole, false, func(n *impl.Node) { n.Vote = -2 }},
	{"a vote too great", eachRole, false, func(n *impl.Node) { n.Vote = len(n.Votes) }},
	{"no vote, if it follows", onlyWait, true, func(n *impl.Node) { n.Vote = -1 }},
	{"no vote, if it does not", notFollow, false, func(n *impl.Node) { n.Vote = -1 }},
	{"a vote for the last one, if it follows", onlyWait, true, func(n *impl.Node) { n.Vote = len(n.Votes) - 1 }},
	{"a vote for the next one, if it does not", notFollow, false, func(n *impl.Node) { n.Vote = n.Id + 1 }},
	{"a lead below nobody", eachRole, false, func(n *impl.Node) { n.Lead = -2 }},
	{"a lead too great", eachRole, false, func(n *impl.Node) { n.Lead = len(n.Votes) }},
	{"no lead", notLead, true, func(n *impl.Node) { n.Lead = -1 }},
	{"no lead where it leads", onlyLead, false, func(n *impl.Node) { n.Lead = -1 }},
	{"a lead of the last one", notLead, true, func(n *impl.Node) { n.Lead = len(n.Votes) - 1 }},
	{"a lead of the one ahead where it leads", onlyLead, false, func(n *impl.Node) { n.Lead = n.Id - 1 }},
	{"no log", eachRole, true, func(n *impl.Node) { logIs(n) }},
	{"terms that go up", eachRole, true, func(n *impl.Node) { logIs(n, frees(1, 1, 2, 3)...) }},
	{"a term that goes down", eachRole, false, func(n *impl.Node) { logIs(n, frees(1, 2, 1, 3)...) }},
	{"a last term that goes down", eachRole, false, func(n *impl.Node) { logIs(n, frees(1, 3, 2)...) }},
	{"an item of the term", eachRole, true, func(n *impl.Node) { logIs(n, free(3)); n.Term = 3 }},
	{"an item above the term", eachRole, false, func(n *impl.Node) { logIs(n, free(4)); n.Term = 3 }},
	{"a first item of no term", eachRole, false, func(n *impl.Node) { logIs(n, frees(0, 1)...) }},
	{"an item of no term at all", eachRole, false, func(n *impl.Node) { logIs(n, free(-1)) }},
	{"an item that is none", eachRole, false, func(n *impl.Node) { logIs(n, free(1), asked(1, 0, 0, impl.Op{})) }},
	{"an item whose key is none", eachRole, false, func(n *impl.Node) { logIs(n, asked(1, 0, 1, op(impl.OpSet, "A", "", 0))) }},
	{"an item of a client", eachRole, true, func(n *impl.Node) { logIs(n, asked(1, 3, 1, op(impl.OpSet, "a", "", 0))) }},
	{"a full log", eachRole, true, func(n *impl.Node) { logIs(n, frees(fullLog(impl.MaxLog, 1)...)...) }},
	{"a log of one too many", eachRole, false, func(n *impl.Node) { logIs(n, frees(fullLog(impl.MaxLog+1, 1)...)...) }},
	{"a commit below 0", eachRole, false, func(n *impl.Node) { n.Commit = -1 }},
	{"nothing committed", eachRole, true, func(n *impl.Node) { n.Commit = 0 }},
	{"all committed", eachRole, true, func(n *impl.Node) { n.Commit = len(n.Log) }},
	{"a commit too great", eachRole, false, func(n *impl.Node) { n.Commit = len(n.Log) + 1 }},
	{"a role below all", eachRole, false, func(n *impl.Node) { n.Role = -1 }},
	{"a role above all", eachRole, false, func(n *impl.Node) { n.Role = impl.RoLead + 1 }},
	{"a far role", eachRole, false, func(n *impl.Node) { n.Role = math.MinInt }},
	{"a wait below 0", eachRole, false, func(n *impl.Node) { n.Wait = -1 }},
	{"no wait", eachRole, true, func(n *impl.Node) { n.Wait = 0 }},
	{"the greatest wait", eachRole, true, func(n *impl.Node) { n.Wait = 20 }},
	{"a wait too great", eachRole, false, func(n *impl.Node) { n.Wait = 21 }},
	{"a vote less", eachRole, false, func(n *impl.Node) { n.Votes = n.Votes[1:] }},
	{"a vote more", eachRole, false, func(n *impl.Node) { n.Votes = append(n.Votes, false) }},
	{"no votes' list", eachRole, false, func(n *impl.Node) { n.Votes = nil }},
	{"a next less", eachRole, false, func(n *impl.Node) { n.Next = n.Next[1:] }},
	{"a next more", eachRole, false, func(n *impl.Node) { n.Next = append(n.Next, n.Next[0]) }},
	{"a match less", eachRole, false, func(n *impl.Node) { n.Match = n.Match[1:] }},
	{"a match more", eachRole, false, func(n *impl.Node) { n.Match = append(n.Match, n.Match[0]) }},
	{"the first voted, if it follows", onlyWait, false, func(n *impl.Node) { n.Votes[0] = true }},
	{"the last voted, if it follows", onlyWait, false, func(n *impl.Node) { n.Votes[len(n.Votes)-1] = true }},
	{"all voted", notFollow, true, func(n *impl.Node) { n.Votes = slices.Repeat([]bool{true}, len(n.Votes)) }},
	{"none voted", notFollow, true, func(n *impl.Node) { n.Votes = make([]bool, len(n.Votes)) }},
	{"a first next, if it does not lead", notLead, false, func(n *impl.Node) { n.Next[0] = 1 }},
	{"a last next, if it does not lead", notLead, false, func(n *impl.Node) { n.Next[len(n.Next)-1] = 1 }},
	{"a next below 0, if it does not lead", notLead, false, func(n *impl.Node) { n.Next[0] = -1 }},
	{"a first match, if it does not lead", notLead, false, func(n *impl.Node) { n.Match[0] = 1 }},
	{"a last match, if it does not lead", notLead, false, func(n *impl.Node) { n.Match[len(n.Match)-1] = 1 }},
	{"a match below 0, if it does not lead", notLead, false, func(n *impl.Node) { n.Match[0] = -1 }},
	{"the least nexts", onlyLead, true, func(n *impl.Node) { n.Next = slices.Repeat([]int{1}, len(n.Next)) }},
	{"the greatest nexts", onlyLead, true, func(n *impl.Node) { n.Next = slices.Repeat([]int{len(n.Log) + 1}, len(n.Next)) }},
	{"a first next of 0", onlyLead, false, func(n *impl.Node) { n.Next[0] = 0 }},
	{"a last next of 0", onlyLead, false, func(n *impl.Node) { n.Next[len(n.Next)-1] = 0 }},
	{"its own next of 0", onlyLead, false, func(n *impl.Node) { n.Next[n.Id] = 0 }},
	{"a first next too great", onlyLead, false, func(n *impl.Node) { n.Next[0] = len(n.Log) + 2 }},
	{"a last next too great", onlyLead, false, func(n *impl.Node) { n.Next[len(n.Next)-1] = len(n.Log) + 2 }},
	{"the least matches", onlyLead, true, func(n *impl.Node) { n.Match = make([]int, len(n.Match)) }},
	{"the greatest matches", onlyLead, true, func(n *impl.Node) { n.Match = slices.Repeat([]int{len(n.Log)}, len(n.Match)) }},
	{"a first match below 0", onlyLead, false, func(n *impl.Node) { n.Match[0] = -1 }},
	{"a last match below 0", onlyLead, false, func(n *impl.Node) { n.Match[len(n.Match)-1] = -1 }},
	{"a first match too great", onlyLead, false, func(n *impl.Node) { n.Match[0] = len(n.Log) + 1 }},
	{"a last match too great", onlyLead, false, func(n *impl.Node) { n.Match[len(n.Match)-1] = len(n.Log) + 1 }},
	{"its own match too great", onlyLead, false, func(n *impl.Node) { n.Match[n.Id] = len(n.Log) + 1 }},
}

type nodeEdge struct {
	what    string
	servers int
	n       impl.Node
	ok      bool
}

// nodeEdges answers each good server, and each turned in one thing.
func nodeEdges() []nodeEdge {
	var all []nodeEdge
	for _, turn := range nodeTurns {
		for _, good := range goodNodes() {
			if slices.Contains(turn.roles, good.Role) {
				servers := len(good.Votes)
				turn.do(&good)
				all = append(all, nodeEdge{turn.what, servers, good, turn.ok})
			}
		}
	}
	return all
}

func badNodes() []nodeEdge {
	return slices.DeleteFunc(nodeEdges(), func(e nodeEdge) bool { return e.ok })
}

func TestNodeOkAtEdges(t *testing.T) {
	for _, e := range nodeEdges() {
		if impl.NodeOk(e.n, e.servers) != e.ok || modelNode(e.n, e.servers) != e.ok {
			t.Errorf("%s: NodeOk(%v, %d) is not %v", e.what, e.n, e.servers, e.ok)
		}
	}
}

func TestNodeOkOfOtherServers(t *testing.T) {
	for _, n := range goodNodes() {
		for _, servers := range farNumbers {
			if want := servers == len(n.Votes); impl.NodeOk(n, servers) != want {
				t.Errorf("NodeOk(%v, %d) is not %v", n, servers, want)
			}
		}
	}
	six := follows(0, 5, 1, 0)
	six.Votes, six.Next, six.Match = make([]bool, 6), make([]int, 6), make([]int, 6)
	if impl.NodeOk(six, 6) || impl.NodeOk(impl.Node{}, 0) || impl.NodeOk(impl.Node{Vote: -1, Lead: -1}, 0) || impl.NodeOk(impl.Node{}, 1) {
		t.Error("six servers or none may be")
	}
	one := impl.Node{Votes: []bool{false}, Next: []int{0}, Match: []int{0}}
	if !impl.NodeOk(one, 1) {
		t.Error("a server that voted for itself and follows itself may be")
	}
}

// What lies behind a list's length is not read: there it would be wrong.
func TestNodeOkReadsNothingBehindTheLength(t *testing.T) {
	for _, n := range goodNodes() {
		if !impl.NodeOk(withRoom(n), len(n.Votes)) {
			t.Errorf("NodeOk(%v) is false", n)
		}
	}
}

// msgText writes out a message in short: kind, who to whom, term, and what the kind has.
func msgText(m impl.Msg) string {
	yes := map[bool]string{true: "yes", false: "no"}[m.Yes]
	head := fmt.Sprintf("%s %d>%d t%d", [...]string{"ask", "vote", "add", "ack"}[m.Kind], m.From, m.To, m.Term)
	switch m.Kind {
	case impl.MsAsk:
		return fmt.Sprintf("%s %d/%d", head, m.Prev, m.PrevTerm)
	case impl.MsVote:
		return head + " " + yes
	case impl.MsAdd:
		return fmt.Sprintf("%s %d/%d %v c%d", head, m.Prev, m.PrevTerm, termsOf(m.Items), m.Commit)
	}
	return fmt.Sprintf("%s %d %s", head, m.Prev, yes)
}

func termsOf(l []impl.Item) []int {
	terms := []int{}
	for _, x := range l {
		terms = append(terms, x.Term)
	}
	return terms
}

func msgTexts(l []impl.Msg) string {
	var all []string
	for _, m := range l {
		all = append(all, msgText(m))
	}
	return strings.Join(all, "; ")
}

// nodeText writes out a server in short: role, term, vote, lead, wait, the terms of its items, commit; votes, next and match where it has some.
func nodeText(n impl.Node) string {
	text := fmt.Sprintf("%s t%d v%d l%d w%d %v c%d", [...]string{"follow", "stand", "lead"}[n.Role], n.Term, n.Vote, n.Lead, n.Wait, termsOf(n.Log), n.Commit)
	if n.Role == impl.RoFollow {
		return text
	}
	voted := []int{}
	for i, v := range n.Votes {
		if v {
			voted = append(voted, i)
		}
	}
	text += fmt.Sprintf(" by%v", voted)
	if n.Role == impl.RoLead {
		text += fmt.Sprintf(" next%v match%v", n.Next, n.Match)
	}
	return text
}

// mustGoOn fails if what a server became, or said, breaks promise 5 or 6.
func mustGoOn(t *testing.T, what string, servers int, was, is impl.Node, said []impl.Msg) {
	t.Helper()
	if !modelNode(is, servers) || !impl.NodeOk(is, servers) || is.Id != was.Id {
		t.Fatalf("%s: %v became %v, which is not NodeOk", what, was, is)
	}
	if is.Term < was.Term || is.Commit < was.Commit {
		t.Fatalf("%s: %v became %v: Term or Commit went down", what, was, is)
	}
	if is.Term == was.Term && was.Vote != -1 && is.Vote != was.Vote {
		t.Fatalf("%s: %v became %v: two votes in one term", what, was, is)
	}
	if !sameLog(is.Log[:was.Commit], was.Log[:was.Commit]) {
		t.Fatalf("%s: %v became %v: what was committed did not stay", what, was, is)
	}
	for _, m := range said {
		if !impl.MsgOk(m) || !modelMsg(m) || m.From != is.Id || m.Term != is.Term || m.To >= servers {
			t.Fatalf("%s: %v said %v, which is not MsgOk", what, was, m)
		}
	}
	if is.Role == impl.RoLead && is.Commit > was.Commit {
		if impl.TermAt(is, servers, is.Commit) != is.Term || 2*impl.Backed(is, servers, is.Commit) <= servers {
			t.Fatalf("%s: %v became %v: it committed what it may not", what, was, is)
		}
	}
}

func mustTick(t *testing.T, n impl.Node, servers int) (impl.Node, []impl.Msg) {
	t.Helper()
	is, said := impl.Tick(n, servers)
	want, wantSaid := modelTick(n, servers)
	if !sameServer(is, want) || !sameMsgs(said, wantSaid) {
		t.Fatalf("Tick(%v, %d) is\n%v\n%v\nnot\n%v\n%v", n, servers, is, said, want, wantSaid)
	}
	if len(want.Votes) > 0 {
		mustGoOn(t, "Tick", servers, n, is, said)
	}
	return is, said
}

func mustHear(t *testing.T, n impl.Node, servers int, m impl.Msg) (impl.Node, []impl.Msg) {
	t.Helper()
	is, said := impl.Hear(n, servers, m)
	want, wantSaid := modelHear(n, servers, m)
	if !sameServer(is, want) || !sameMsgs(said, wantSaid) {
		t.Fatalf("Hear(%v, %d, %v) is\n%v\n%v\nnot\n%v\n%v", n, servers, m, is, said, want, wantSaid)
	}
	if len(want.Votes) > 0 {
		mustGoOn(t, "Hear", servers, n, is, said)
	}
	return is, said
}

func mustPropose(t *testing.T, n impl.Node, servers int, c impl.Cmd) (impl.Node, []impl.Msg, bool) {
	t.Helper()
	is, said, put := impl.Propose(n, servers, c)
	want, wantSaid, wantPut := modelPropose(n, servers, c)
	if put != wantPut || !sameServer(is, want) || !sameMsgs(said, wantSaid) {
		t.Fatalf("Propose(%v, %d, %v) is\n%v\n%v %v\nnot\n%v\n%v %v", n, servers, c, is, said, put, want, wantSaid, wantPut)
	}
	if len(want.Votes) > 0 {
		mustGoOn(t, "Propose", servers, n, is, said)
		if put != (n.Role == impl.RoLead && len(n.Log) < impl.MaxLog/2) {
			t.Fatalf("Propose(%v) is %v", n, put)
		}
		if put && !sameLog(is.Log, append(copyLog(n.Log), impl.Item{Term: n.Term, Cmd: c})) || !put && !sameServer(is, n) {
			t.Fatalf("Propose(%v, %v) does not put it behind the log alone: %v", n, c, is)
		}
	}
	return is, said, put
}

func TestWaitingAndStanding(t *testing.T) {
	for servers := 1; servers <= impl.MaxServers; servers++ {
		for id := range servers {
			n := follows(id, servers, 4, 1, 1, 3)
			n.Vote, n.Lead = 0, servers-1
			for wait := 1; wait < 3+2*id; wait++ {
				was := copyServer(n)
				var said []impl.Msg
				n, said = mustTick(t, n, servers)
				was.Wait = wait
				if !same(n, was) || len(said) != 0 {
					t.Fatalf("%d of %d at wait %d: %s, %s", id, servers, wait, nodeText(n), msgTexts(said))
				}
			}
			n, said := mustTick(t, n, servers)
			if servers == 1 {
				mustBe(t, "alone", nodeText(n)+"; "+msgTexts(said), "lead t5 v0 l0 w0 [1 3 5] c3 by[0] next[4] match[3]; ")
				continue
			}
			mustBe(t, "standing", nodeText(n), fmt.Sprintf("stand t5 v%d l-1 w0 [1 3] c1 by[%d]", id, id))
			var want []string
			for to := range servers {
				if to != id {
					want = append(want, fmt.Sprintf("ask %d>%d t5 2/3", id, to))
				}
			}
			mustBe(t, "asking", msgTexts(said), strings.Join(want, "; "))
		}
	}
}

func TestTickAtEdges(t *testing.T) {
	with := func(n impl.Node, wait int) impl.Node {
		n.Wait = wait
		return n
	}
	head := leads(1, 3, 6, 2, 1, 2, 6, 6, 6, 6, 6)
	head.Next, head.Match = []int{3, 8, 8}, []int{0, 7, 6}
	again := stands(0, 3, 2, 0)
	again.Votes[0], again.Votes[2], again.Lead = false, true, 1
	cases := []struct {
		what       string
		n          impl.Node
		node, said string
	}{
		{"no item yet", with(follows(0, 2, 0, 0), 2), "stand t1 v0 l-1 w0 [] c0 by[0]", "ask 0>1 t1 0/0"},
		{"it stood already", with(again, 2), "stand t3 v0 l-1 w0 [] c0 by[0]", "ask 0>1 t3 0/0; ask 0>2 t3 0/0"},
		{"it stands and waits", with(again, 1), "stand t2 v0 l1 w2 [] c0 by[2]", ""},
		{"it waited longer than it has to", with(follows(1, 2, 3, 0, 2), 20), "stand t4 v1 l-1 w0 [2] c0 by[1]", "ask 1>0 t4 1/2"},
		{"the term below the greatest", with(follows(0, 2, impl.MaxTerm-1, 0, 2), 9), "stand t100000 v0 l-1 w0 [2] c0 by[0]", "ask 0>1 t100000 1/2"},
		{"the greatest term", with(follows(0, 2, impl.MaxTerm, 0, 2), 2), "follow t100000 v-1 l-1 w3 [2] c0", ""},
		{"the greatest term, long since", with(follows(0, 2, impl.MaxTerm, 0, 2), 19), "follow t100000 v-1 l-1 w20 [2] c0", ""},
		{"the greatest term and wait", with(follows(0, 2, impl.MaxTerm, 0, 2), 20), "follow t100000 v-1 l-1 w20 [2] c0", ""},
		{"the greatest term and wait, standing", with(stands(1, 2, impl.MaxTerm, 0, 2), 20), "stand t100000 v1 l-1 w20 [2] c0 by[1]", ""},
		{"alone in the greatest term", with(follows(0, 1, impl.MaxTerm, 0, 2), 5), "follow t100000 v-1 l-1 w6 [2] c0", ""},
		{"alone, nothing yet", with(follows(0, 1, 0, 0), 2), "lead t1 v0 l0 w0 [1] c1 by[0] next[2] match[1]", ""},
		{"alone and standing", with(stands(0, 1, 7, 0, 2), 2), "lead t8 v0 l0 w0 [2 8] c2 by[0] next[3] match[2]", ""},
		{"it leads alone", with(leads(0, 1, 7, 0, 2, 7), 2), "lead t7 v0 l0 w2 [2 7] c0 by[0] next[3] match[2]", ""},
		{"it leads", with(head, 7), "lead t6 v1 l1 w7 [1 2 6 6 6 6 6] c2 by[0 1] next[3 8 8] match[0 7 6]",
			"add 1>0 t6 2/2 [6 6 6 6] c2; add 1>2 t6 7/6 [] c2"},
		{"it leads in the greatest term", leads(0, 2, impl.MaxTerm, 1, 4), "lead t100000 v0 l0 w0 [4] c1 by[0 1] next[2 2] match[1 0]", "add 0>1 t100000 1/4 [] c1"},
	}
	for _, c := range cases {
		n, said := mustTick(t, c.n, len(c.n.Votes))
		mustBe(t, c.what, nodeText(n), c.node)
		mustBe(t, c.what, msgTexts(said), c.said)
	}
}

func TestLeadingWithAFullLog(t *testing.T) {
	for _, c := range []struct{ size, after, commit int }{{398, 399, 399}, {399, 400, 400}, {400, 400, 7}} {
		n := follows(0, 1, 5, 7, fullLog(c.size, 5)...)
		n.Wait = 2
		n, said := mustTick(t, n, 1)
		if len(n.Log) != c.after || n.Commit != c.commit || n.Role != impl.RoLead || len(said) != 0 || n.Match[0] != c.after || n.Next[0] != c.after+1 {
			t.Errorf("%d items: %v", c.size, n)
		}
		many := stands(1, 3, 6, 7, fullLog(c.size, 5)...)
		many, said = mustHear(t, many, 3, impl.Msg{Kind: impl.MsVote, From: 2, To: 1, Term: 6, Yes: true})
		if len(many.Log) != c.after || many.Commit != 7 || many.Role != impl.RoLead || !slices.Equal(many.Next, []int{c.size + 1, c.after + 1, c.size + 1}) {
			t.Errorf("%d items: %v", c.size, many)
		}
		if len(said) != 2 || said[0].Prev != c.size || len(said[1].Items) != c.after-c.size {
			t.Errorf("%d items: %v", c.size, said)
		}
	}
}

func ask(from, to, term, prev, prevTerm int) impl.Msg {
	return impl.Msg{Kind: impl.MsAsk, From: from, To: to, Term: term, Prev: prev, PrevTerm: prevTerm}
}

func vote(from, to, term int, yes bool) impl.Msg {
	return impl.Msg{Kind: impl.MsVote, From: from, To: to, Term: term, Yes: yes}
}

func add(from, to, term, prev, prevTerm, commit int, terms ...int) impl.Msg {
	return impl.Msg{Kind: impl.MsAdd, From: from, To: to, Term: term, Prev: prev, PrevTerm: prevTerm, Commit: commit, Items: frees(terms...)}
}

func ack(from, to, term, prev int, yes bool) impl.Msg {
	return impl.Msg{Kind: impl.MsAck, From: from, To: to, Term: term, Prev: prev, Yes: yes}
}

type hearing struct {
	what       string
	n          impl.Node
	m          impl.Msg
	node, said string
}

func mustHearAll(t *testing.T, cases []hearing) {
	t.Helper()
	for _, c := range cases {
		n, said := mustHear(t, c.n, len(c.n.Votes), c.m)
		mustBe(t, c.what, nodeText(n), c.node)
		mustBe(t, c.what, msgTexts(said), c.said)
	}
}

func TestHearAsk(t *testing.T) {
	waiting := func(vote int) impl.Node {
		n := follows(1, 3, 5, 1, 1, 3, 3)
		n.Vote, n.Lead, n.Wait = vote, 2, 4
		return n
	}
	mustHearAll(t, []hearing{
		{"the same log", waiting(-1), ask(0, 1, 5, 3, 3), "follow t5 v0 l2 w0 [1 3 3] c1", "vote 1>0 t5 yes"},
		{"again by the same", waiting(0), ask(0, 1, 5, 3, 3), "follow t5 v0 l2 w0 [1 3 3] c1", "vote 1>0 t5 yes"},
		{"another had the vote", waiting(2), ask(0, 1, 5, 3, 3), "follow t5 v2 l2 w4 [1 3 3] c1", "vote 1>0 t5 no"},
		{"it has its own vote", waiting(1), ask(0, 1, 5, 3, 3), "follow t5 v1 l2 w4 [1 3 3] c1", "vote 1>0 t5 no"},
		{"a longer log", waiting(-1), ask(0, 1, 5, 4, 3), "follow t5 v0 l2 w0 [1 3 3] c1", "vote 1>0 t5 yes"},
		{"a shorter log", waiting(-1), ask(0, 1, 5, 2, 3), "follow t5 v-1 l2 w4 [1 3 3] c1", "vote 1>0 t5 no"},
		{"a shorter log of a newer term", waiting(-1), ask(0, 1, 5, 1, 4), "follow t5 v0 l2 w0 [1 3 3] c1", "vote 1>0 t5 yes"},
		{"a longer log of an older term", waiting(-1), ask(0, 1, 5, 9, 2), "follow t5 v-1 l2 w4 [1 3 3] c1", "vote 1>0 t5 no"},
		{"an empty log", waiting(-1), ask(0, 1, 5, 0, 0), "follow t5 v-1 l2 w4 [1 3 3] c1", "vote 1>0 t5 no"},
		{"two empty logs", follows(1, 3, 5, 0), ask(2, 1, 5, 0, 0), "follow t5 v2 l-1 w0 [] c0", "vote 1>2 t5 yes"},
		{"an older term", waiting(-1), ask(0, 1, 4, 9, 4), "follow t5 v-1 l2 w4 [1 3 3] c1", "vote 1>0 t5 no"},
		{"a newer term", waiting(2), ask(0, 1, 6, 3, 3), "follow t6 v0 l-1 w0 [1 3 3] c1", "vote 1>0 t6 yes"},
		{"a newer term with an old log", waiting(2), ask(0, 1, 6, 2, 3), "follow t6 v-1 l-1 w4 [1 3 3] c1", "vote 1>0 t6 no"},
		{"it stands", stands(1, 3, 5, 0), ask(0, 1, 5, 9, 5), "stand t5 v1 l-1 w0 [] c0 by[1]", "vote 1>0 t5 no"},
		{"it stood", stands(1, 3, 5, 0), ask(0, 1, 7, 9, 5), "follow t7 v0 l-1 w0 [] c0", "vote 1>0 t7 yes"},
		{"it leads", leads(1, 3, 5, 0, 5), ask(0, 1, 5, 9, 5), "lead t5 v1 l1 w0 [5] c0 by[0 1] next[2 2 2] match[0 1 0]", "vote 1>0 t5 no"},
		{"it led", leads(1, 3, 5, 0, 5), ask(0, 1, 6, 1, 5), "follow t6 v0 l-1 w0 [5] c0", "vote 1>0 t6 yes"},
		{"it led, with an old log", leads(1, 3, 5, 0, 5), ask(0, 1, impl.MaxTerm, 0, 0), "follow t100000 v-1 l-1 w0 [5] c0", "vote 1>0 t100000 no"},
	})
}

func TestHearVote(t *testing.T) {
	five := stands(2, 5, 4, 1, 1, 3)
	five.Wait = 6
	two := stands(2, 5, 4, 1, 1, 3)
	two.Votes[0], two.Wait = true, 6
	four := stands(0, 4, 4, 0)
	four.Votes[3] = true
	mustHearAll(t, []hearing{
		{"two of five", five, vote(0, 2, 4, true), "stand t4 v2 l-1 w6 [1 3] c1 by[0 2]", ""},
		{"the same again", two, vote(0, 2, 4, true), "stand t4 v2 l-1 w6 [1 3] c1 by[0 2]", ""},
		{"three of five", two, vote(4, 2, 4, true), "lead t4 v2 l2 w0 [1 3 4] c1 by[0 2 4] next[3 3 4 3 3] match[0 0 3 0 0]",
			"add 2>0 t4 2/3 [4] c1; add 2>1 t4 2/3 [4] c1; add 2>3 t4 2/3 [4] c1; add 2>4 t4 2/3 [4] c1"},
		{"a no", two, vote(4, 2, 4, false), "stand t4 v2 l-1 w6 [1 3] c1 by[0 2]", ""},
		{"an older term", two, vote(4, 2, 3, true), "stand t4 v2 l-1 w6 [1 3] c1 by[0 2]", ""},
		{"a newer term", two, vote(4, 2, 5, true), "follow t5 v-1 l-1 w6 [1 3] c1", ""},
		{"a no in a newer term", two, vote(4, 2, 5, false), "follow t5 v-1 l-1 w6 [1 3] c1", ""},
		{"two of two", stands(0, 2, 4, 0), vote(1, 0, 4, true), "lead t4 v0 l0 w0 [4] c0 by[0 1] next[2 1] match[1 0]", "add 0>1 t4 0/0 [4] c0"},
		{"two of three", stands(0, 3, 4, 0), vote(2, 0, 4, true), "lead t4 v0 l0 w0 [4] c0 by[0 2] next[2 1 1] match[1 0 0]", "add 0>1 t4 0/0 [4] c0; add 0>2 t4 0/0 [4] c0"},
		{"two of four", stands(0, 4, 4, 0), vote(2, 0, 4, true), "stand t4 v0 l-1 w0 [] c0 by[0 2]", ""},
		{"three of four", four, vote(2, 0, 4, true), "lead t4 v0 l0 w0 [4] c0 by[0 2 3] next[2 1 1 1] match[1 0 0 0]",
			"add 0>1 t4 0/0 [4] c0; add 0>2 t4 0/0 [4] c0; add 0>3 t4 0/0 [4] c0"},
		{"it leads already", leads(1, 3, 5, 0, 5), vote(2, 1, 5, true), "lead t5 v1 l1 w0 [5] c0 by[0 1] next[2 2 2] match[0 1 0]", ""},
		{"it follows", follows(1, 3, 5, 0, 5), vote(2, 1, 5, true), "follow t5 v-1 l-1 w0 [5] c0", ""},
		{"it led, in a newer term", leads(1, 3, 5, 0, 5), vote(2, 1, 6, true), "follow t6 v-1 l-1 w0 [5] c0", ""},
	})
}

func TestHearAdd(t *testing.T) {
	has := func() impl.Node {
		n := follows(1, 3, 5, 2, 1, 1, 3, 3)
		n.Vote, n.Wait = 2, 4
		return n
	}
	mustHearAll(t, []hearing{
		{"nothing new", has(), add(0, 1, 5, 4, 3, 0), "follow t5 v2 l0 w0 [1 1 3 3] c2", "ack 1>0 t5 4 yes"},
		{"one behind", has(), add(0, 1, 5, 4, 3, 0, 5), "follow t5 v2 l0 w0 [1 1 3 3 5] c2", "ack 1>0 t5 5 yes"},
		{"as many as a message has", has(), add(0, 1, 5, 4, 3, 9, 3, 4, 4, 5), "follow t5 v2 l0 w0 [1 1 3 3 3 4 4 5] c8", "ack 1>0 t5 8 yes"},
		{"what it has", has(), add(0, 1, 5, 2, 1, 0, 3, 3), "follow t5 v2 l0 w0 [1 1 3 3] c2", "ack 1>0 t5 4 yes"},
		{"part of what it has", has(), add(0, 1, 5, 1, 1, 0, 1, 3), "follow t5 v2 l0 w0 [1 1 3 3] c2", "ack 1>0 t5 3 yes"},
		{"from the beginning", has(), add(0, 1, 5, 0, 0, 1, 1), "follow t5 v2 l0 w0 [1 1 3 3] c2", "ack 1>0 t5 1 yes"},
		{"nothing from the beginning", has(), add(0, 1, 5, 0, 0, 9), "follow t5 v2 l0 w0 [1 1 3 3] c2", "ack 1>0 t5 0 yes"},
		{"others at its last places", has(), add(0, 1, 5, 2, 1, 0, 4, 5), "follow t5 v2 l0 w0 [1 1 4 5] c2", "ack 1>0 t5 4 yes"},
		{"others, and all behind go", has(), add(0, 1, 5, 2, 1, 0, 4), "follow t5 v2 l0 w0 [1 1 4] c2", "ack 1>0 t5 3 yes"},
		{"one alike, then another one", has(), add(0, 1, 5, 2, 1, 0, 3, 5, 5), "follow t5 v2 l0 w0 [1 1 3 5 5] c2", "ack 1>0 t5 5 yes"},
		{"an older one there", has(), add(0, 1, 5, 2, 1, 0, 2, 2), "follow t5 v2 l0 w0 [1 1 2 2] c2", "ack 1>0 t5 4 yes"},
		{"committed as far as its items", has(), add(0, 1, 5, 2, 1, 9, 3), "follow t5 v2 l0 w0 [1 1 3 3] c3", "ack 1>0 t5 3 yes"},
		{"committed as far as it says", has(), add(0, 1, 5, 2, 1, 3, 3, 3), "follow t5 v2 l0 w0 [1 1 3 3] c3", "ack 1>0 t5 4 yes"},
		{"committed as far as Prev", has(), add(0, 1, 5, 3, 3, 4), "follow t5 v2 l0 w0 [1 1 3 3] c3", "ack 1>0 t5 3 yes"},
		{"committed less than it had", has(), add(0, 1, 5, 4, 3, 1), "follow t5 v2 l0 w0 [1 1 3 3] c2", "ack 1>0 t5 4 yes"},
		{"it has too few", has(), add(0, 1, 5, 5, 3, 5), "follow t5 v2 l0 w0 [1 1 3 3] c2", "ack 1>0 t5 4 no"},
		{"it has far too few", has(), add(0, 1, 5, impl.MaxLog, 3, 5), "follow t5 v2 l0 w0 [1 1 3 3] c2", "ack 1>0 t5 4 no"},
		{"it has none", follows(1, 3, 5, 0), add(2, 1, 5, 1, 3, 1), "follow t5 v-1 l2 w0 [] c0", "ack 1>2 t5 0 no"},
		{"another term at Prev", has(), add(0, 1, 5, 4, 4, 4), "follow t5 v2 l0 w0 [1 1 3 3] c2", "ack 1>0 t5 3 no"},
		{"another term at a Prev that is committed", has(), add(0, 1, 5, 1, 2, 4, 2), "follow t5 v2 l0 w0 [1 1 3 3] c2", "ack 1>0 t5 0 no"},
		{"another term at the last committed one", has(), add(0, 1, 5, 1, 1, 4, 2), "follow t5 v2 l0 w0 [1 1 3 3] c2", "ack 1>0 t5 2 no"},
		{"another term at the first one", has(), add(0, 1, 5, 0, 0, 4, 2, 2), "follow t5 v2 l0 w0 [1 1 3 3] c2", "ack 1>0 t5 2 no"},
		{"another term just behind the committed ones", has(), add(0, 1, 5, 1, 1, 0, 1, 2), "follow t5 v2 l0 w0 [1 1 2] c2", "ack 1>0 t5 3 yes"},
		{"an older term", has(), add(0, 1, 4, 4, 3, 4), "follow t5 v2 l-1 w4 [1 1 3 3] c2", "ack 1>0 t5 0 no"},
		{"a newer term", has(), add(0, 1, 6, 4, 3, 4, 6), "follow t6 v-1 l0 w0 [1 1 3 3 6] c4", "ack 1>0 t6 5 yes"},
		{"a newer term, with too few", has(), add(0, 1, 6, 7, 3, 4, 6), "follow t6 v-1 l0 w0 [1 1 3 3] c2", "ack 1>0 t6 4 no"},
		{"it stands in the term", stands(1, 3, 5, 0), add(0, 1, 5, 0, 0, 0, 5), "follow t5 v1 l0 w0 [5] c0", "ack 1>0 t5 1 yes"},
		{"it stands in a newer term", stands(1, 3, 5, 0), add(0, 1, 4, 0, 0, 0, 4), "stand t5 v1 l-1 w0 [] c0 by[1]", "ack 1>0 t5 0 no"},
		{"it stands, with too few", stands(1, 3, 5, 0, 2), add(0, 1, 5, 2, 2, 0), "follow t5 v1 l0 w0 [2] c0", "ack 1>0 t5 1 no"},
		{"it leads in the term", leads(1, 3, 5, 0, 5), add(0, 1, 5, 0, 0, 1, 5), "lead t5 v1 l1 w0 [5] c0 by[0 1] next[2 2 2] match[0 1 0]", "ack 1>0 t5 0 no"},
		{"it led", leads(1, 3, 5, 0, 5), add(0, 1, 6, 0, 0, 1, 6), "follow t6 v-1 l0 w0 [6] c1", "ack 1>0 t6 1 yes"},
		{"a full log", follows(0, 2, 5, 396, fullLog(396, 5)...), add(1, 0, 5, 396, 5, 400, 5, 5, 5, 5),
			fmt.Sprintf("follow t5 v-1 l1 w0 %v c400", fullLog(400, 5)), "ack 0>1 t5 400 yes"},
	})
}

// An item of the same term at the same place stays, whatever it says.
func TestHearAddKeepsWhatItHas(t *testing.T) {
	n := follows(1, 3, 5, 0, 2, 3)
	n.Log[0] = asked(2, 0, 1, op(impl.OpSet, "mine", "v", 0))
	m := add(0, 1, 5, 0, 0, 0, 2, 4)
	m.Items[0] = asked(2, 0, 1, op(impl.OpSet, "theirs", "v", 0))
	m.Items[1] = asked(4, 2, 7, op(impl.OpDel, "new", "", 0))
	n, _ = mustHear(t, n, 3, m)
	if len(n.Log) != 2 || string(n.Log[0].Cmd.Op.Key) != "mine" || !same(n.Log[1], m.Items[1]) {
		t.Errorf("%v", n.Log)
	}
}

func TestHearAck(t *testing.T) {
	head := func(next, match []int) impl.Node {
		n := leads(0, len(next), 6, 1, 1, 2, 6, 6, 6, 6, 6, 6)
		n.Next, n.Match, n.Wait = slices.Clone(next), slices.Clone(match), 3
		return n
	}
	is := func(commit int, next, match []int) string {
		by := map[int]string{2: "0 1", 3: "0 1", 4: "0 1 2", 5: "0 1 2"}[len(next)]
		return fmt.Sprintf("lead t6 v0 l0 w3 [1 2 6 6 6 6 6 6] c%d by[%s] next%v match%v", commit, by, next, match)
	}
	old := leads(0, 3, 6, 0, 1, 2)
	old.Next = []int{1, 3, 3}
	mustHearAll(t, []hearing{
		{"a no steps back by one", head([]int{9, 6, 9}, []int{8, 0, 0}), ack(1, 0, 6, 7, false), is(1, []int{9, 5, 9}, []int{8, 0, 0}), "add 0>1 t6 4/6 [6 6 6 6] c1"},
		{"a no steps back to what it has", head([]int{9, 6, 9}, []int{8, 0, 0}), ack(1, 0, 6, 2, false), is(1, []int{9, 3, 9}, []int{8, 0, 0}), "add 0>1 t6 2/2 [6 6 6 6] c1"},
		{"a no of one that has nothing", head([]int{9, 6, 9}, []int{8, 0, 0}), ack(1, 0, 6, 0, false), is(1, []int{9, 1, 9}, []int{8, 0, 0}), "add 0>1 t6 0/0 [1 2 6 6] c1"},
		{"a no at the first next", head([]int{9, 1, 9}, []int{8, 0, 0}), ack(1, 0, 6, 5, false), is(1, []int{9, 1, 9}, []int{8, 0, 0}), "add 0>1 t6 0/0 [1 2 6 6] c1"},
		{"a no at the second next", head([]int{9, 2, 9}, []int{8, 0, 0}), ack(1, 0, 6, 5, false), is(1, []int{9, 1, 9}, []int{8, 0, 0}), "add 0>1 t6 0/0 [1 2 6 6] c1"},
		{"a no just above the match", head([]int{9, 9, 5}, []int{8, 0, 3}), ack(2, 0, 6, 8, false), is(1, []int{9, 9, 4}, []int{8, 0, 3}), "add 0>2 t6 3/6 [6 6 6 6] c1"},
		{"a no at the match", head([]int{9, 9, 4}, []int{8, 0, 3}), ack(2, 0, 6, 8, false), is(1, []int{9, 9, 4}, []int{8, 0, 3}), ""},
		{"a no with a place at the match", head([]int{9, 9, 9}, []int{8, 0, 3}), ack(2, 0, 6, 2, false), is(1, []int{9, 9, 9}, []int{8, 0, 3}), ""},
		{"a no with a place above the match", head([]int{9, 9, 9}, []int{8, 0, 3}), ack(2, 0, 6, 3, false), is(1, []int{9, 9, 4}, []int{8, 0, 3}), "add 0>2 t6 3/6 [6 6 6 6] c1"},
		{"a no at next 1 with match 1", head([]int{9, 1, 9}, []int{8, 1, 0}), ack(1, 0, 6, 0, false), is(1, []int{9, 1, 9}, []int{8, 1, 0}), ""},
		{"a yes commits, and all are told", head([]int{9, 5, 9}, []int{8, 0, 0}), ack(1, 0, 6, 4, true), is(4, []int{9, 5, 9}, []int{8, 4, 0}), "add 0>1 t6 4/6 [6 6 6 6] c4; add 0>2 t6 8/6 [] c4"},
		{"a yes for all", head([]int{9, 5, 9}, []int{8, 4, 0}), ack(1, 0, 6, 8, true), is(8, []int{9, 9, 9}, []int{8, 8, 0}), "add 0>1 t6 8/6 [] c8; add 0>2 t6 8/6 [] c8"},
		{"a yes for what is of an older term", head([]int{9, 1, 9}, []int{8, 0, 0}), ack(1, 0, 6, 2, true), is(1, []int{9, 3, 9}, []int{8, 2, 0}), "add 0>1 t6 2/2 [6 6 6 6] c1"},
		{"a yes for the first of its term", head([]int{9, 1, 9}, []int{8, 0, 0}), ack(1, 0, 6, 3, true), is(3, []int{9, 4, 9}, []int{8, 3, 0}), "add 0>1 t6 3/6 [6 6 6 6] c3; add 0>2 t6 8/6 [] c3"},
		{"a yes that is old", head([]int{9, 7, 9}, []int{8, 5, 0}), ack(1, 0, 6, 5, true), is(1, []int{9, 7, 9}, []int{8, 5, 0}), ""},
		{"a yes that is older", head([]int{9, 7, 9}, []int{8, 5, 0}), ack(1, 0, 6, 4, true), is(1, []int{9, 7, 9}, []int{8, 5, 0}), ""},
		{"a yes for nothing", head([]int{9, 7, 9}, []int{8, 0, 0}), ack(1, 0, 6, 0, true), is(1, []int{9, 7, 9}, []int{8, 0, 0}), ""},
		{"a yes for more than there is", head([]int{9, 7, 9}, []int{8, 5, 0}), ack(1, 0, 6, 9, true), is(1, []int{9, 7, 9}, []int{8, 5, 0}), ""},
		{"two of four are not most", head([]int{9, 1, 9, 9}, []int{8, 0, 0, 0}), ack(1, 0, 6, 4, true), is(1, []int{9, 5, 9, 9}, []int{8, 4, 0, 0}), "add 0>1 t6 4/6 [6 6 6 6] c1"},
		{"two of four, and it has all", head([]int{9, 1, 9, 9}, []int{8, 0, 0, 0}), ack(1, 0, 6, 8, true), is(1, []int{9, 9, 9, 9}, []int{8, 8, 0, 0}), ""},
		{"three of four", head([]int{9, 1, 9, 9}, []int{8, 0, 5, 0}), ack(1, 0, 6, 8, true), is(5, []int{9, 9, 9, 9}, []int{8, 8, 5, 0}), "add 0>1 t6 8/6 [] c5; add 0>2 t6 8/6 [] c5; add 0>3 t6 8/6 [] c5"},
		{"three of five", head([]int{9, 1, 9, 9, 9}, []int{8, 0, 5, 3, 1}), ack(1, 0, 6, 4, true), is(4, []int{9, 5, 9, 9, 9}, []int{8, 4, 5, 3, 1}),
			"add 0>1 t6 4/6 [6 6 6 6] c4; add 0>2 t6 8/6 [] c4; add 0>3 t6 8/6 [] c4; add 0>4 t6 8/6 [] c4"},
		{"its own match did not stand", head([]int{1, 1, 9}, []int{0, 0, 0}), ack(1, 0, 6, 8, true), is(8, []int{9, 9, 9}, []int{8, 8, 0}), "add 0>1 t6 8/6 [] c8; add 0>2 t6 8/6 [] c8"},
		{"a log of older terms alone", old, ack(2, 0, 6, 2, true), "lead t6 v0 l0 w0 [1 2] c0 by[0 1] next[3 3 3] match[2 0 2]", ""},
		{"a no of an older term", head([]int{9, 6, 9}, []int{8, 0, 0}), ack(1, 0, 5, 2, false), is(1, []int{9, 6, 9}, []int{8, 0, 0}), ""},
		{"a yes of an older term", head([]int{9, 6, 9}, []int{8, 0, 0}), ack(1, 0, 5, 8, true), is(1, []int{9, 6, 9}, []int{8, 0, 0}), ""},
		{"a yes of a newer term", head([]int{9, 6, 9}, []int{8, 0, 0}), ack(1, 0, 7, 8, true), "follow t7 v-1 l-1 w3 [1 2 6 6 6 6 6 6] c1", ""},
		{"a no of a newer term", head([]int{9, 6, 9}, []int{8, 0, 0}), ack(1, 0, 7, 0, false), "follow t7 v-1 l-1 w3 [1 2 6 6 6 6 6 6] c1", ""},
		{"it follows", follows(0, 3, 6, 0, 6), ack(1, 0, 6, 1, true), "follow t6 v-1 l-1 w0 [6] c0", ""},
		{"it stands", stands(0, 3, 6, 0, 6), ack(1, 0, 6, 1, true), "stand t6 v0 l-1 w0 [6] c0 by[0]", ""},
		{"it stands, and a no", stands(0, 3, 6, 0, 6), ack(1, 0, 6, 0, false), "stand t6 v0 l-1 w0 [6] c0 by[0]", ""},
	})
}

func TestHearRefuses(t *testing.T) {
	for servers := 1; servers <= impl.MaxServers; servers++ {
		for id := range servers {
			for _, n := range []impl.Node{follows(id, servers, 3, 0), stands(id, servers, 3, 0), leads(id, servers, 3, 0)} {
				for from := -1; from <= impl.MaxServers; from++ {
					for to := -1; to <= impl.MaxServers; to++ {
						for _, m := range []impl.Msg{ask(from, to, 3, 0, 0), vote(from, to, 4, true), add(from, to, 3, 0, 0, 0), ack(from, to, 3, 0, false)} {
							is, said := mustHear(t, n, servers, m)
							wanted := to == id && from != id && from >= 0 && from < servers
							if (len(is.Votes) > 0) != wanted || !wanted && (!same(is, impl.Node{}) || len(said) != 0) {
								t.Fatalf("Hear(%v, %d, %v) = %v, %v", n, servers, m, is, said)
							}
						}
					}
				}
			}
		}
	}
	for _, e := range msgEdges() {
		servers := impl.MaxServers
		id := max(0, min(e.m.To, servers-1))
		is, said := mustHear(t, follows(id, servers, 3, 0), servers, e.m)
		if !e.ok && (!same(is, impl.Node{}) || len(said) != 0) {
			t.Errorf("%s: heard: %v", e.what, e.m)
		}
	}
}

func TestServersThatMayNotBe(t *testing.T) {
	set := impl.Cmd{Client: 1, Req: 1, Op: op(impl.OpSet, "a", "b", 0)}
	for _, e := range badNodes() {
		tick, said := impl.Tick(e.n, e.servers)
		heard, answers := impl.Hear(e.n, e.servers, impl.Msg{Kind: impl.MsVote, From: (e.n.Id + 1) & 3, To: e.n.Id, Term: 1})
		proposed, told, put := impl.Propose(e.n, e.servers, set)
		m, is := impl.AddFor(e.n, e.servers, (e.n.Id+1)&1)
		zero := same([]impl.Node{tick, heard, proposed, impl.Fall(e.n, e.servers)}, make([]impl.Node, 4))
		if !zero || len(said)+len(answers)+len(told) != 0 || put || is || !same(m, impl.Msg{}) {
			t.Errorf("%s: %v: %v %v %v", e.what, e.n, tick, heard, proposed)
		}
		if impl.TermAt(e.n, e.servers, 1) != 0 || impl.Newer(e.n, e.servers, impl.MaxLog, impl.MaxTerm) || impl.Backed(e.n, e.servers, 1) != 0 || len(impl.Behind(e.n, e.servers)) != 0 {
			t.Errorf("%s: something is told of %v", e.what, e.n)
		}
	}
	good := leads(0, 3, 5, 0, 5)
	for _, servers := range farNumbers {
		n, said := impl.Tick(good, servers)
		if (len(said) == 2) != (servers == 3) || (len(n.Log) == 1) != (servers == 3) {
			t.Errorf("Tick with %d servers: %v", servers, n)
		}
		if _, is := impl.AddFor(good, servers, 1); is != (servers == 3) {
			t.Errorf("AddFor with %d servers is %v", servers, is)
		}
	}
}

func TestFall(t *testing.T) {
	for _, e := range nodeEdges() {
		fallen := impl.Fall(e.n, e.servers)
		if !same(fallen, modelFall(e.n, e.servers)) {
			t.Errorf("%s: Fall(%v) = %v", e.what, e.n, fallen)
		}
		if e.ok && (fallen.Term != e.n.Term || fallen.Vote != e.n.Vote || !same(fallen.Log, e.n.Log) || !impl.NodeOk(fallen, e.servers)) {
			t.Errorf("%s: %v fell to %v", e.what, e.n, fallen)
		}
	}
	n := leads(2, 3, 9, 2, 4, 9)
	n.Wait = 5
	want := follows(2, 3, 9, 0, 4, 9)
	want.Vote = 2
	if fallen := impl.Fall(n, 3); !same(fallen, want) {
		t.Errorf("%v fell to %v", n, fallen)
	}
}

func TestPropose(t *testing.T) {
	set := impl.Cmd{Client: 1, Req: 8, Op: op(impl.OpSet, "a/b", "v", 0)}
	head := leads(1, 3, 6, 0, 2, 6)
	head.Next, head.Match = []int{1, 3, 3}, []int{0, 2, 0}
	n, said, put := mustPropose(t, head, 3, set)
	mustBe(t, "it leads", nodeText(n), "lead t6 v1 l1 w0 [2 6 6] c0 by[0 1] next[1 4 3] match[0 3 0]")
	mustBe(t, "it leads", msgTexts(said), "add 1>0 t6 0/0 [2 6 6] c0; add 1>2 t6 2/6 [6] c0")
	if !put || !same(n.Log[2], impl.Item{Term: 6, Cmd: set}) || !same(said[1].Items[0], n.Log[2]) {
		t.Errorf("%v %v", put, n)
	}
	n, said, put = mustPropose(t, leads(0, 1, 6, 0, 2), 1, set)
	mustBe(t, "alone", nodeText(n)+msgTexts(said), "lead t6 v0 l0 w0 [2 6] c2 by[0] next[3] match[2]")
	if !put {
		t.Error("alone, it is not put")
	}
	if n, _, put = mustPropose(t, head, 3, impl.Cmd{Client: -1}); !put || !same(n.Log[2], free(6)) {
		t.Errorf("nobody's: %v %v", n, put)
	}
	for _, n := range []impl.Node{follows(1, 3, 6, 0, 2, 6), stands(1, 3, 6, 0, 2, 6), leads(0, 3, 6, 0, fullLog(200, 5)...), leads(0, 1, 6, 0, fullLog(201, 5)...)} {
		if is, said, put := mustPropose(t, n, len(n.Votes), set); put || len(said) != 0 || !same(is, n) {
			t.Errorf("Propose(%v) = %v, %v, %v", n, is, said, put)
		}
	}
	if n, _, put := mustPropose(t, leads(0, 3, 6, 0, fullLog(199, 5)...), 3, set); !put || len(n.Log) != impl.MaxLog/2 {
		t.Errorf("199 items: %v, %d", put, len(n.Log))
	}
	bad := []impl.Cmd{{}, {Client: -1, Req: 1}, {Client: 4, Req: 1}, {Client: 0, Req: 1, Op: op(impl.OpSet, "", "", 0)}, {Client: 0, Req: 1, Op: op(8, "", "", 0)}}
	for _, c := range bad {
		for _, n := range []impl.Node{head, follows(0, 3, 1, 0)} {
			if is, said, put := mustPropose(t, n, 3, c); put || len(said) != 0 || !same(is, impl.Node{}) {
				t.Errorf("Propose(%v, %v) = %v, %v, %v", n, c, is, said, put)
			}
		}
	}
}

func TestTermAtAndNewer(t *testing.T) {
	places := append(slices.Clone(farNumbers), 199, 200, 399, 400, 401)
	for _, n := range goodNodes() {
		servers, size := len(n.Votes), len(n.Log)
		last := (&modelServer{Node: n}).lastTerm()
		for _, place := range append(places, size-1, size, size+1) {
			want := 0
			if place >= 1 && place <= size {
				want = n.Log[place-1].Term
			}
			if got := impl.TermAt(n, servers, place); got != want {
				t.Errorf("TermAt(%v, %d) = %d, not %d", n, place, got, want)
			}
			for _, term := range append(farNumbers, last-1, last, last+1) {
				want := term > last || term == last && place >= size
				if got := impl.Newer(n, servers, place, term); got != want {
					t.Errorf("Newer(%v, %d, %d) = %v", n, place, term, got)
				}
			}
		}
	}
}

func TestOfTwoLogsOneIsAsNew(t *testing.T) {
	var nodes []impl.Node
	eachOver([]byte{0, 1, 3}, 4, func(steps []byte) {
		term, log := 1, []int{}
		for _, step := range steps {
			term += int(step)
			log = append(log, term)
		}
		nodes = append(nodes, follows(0, 3, 20, 0, log...))
	})
	both := 0
	for _, a := range nodes {
		for _, b := range nodes {
			aLast, bLast := impl.TermAt(a, 3, len(a.Log)), impl.TermAt(b, 3, len(b.Log))
			bIs, aIs := impl.Newer(a, 3, len(b.Log), bLast), impl.Newer(b, 3, len(a.Log), aLast)
			if !aIs && !bIs {
				t.Fatalf("none of %v and %v is as new as the other", termsOf(a.Log), termsOf(b.Log))
			}
			if alike := aLast == bLast && len(a.Log) == len(b.Log); (aIs && bIs) != alike {
				t.Fatalf("%v and %v are as new as one another: %v", termsOf(a.Log), termsOf(b.Log), !alike)
			}
			if aIs && bIs {
				both++
			}
		}
	}
	if len(nodes) != 1+3+9+27+81 || both < len(nodes) {
		t.Errorf("%d logs, %d pairs alike", len(nodes), both)
	}
}

func TestWhatALeaderTells(t *testing.T) {
	for _, n := range goodNodes() {
		servers, size := len(n.Votes), len(n.Log)
		for _, place := range append(slices.Clone(farNumbers), 399, 400, 401) {
			want := 0
			if n.Role == impl.RoLead && place >= 1 && place <= size {
				want = 1
				for other := range servers {
					if other != n.Id && n.Match[other] >= place {
						want++
					}
				}
			}
			if got := impl.Backed(n, servers, place); got != want {
				t.Errorf("Backed(%v, %d) = %d, not %d", n, place, got, want)
			}
		}
		for _, to := range farNumbers {
			m, is := impl.AddFor(n, servers, to)
			if want := n.Role == impl.RoLead && to != n.Id && to >= 0 && to < servers; is != want {
				t.Errorf("AddFor(%v, %d) = %v, %v", n, to, m, is)
			}
			if is && (!same(m, (&modelServer{Node: n}).add(to)) || !impl.MsgOk(m)) || !is && !same(m, impl.Msg{}) {
				t.Errorf("AddFor(%v, %d) = %v", n, to, m)
			}
		}
		var behind []int
		for other := range servers {
			if n.Role == impl.RoLead && other != n.Id && n.Match[other] < size {
				behind = append(behind, other)
			}
		}
		if got := impl.Behind(n, servers); !slices.Equal(got, behind) {
			t.Errorf("Behind(%v) = %v", n, got)
		}
	}
}

func TestWhatALeaderTellsInShort(t *testing.T) {
	n := leads(1, 5, 6, 1, 1, 2, 6, 6, 6, 6)
	n.Next, n.Match = []int{1, 1, 3, 7, 5}, []int{0, 0, 2, 6, 4}
	for to, want := range map[int]string{0: "add 1>0 t6 0/0 [1 2 6 6] c1", 2: "add 1>2 t6 2/2 [6 6 6 6] c1", 3: "add 1>3 t6 6/6 [] c1", 4: "add 1>4 t6 4/6 [6 6] c1"} {
		m, _ := impl.AddFor(n, 5, to)
		mustBe(t, "AddFor", msgText(m), want)
	}
	mustBe(t, "Behind", fmt.Sprint(impl.Behind(n, 5)), "[0 2 4]")
	for place, want := range []int{0, 4, 4, 3, 3, 2, 2, 0} {
		if got := impl.Backed(n, 5, place); got != want {
			t.Errorf("Backed at %d is %d, not %d", place, got, want)
		}
	}
}
