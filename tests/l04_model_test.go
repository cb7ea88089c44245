package tests

import (
	"slices"

	"loop.example/g00365/impl"
)

// Servers told a second time, straight from the document's words, over plain values.

func copyLog(l []impl.Item) []impl.Item {
	var made []impl.Item
	for _, x := range l {
		x.Cmd.Op.Key, x.Cmd.Op.Val = []byte(string(x.Cmd.Op.Key)), []byte(string(x.Cmd.Op.Val))
		made = append(made, x)
	}
	return made
}

func copyServer(n impl.Node) impl.Node {
	n.Log = copyLog(n.Log)
	n.Votes = append([]bool(nil), n.Votes...)
	n.Next = append([]int(nil), n.Next...)
	n.Match = append([]int(nil), n.Match...)
	return n
}

// The sweeps ask these, which answer like same and are much quicker.
func sameLog(a, b []impl.Item) bool {
	return slices.EqualFunc(a, b, func(x, y impl.Item) bool {
		p, q := x.Cmd, y.Cmd
		return x.Term == y.Term && p.Client == q.Client && p.Req == q.Req && p.Op.Kind == q.Op.Kind && p.Op.N == q.Op.N &&
			string(p.Op.Key) == string(q.Op.Key) && string(p.Op.Val) == string(q.Op.Val)
	})
}

func sameServer(a, b impl.Node) bool {
	return [7]int{a.Id, a.Term, a.Vote, a.Commit, a.Role, a.Lead, a.Wait} == [7]int{b.Id, b.Term, b.Vote, b.Commit, b.Role, b.Lead, b.Wait} &&
		sameLog(a.Log, b.Log) && slices.Equal(a.Votes, b.Votes) && slices.Equal(a.Next, b.Next) && slices.Equal(a.Match, b.Match)
}

func sameMsgs(a, b []impl.Msg) bool {
	return slices.EqualFunc(a, b, func(x, y impl.Msg) bool {
		return [7]int{x.Kind, x.From, x.To, x.Term, x.Prev, x.PrevTerm, x.Commit} == [7]int{y.Kind, y.From, y.To, y.Term, y.Prev, y.PrevTerm, y.Commit} &&
			x.Yes == y.Yes && sameLog(x.Items, y.Items)
	})
}

func modelNodeNew(id, servers int) (impl.Node, bool) {
	if servers <= 0 || servers > 5 || id < 0 || id >= servers {
		return impl.Node{}, false
	}
	n := impl.Node{Id: id, Vote: -1, Lead: -1}
	for range servers {
		n.Votes, n.Next, n.Match = append(n.Votes, false), append(n.Next, 0), append(n.Match, 0)
	}
	return n, true
}

func modelNode(n impl.Node, servers int) bool {
	if _, ok := modelNodeNew(n.Id, servers); !ok {
		return false
	}
	if n.Term < 0 || n.Term > 100000 || n.Vote < -1 || n.Vote >= servers || n.Lead < -1 || n.Lead >= servers {
		return false
	}
	if len(n.Log) > 400 || n.Commit < 0 || n.Commit > len(n.Log) || n.Wait < 0 || n.Wait > 20 {
		return false
	}
	for i, x := range n.Log {
		if !modelItem(x) || x.Term > n.Term || i > 0 && n.Log[i-1].Term > x.Term {
			return false
		}
	}
	if n.Role < 0 || n.Role > 2 || len(n.Votes) != servers || len(n.Next) != servers || len(n.Match) != servers {
		return false
	}
	if n.Role != 0 && (n.Term == 0 || n.Vote != n.Id) || n.Role == 2 && n.Lead != n.Id {
		return false
	}
	for i := range servers {
		leads := n.Next[i] >= 1 && n.Next[i] <= len(n.Log)+1 && n.Match[i] >= 0 && n.Match[i] <= len(n.Log)
		zero := n.Next[i] == 0 && n.Match[i] == 0
		if n.Role == 0 && n.Votes[i] || n.Role == 2 && !leads || n.Role != 2 && !zero {
			return false
		}
	}
	return true
}

// modelServer is a server at work, with what it said so far.
type modelServer struct {
	impl.Node
	said []impl.Msg
}

func (n *modelServer) lastTerm() int {
	if len(n.Log) == 0 {
		return 0
	}
	return n.Log[len(n.Log)-1].Term
}

func (n *modelServer) follow(term int) {
	if term > n.Term {
		n.Term, n.Vote, n.Lead = term, -1, -1
	}
	n.Role = impl.RoFollow
	for i := range n.Votes {
		n.Votes[i], n.Next[i], n.Match[i] = false, 0, 0
	}
}

func (n *modelServer) add(to int) impl.Msg {
	m := impl.Msg{Kind: impl.MsAdd, From: n.Id, To: to, Term: n.Term, Prev: n.Next[to] - 1, Commit: n.Commit}
	if m.Prev > 0 {
		m.PrevTerm = n.Log[m.Prev-1].Term
	}
	for place := m.Prev + 1; place <= len(n.Log) && place <= m.Prev+4; place++ {
		m.Items = append(m.Items, n.Log[place-1])
	}
	return m
}

func (n *modelServer) tellAll() {
	for to := range n.Votes {
		if to != n.Id {
			n.said = append(n.said, n.add(to))
		}
	}
}

func (n *modelServer) commits() {
	n.Match[n.Id], n.Next[n.Id] = len(n.Log), len(n.Log)+1
	was := n.Commit
	for place := was + 1; place <= len(n.Log); place++ {
		have := 0
		for _, match := range n.Match {
			if place <= match {
				have++
			}
		}
		if n.Log[place-1].Term == n.Term && have > len(n.Match)/2 {
			n.Commit = place
		}
	}
}

func (n *modelServer) leads() {
	voted := 0
	for _, v := range n.Votes {
		if v {
			voted++
		}
	}
	if voted <= len(n.Votes)/2 {
		return
	}
	n.Role, n.Lead, n.Wait = impl.RoLead, n.Id, 0
	for i := range n.Next {
		n.Next[i], n.Match[i] = len(n.Log)+1, 0
	}
	if len(n.Log) < 400 {
		n.Log = append(n.Log, impl.Item{Term: n.Term, Cmd: impl.Cmd{Client: -1}})
	}
	n.commits()
	n.tellAll()
}

func modelTick(from impl.Node, servers int) (impl.Node, []impl.Msg) {
	if !modelNode(from, servers) {
		return impl.Node{}, nil
	}
	n := modelServer{Node: copyServer(from)}
	if n.Role == impl.RoLead {
		n.tellAll()
		return n.Node, n.said
	}
	n.Wait++
	if n.Wait < 3+2*n.Id || n.Term == 100000 {
		n.Wait = min(n.Wait, 20)
		return n.Node, nil
	}
	n.follow(n.Term + 1)
	n.Role, n.Wait, n.Vote, n.Votes[n.Id] = impl.RoStand, 0, n.Id, true
	if servers == 1 {
		n.leads()
		return n.Node, n.said
	}
	for to := range servers {
		if to != n.Id {
			n.said = append(n.said, impl.Msg{Kind: impl.MsAsk, From: n.Id, To: to, Term: n.Term, Prev: len(n.Log), PrevTerm: n.lastTerm()})
		}
	}
	return n.Node, n.said
}

func modelHear(from impl.Node, servers int, m impl.Msg) (impl.Node, []impl.Msg) {
	if !modelNode(from, servers) || !modelMsg(m) || m.To != from.Id || m.From >= servers {
		return impl.Node{}, nil
	}
	n := modelServer{Node: copyServer(from)}
	if m.Term > n.Term {
		n.follow(m.Term)
	}
	answer := impl.Msg{From: n.Id, To: m.From, Term: n.Term}
	switch m.Kind {
	case impl.MsAsk:
		answer.Kind = impl.MsVote
		newer := m.PrevTerm > n.lastTerm() || m.PrevTerm == n.lastTerm() && m.Prev >= len(n.Log)
		if m.Term == n.Term && n.Role == impl.RoFollow && (n.Vote == -1 || n.Vote == m.From) && newer {
			answer.Yes, n.Vote, n.Wait = true, m.From, 0
		}
		n.said = append(n.said, answer)
	case impl.MsVote:
		if n.Role == impl.RoStand && m.Term == n.Term && m.Yes {
			n.Votes[m.From] = true
			n.leads()
		}
	case impl.MsAdd:
		answer.Kind = impl.MsAck
		if m.Term >= n.Term && n.Role != impl.RoLead {
			n.follow(m.Term)
			n.Wait, n.Lead = 0, m.From
			answer.Prev, answer.Yes = n.takes(m)
		}
		n.said = append(n.said, answer)
	case impl.MsAck:
		if n.Role == impl.RoLead && m.Term == n.Term {
			n.acked(m)
		}
	}
	return n.Node, n.said
}

func (n *modelServer) takes(m impl.Msg) (int, bool) {
	if m.Prev > len(n.Log) {
		return len(n.Log), false
	}
	if m.Prev > 0 && n.Log[m.Prev-1].Term != m.PrevTerm {
		return m.Prev - 1, false
	}
	for i, x := range m.Items {
		if at := m.Prev + i; at < n.Commit && n.Log[at].Term != x.Term {
			return n.Commit, false
		}
	}
	for i, x := range m.Items {
		at := m.Prev + i
		if at < len(n.Log) && n.Log[at].Term != x.Term {
			n.Log = n.Log[:at]
		}
		if at == len(n.Log) {
			n.Log = append(n.Log, copyLog([]impl.Item{x})...)
		}
	}
	last := m.Prev + len(m.Items)
	if less := min(m.Commit, last); less > n.Commit {
		n.Commit = less
	}
	return last, true
}

func (n *modelServer) acked(m impl.Msg) {
	if !m.Yes {
		next := n.Next[m.From] - 1
		if m.Prev+1 < next {
			next = m.Prev + 1
		}
		if next < 1 {
			next = 1
		}
		if next > n.Match[m.From] {
			n.Next[m.From] = next
			n.said = append(n.said, n.add(m.From))
		}
		return
	}
	if m.Prev > len(n.Log) || m.Prev <= n.Match[m.From] {
		return
	}
	n.Match[m.From], n.Next[m.From] = m.Prev, m.Prev+1
	was := n.Commit
	n.commits()
	if n.Commit != was {
		n.tellAll()
	} else if n.Next[m.From] <= len(n.Log) {
		n.said = append(n.said, n.add(m.From))
	}
}

func modelPropose(from impl.Node, servers int, c impl.Cmd) (impl.Node, []impl.Msg, bool) {
	if !modelNode(from, servers) || !modelCmd(c) {
		return impl.Node{}, nil, false
	}
	n := modelServer{Node: copyServer(from)}
	if n.Role != impl.RoLead || len(n.Log) >= 200 {
		return n.Node, nil, false
	}
	n.Log = append(n.Log, copyLog([]impl.Item{{Term: n.Term, Cmd: c}})...)
	n.commits()
	n.tellAll()
	return n.Node, n.said, true
}

func modelFall(from impl.Node, servers int) impl.Node {
	if !modelNode(from, servers) {
		return impl.Node{}
	}
	n, _ := modelNodeNew(from.Id, servers)
	n.Term, n.Vote, n.Log = from.Term, from.Vote, copyLog(from.Log)
	return n
}
