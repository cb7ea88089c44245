package tests

import (
	"slices"

	"loop.example/g00365/impl"
)

// The cluster told a second time, straight from the document's words, over plain values.

func modelAction(a impl.Action) bool {
	if a.Kind < 0 || a.Kind > 9 || a.Node < 0 || a.Node > 4 || a.I < 0 || a.I > 1<<31-1 {
		return false
	}
	zeroOp := a.Op.Kind == 0 && len(a.Op.Key) == 0 && len(a.Op.Val) == 0 && a.Op.N == 0
	if a.Kind == impl.AcCall && !modelOp(a.Op) || a.Kind != impl.AcCall && !zeroOp {
		return false
	}
	if a.Kind == impl.AcRead || a.Kind == impl.AcWatch {
		return modelKey(a.Key)
	}
	return len(a.Key) == 0
}

// modelParcel is one thing in the net: what a server says, a client's request, or the reply to one.
type modelParcel struct {
	what  string
	msg   impl.Msg
	to    int
	cmd   impl.Cmd
	reply impl.Reply
}

type modelWatch struct {
	key   string
	since int
}

type modelCluster struct {
	impl.Result
	servers int
	now     int
	net     []modelParcel
	applied []int
	watches [][]modelWatch
	reqs    []int
	// Of each client the place of the Call it waits for, or -1.
	waits []int
}

func modelRun(servers, clients int, script []impl.Action, settle bool) impl.Result {
	if servers < 1 || servers > 5 || clients < 1 || clients > 4 || len(script) > 300 {
		return impl.Result{}
	}
	for _, a := range script {
		if !modelAction(a) {
			return impl.Result{}
		}
	}
	c := newModelCluster(servers, clients)
	for i, a := range script {
		c.now = i + 1
		c.act(a)
	}
	if settle {
		c.settles()
	}
	c.Net = len(c.net)
	return c.Result
}

func newModelCluster(servers, clients int) *modelCluster {
	c := &modelCluster{servers: servers}
	c.Ok = true
	for id := range servers {
		n, _ := modelNodeNew(id, servers)
		c.Nodes, c.States, c.Up = append(c.Nodes, n), append(c.States, impl.State{}), append(c.Up, true)
		c.applied, c.watches = append(c.applied, 0), append(c.watches, nil)
	}
	for range clients {
		c.reqs, c.waits = append(c.reqs, 0), append(c.waits, -1)
	}
	return c
}

func (c *modelCluster) send(p modelParcel) {
	if len(c.net) < 80 {
		c.net = append(c.net, p)
	}
}

func (c *modelCluster) sendRequest(client, to int) {
	call := c.Calls[c.waits[client]]
	c.send(modelParcel{what: "request", to: to, cmd: impl.Cmd{Client: client, Req: call.Req, Op: call.Op}})
}

func (c *modelCluster) act(a impl.Action) {
	switch a.Kind {
	case impl.AcCall, impl.AcRetry:
		if a.I >= len(c.reqs) || a.Node >= c.servers || (a.Kind == impl.AcCall) != (c.waits[a.I] == -1) {
			return
		}
		if a.Kind == impl.AcCall {
			c.reqs[a.I]++
			c.waits[a.I] = len(c.Calls)
			c.Calls = append(c.Calls, impl.Call{Client: a.I, Req: c.reqs[a.I], Op: a.Op, From: c.now, To: -1})
		}
		c.sendRequest(a.I, a.Node)
	case impl.AcDeliver, impl.AcDouble, impl.AcDrop:
		if len(c.net) == 0 {
			return
		}
		place := a.I % len(c.net)
		p := c.net[place]
		if a.Kind != impl.AcDouble {
			c.net = append(slices.Clone(c.net[:place]), c.net[place+1:]...)
		}
		if a.Kind != impl.AcDrop {
			c.heard(p)
		}
	default:
		if a.Node < c.servers {
			c.actAt(a.Node, a)
		}
	}
}

func (c *modelCluster) actAt(id int, a impl.Action) {
	switch {
	case a.Kind == impl.AcCrash:
		c.Nodes[id] = modelFall(c.Nodes[id], c.servers)
		c.Up[id], c.States[id], c.applied[id], c.watches[id] = false, impl.State{}, 0, nil
	case a.Kind == impl.AcStart:
		c.Up[id] = true
	case !c.Up[id]:
	case a.Kind == impl.AcTick:
		c.ticks(id)
	case a.Kind == impl.AcRead:
		if len(c.Reads) < 400 {
			c.Reads = append(c.Reads, c.noteOf(id, string(a.Key), 0))
		}
	case a.Kind == impl.AcWatch:
		if len(c.watches[id]) < 400 {
			c.watches[id] = append(c.watches[id], modelWatch{string(a.Key), a.I})
			c.looks(id)
		}
	}
}

func (c *modelCluster) noteOf(id int, key string, since int) impl.Note {
	view := impl.View{Index: c.States[id].Lost}
	for _, tomb := range c.States[id].Tombs {
		if string(tomb.Key) == key {
			view.Index = tomb.Index
		}
	}
	for _, row := range c.States[id].Rows {
		if string(row.Key) == key {
			view = impl.View{Index: row.Turned, Has: true, Val: row.Val}
		}
	}
	return impl.Note{At: c.now, Node: id, Key: []byte(key), Since: since, K: c.applied[id], View: view}
}

func (c *modelCluster) looks(id int) {
	for i := 0; i < len(c.watches[id]); {
		w := c.watches[id][i]
		note := c.noteOf(id, w.key, w.since)
		if note.View.Index <= w.since {
			i++
			continue
		}
		if len(c.Watch) < 400 {
			c.Watch = append(c.Watch, note)
		}
		c.watches[id] = append(slices.Clone(c.watches[id][:i]), c.watches[id][i+1:]...)
	}
}

func (c *modelCluster) ticks(id int) {
	n, said := modelTick(c.Nodes[id], c.servers)
	c.turn(id, n, said)
}

func (c *modelCluster) turn(id int, n impl.Node, said []impl.Msg) {
	c.Nodes[id] = n
	for _, m := range said {
		c.send(modelParcel{what: "message", msg: m, to: m.To})
	}
	for place := c.applied[id] + 1; place <= n.Commit; place++ {
		cmd := n.Log[place-1].Cmd
		if place > len(c.Facts) {
			c.Facts = append(c.Facts, impl.Fact{At: c.now, Cmd: cmd})
		} else if !same(c.Facts[place-1].Cmd, cmd) {
			c.Split = true
		}
		var reply impl.Reply
		c.States[id], reply = modelApply(c.States[id], cmd)
		c.applied[id] = place
		if n.Role == impl.RoLead && cmd.Client >= 0 {
			c.send(modelParcel{what: "reply", cmd: cmd, reply: reply})
		}
		c.looks(id)
	}
}

func (c *modelCluster) heard(p modelParcel) {
	switch {
	case p.what == "reply":
		if at := c.waits[p.cmd.Client]; at >= 0 && c.Calls[at].Req == p.cmd.Req {
			c.waits[p.cmd.Client] = -1
			c.Calls[at].To, c.Calls[at].Reply = c.now, p.reply
		}
	case !c.Up[p.to]:
	case p.what == "request":
		c.requested(p.to, p.cmd)
	default:
		n, said := modelHear(c.Nodes[p.to], c.servers, p.msg)
		c.turn(p.to, n, said)
	}
}

func (c *modelCluster) requested(id int, cmd impl.Cmd) {
	if c.Nodes[id].Role != impl.RoLead {
		return
	}
	for _, last := range c.States[id].Lasts {
		if last.Client == cmd.Client && last.Req == cmd.Req {
			c.send(modelParcel{what: "reply", cmd: cmd, reply: last.Reply})
		}
		if last.Client == cmd.Client && last.Req >= cmd.Req {
			return
		}
	}
	for place := c.applied[id] + 1; place <= len(c.Nodes[id].Log); place++ {
		if has := c.Nodes[id].Log[place-1].Cmd; has.Client == cmd.Client && has.Req == cmd.Req {
			return
		}
	}
	n, said, _ := modelPropose(c.Nodes[id], c.servers, cmd)
	c.turn(id, n, said)
}

func (c *modelCluster) empties() {
	for count := 0; count < 3000 && len(c.net) > 0; count++ {
		c.now++
		p := c.net[0]
		c.net = slices.Clone(c.net[1:])
		c.heard(p)
	}
}

func (c *modelCluster) settles() {
	for id := range c.Up {
		c.Up[id] = true
	}
	for c.Rounds = 0; c.Rounds < 60; c.Rounds++ {
		c.empties()
		if c.quiet() {
			return
		}
		for id := range c.servers {
			c.ticks(id)
			c.empties()
		}
		for id := range c.servers {
			for client, at := range c.waits {
				if c.Nodes[id].Role == impl.RoLead && at >= 0 {
					c.sendRequest(client, id)
				}
			}
		}
	}
}

func (c *modelCluster) quiet() bool {
	lead := -1
	for id, n := range c.Nodes {
		if n.Role == impl.RoLead && (lead == -1 || n.Term > c.Nodes[lead].Term) {
			lead = id
		}
	}
	if len(c.net) > 0 || lead == -1 {
		return false
	}
	for id, n := range c.Nodes {
		is := n.Term == c.Nodes[lead].Term && len(n.Log) == len(c.Nodes[lead].Log) && n.Commit == len(n.Log)
		if !is || id != lead && n.Role != impl.RoFollow {
			return false
		}
	}
	for _, at := range c.waits {
		if at >= 0 {
			return false
		}
	}
	return true
}

func modelFollow(l []impl.Fact) (impl.State, []impl.Reply) {
	var s impl.State
	var replies []impl.Reply
	if len(l) > 400 {
		return s, nil
	}
	for i := 0; i < len(l) && modelCmd(l[i].Cmd); i++ {
		var reply impl.Reply
		s, reply = modelApply(s, l[i].Cmd)
		replies = append(replies, reply)
	}
	return s, replies
}
