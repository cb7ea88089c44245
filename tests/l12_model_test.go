package tests

import (
	"fmt"
	"slices"
	"strings"

	"loop.example/g00365/impl"
)

// Circles told a second time, straight from the document's words, over plain values.

func modelMove(m impl.Move) bool {
	return isIn(m.Kind, 0, 6) && isIn(m.Who, 0, 11) && isIn(m.I, 0, 2147483647)
}

// modelPacket is a question on behalf of one, a request to ask about one, or an answer about one on behalf of another.
type modelPacket struct {
	what          string
	from, to      int
	about, behalf int
	said          []impl.Member
}

type modelTimer struct {
	id, left int
}

type modelCircle struct {
	impl.Gossip
	n       int
	probers []impl.Prober
	timers  [][]modelTimer
	net     []modelPacket
	turn    int
	// How many packets found no room.
	lost int
}

func modelChat(n, seed int, script []impl.Move, settle bool) impl.Gossip {
	if n < 1 || n > 6 || seed < 0 || seed > 1<<31-1 || len(script) > 300 {
		return impl.Gossip{}
	}
	for _, m := range script {
		if !modelMove(m) {
			return impl.Gossip{}
		}
	}
	c := newModelCircle(n, seed)
	for _, m := range script {
		c.move(m)
	}
	if settle {
		c.settles()
	}
	c.Net = len(c.net)
	return c.Gossip
}

func newModelCircle(n, seed int) *modelCircle {
	c := &modelCircle{n: n, timers: make([][]modelTimer, n)}
	c.Ok = true
	for id := range n {
		all := make(map[int]impl.Member)
		for other := range n {
			all[other] = impl.Member{Id: other}
		}
		number := seed + id
		if number >= 2147483647 {
			number -= 2147483647
		}
		p, _ := modelProberNew(number)
		c.Tables, c.Up, c.probers = append(c.Tables, tableWith(id, all)), append(c.Up, true), append(c.probers, p)
	}
	return c
}

func (c *modelCircle) send(p modelPacket) {
	if len(c.net) > 79 {
		c.lost++
		return
	}
	all := c.Tables[p.from].Members
	p.said = []impl.Member{all[p.from]}
	round := slices.Concat(all[c.turn%c.n:], all[:c.turn%c.n])
	round = slices.DeleteFunc(round, func(m impl.Member) bool { return m.Id == p.from })
	p.said = append(p.said, round[:min(2, len(round))]...)
	c.net = append(c.net, p)
	c.turn++
}

func (c *modelCircle) takes(place int) modelPacket {
	p := c.net[place]
	c.net = append(slices.Clone(c.net[:place]), c.net[place+1:]...)
	return p
}

func (c *modelCircle) move(m impl.Move) {
	switch {
	case m.Kind == impl.GoHear && len(c.net) > 0:
		c.heard(c.takes(m.I % len(c.net)))
	case m.Kind == impl.GoDrop && len(c.net) > 0:
		c.takes(m.I % len(c.net))
	case m.Who >= c.n:
	case m.Kind == impl.GoTick:
		c.ticks(m.Who)
	case m.Kind == impl.GoDown:
		c.Up[m.Who] = false
	case m.Kind == impl.GoUp:
		c.Up[m.Who] = true
	case m.Kind == impl.GoLeave && c.Up[m.Who]:
		c.Tables[m.Who], _ = modelLeave(c.Tables[m.Who])
	case m.Kind == impl.GoPush:
		c.pushes(m.Who, m.I%c.n)
	}
}

func (c *modelCircle) pushes(who, with int) {
	if who == with || !c.Up[who] || !c.Up[with] {
		return
	}
	one, other := c.Tables[who], c.Tables[with]
	c.Tables[who], _ = modelMerge(one, other)
	c.Tables[with], _ = modelMerge(other, one)
	c.watches(who)
	c.watches(with)
}

func (c *modelCircle) watches(id int) {
	var timers []modelTimer
	for _, m := range c.Tables[id].Members {
		if m.State == 1 {
			had := slices.IndexFunc(c.timers[id], func(x modelTimer) bool { return x.id == m.Id })
			if had >= 0 {
				timers = append(timers, c.timers[id][had])
			} else {
				timers = append(timers, modelTimer{m.Id, 6})
			}
		}
	}
	c.timers[id] = timers
}

func (c *modelCircle) heard(p modelPacket) {
	if !c.Up[p.to] {
		return
	}
	for _, m := range p.said {
		c.Tables[p.to], _ = modelHeard(c.Tables[p.to], m)
	}
	c.watches(p.to)
	switch {
	case p.what == "question":
		c.send(modelPacket{what: "answer", from: p.to, to: p.from, about: p.to, behalf: p.behalf})
	case p.what == "request":
		c.send(modelPacket{what: "question", from: p.to, to: p.about, behalf: p.from})
	case p.behalf == p.to:
		c.probers[p.to], _ = modelProbeAck(c.probers[p.to], p.about)
	default:
		c.send(modelPacket{what: "answer", from: p.to, to: p.behalf, about: p.about, behalf: p.behalf})
	}
}

func (c *modelCircle) ticks(id int) {
	if !c.Up[id] || c.Tables[id].Members[id].State == 3 {
		return
	}
	for i := range c.timers[id] {
		timer := &c.timers[id][i]
		if timer.left--; timer.left < 1 {
			c.Tables[id], _ = modelDoubt(c.Tables[id], timer.id, 2, 0, 1)
		}
	}
	var what, who int
	c.probers[id], what, who = modelProbeTick(c.probers[id], c.Tables[id])
	switch what {
	case 1:
		c.send(modelPacket{what: "question", from: id, to: who, behalf: id})
	case 2:
		var helpers []int
		c.probers[id], helpers = modelHelpers(c.probers[id], c.Tables[id], 3)
		for _, helper := range helpers {
			c.send(modelPacket{what: "request", from: id, to: helper, about: who})
		}
	case 3:
		c.Tables[id], _ = modelDoubt(c.Tables[id], who, 1, 0)
	}
	c.watches(id)
}

func (c *modelCircle) empties() {
	for count := 0; count < 1000 && len(c.net) > 0; count++ {
		c.heard(c.takes(0))
	}
}

func (c *modelCircle) settles() {
	for c.Rounds = 0; c.Rounds < 200; c.Rounds++ {
		c.empties()
		if len(c.net) == 0 && saysTheSame(c.Gossip) {
			return
		}
		for id := range c.n {
			c.ticks(id)
			c.empties()
		}
		for id := range c.n {
			c.pushes(id, (id+1+c.Rounds%c.n)%c.n)
		}
	}
}

// saysTheSame tells whether all that are up say the same of each: who is up lives or has left, who is not is dead or has left.
func saysTheSame(g impl.Gossip) bool {
	var told []impl.Member
	for id, x := range g.Tables {
		if !g.Up[id] {
			continue
		}
		if told == nil {
			told = x.Members
		}
		if !slices.Equal(told, x.Members) {
			return false
		}
		for _, m := range x.Members {
			if g.Up[m.Id] && m.State != 0 && m.State != 3 || !g.Up[m.Id] && m.State != 2 && m.State != 3 {
				return false
			}
		}
	}
	return true
}

// oneStays tells whether one that is up has not left.
func oneStays(g impl.Gossip) bool {
	for id, x := range g.Tables {
		if g.Up[id] && x.Members[id].State != 3 {
			return true
		}
	}
	return false
}

// talk is a script with those who play it.
type talk struct {
	n, seed int
	script  []impl.Move
}

func (k talk) String() string {
	var out strings.Builder
	fmt.Fprintf(&out, "%d members, seed %d:", k.n, k.seed)
	for _, m := range k.script {
		name := []string{"tick", "hear", "drop", "down", "up", "leave", "push"}[m.Kind]
		fmt.Fprintf(&out, " %s(%d %d)", name, m.Who, m.I)
	}
	return out.String()
}

func circleOf(n, seed int) talk {
	return talk{n: n, seed: seed}
}

func (k talk) chat(settle bool) impl.Gossip {
	return impl.Chat(k.n, k.seed, k.script, settle)
}

func (k talk) then(times int, m impl.Move) talk {
	k.script = slices.Concat(k.script, slices.Repeat([]impl.Move{m}, times))
	return k
}

func (k talk) upTo(moves int) talk {
	k.script = slices.Clone(k.script[:moves])
	return k
}

func (k talk) ticks(who, times int) talk {
	return k.then(times, impl.Move{Kind: impl.GoTick, Who: who})
}

// hears has the first packet heard so many times.
func (k talk) hears(times int) talk {
	return k.then(times, impl.Move{Kind: impl.GoHear})
}

func (k talk) hearsAt(i int) talk {
	return k.then(1, impl.Move{Kind: impl.GoHear, I: i})
}

// drops drops the first packet so many times.
func (k talk) drops(times int) talk {
	return k.then(times, impl.Move{Kind: impl.GoDrop})
}

func (k talk) dropsAt(i int) talk {
	return k.then(1, impl.Move{Kind: impl.GoDrop, I: i})
}

func (k talk) downs(who int) talk {
	return k.then(1, impl.Move{Kind: impl.GoDown, Who: who})
}

func (k talk) ups(who int) talk {
	return k.then(1, impl.Move{Kind: impl.GoUp, Who: who})
}

func (k talk) leaves(who ...int) talk {
	for _, id := range who {
		k = k.then(1, impl.Move{Kind: impl.GoLeave, Who: id})
	}
	return k
}

func (k talk) pushes(who, with int) talk {
	return k.then(1, impl.Move{Kind: impl.GoPush, Who: who, I: with})
}

// gossipText writes an answer down: what each says of all (a, s, d, l, with the life where it is not 0), a stroke ahead of who is not up, and how many packets there are.
func gossipText(g impl.Gossip) string {
	var all []string
	for id, x := range g.Tables {
		text := ""
		if id >= len(g.Up) || !g.Up[id] {
			text = "-"
		}
		for _, m := range x.Members {
			text += stateSigns[m.State : m.State+1]
			if m.Life > 0 {
				text += fmt.Sprint(m.Life)
			}
		}
		all = append(all, text)
	}
	return fmt.Sprintf("%s; %d", strings.Join(all, " "), g.Net)
}
