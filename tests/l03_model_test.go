package tests

import (
	"loop.example/g00365/impl"
)

// Messages told a second time, straight from the document's words.

func modelCmd(c impl.Cmd) bool {
	if c.Client == -1 {
		return same(c, impl.Cmd{Client: -1})
	}
	return c.Client >= 0 && c.Client <= 3 && c.Req >= 1 && c.Req <= 1000000 && modelOp(c.Op)
}

func modelItem(x impl.Item) bool {
	return x.Term >= 1 && x.Term <= 100000 && modelCmd(x.Cmd)
}

// What a kind has behind Term; what it does not have must be zero.
type msgShape struct {
	prev, prevTerm, items, commit, yes bool
}

var msgShapes = map[int]msgShape{
	0: {prev: true, prevTerm: true},
	1: {yes: true},
	2: {prev: true, prevTerm: true, items: true, commit: true},
	3: {prev: true, yes: true},
}

func modelMsg(m impl.Msg) bool {
	shape, is := msgShapes[m.Kind]
	if !is || m.From < 0 || m.From > 4 || m.To < 0 || m.To > 4 || m.From == m.To || m.Term < 1 || m.Term > 100000 {
		return false
	}
	if !shape.prev && m.Prev != 0 || !shape.prevTerm && m.PrevTerm != 0 || !shape.items && len(m.Items) != 0 ||
		!shape.commit && m.Commit != 0 || !shape.yes && m.Yes {
		return false
	}
	if m.Prev < 0 || m.Prev > 400 || m.Commit < 0 || m.Commit > 400 {
		return false
	}
	if shape.prevTerm && ((m.PrevTerm == 0) != (m.Prev == 0) || m.PrevTerm < 0 || m.PrevTerm > m.Term) {
		return false
	}
	return modelItems(m)
}

func modelItems(m impl.Msg) bool {
	if len(m.Items) > 4 || len(m.Items)+m.Prev > 400 {
		return false
	}
	for i, x := range m.Items {
		if !modelItem(x) || x.Term < m.PrevTerm || x.Term > m.Term {
			return false
		}
		for _, ahead := range m.Items[:i] {
			if ahead.Term > x.Term {
				return false
			}
		}
	}
	return true
}

func modelMsgBytes(m impl.Msg) []byte {
	var b []byte
	num := func(n int) { b = append(b, bytesOf(n)...) }
	text := func(t []byte) { b = append(append(b, byte(len(t))), t...) }
	yes := func() { b = append(b, map[bool]byte{true: 1}[m.Yes]) }
	num(m.Kind)
	num(m.From)
	num(m.To)
	num(m.Term)
	switch m.Kind {
	case 0:
		num(m.Prev)
		num(m.PrevTerm)
	case 1:
		yes()
	case 2:
		num(m.Prev)
		num(m.PrevTerm)
		num(m.Commit)
		num(len(m.Items))
		for _, x := range m.Items {
			num(x.Term)
			num(x.Cmd.Client + 1)
			num(x.Cmd.Req)
			num(x.Cmd.Op.Kind)
			text(x.Cmd.Op.Key)
			text(x.Cmd.Op.Val)
			num(x.Cmd.Op.N)
		}
	case 3:
		num(m.Prev)
		yes()
	}
	return b
}

// modelMsgRead takes apart b without giving up, then asks whether the message that comes of it may be and has just these bytes.
func modelMsgRead(b []byte) (impl.Msg, bool) {
	at := 0
	num := func() int {
		n, next := numberAt(b, at)
		at = next
		return n
	}
	text := func() []byte {
		t, next := textAt(b, at)
		at = next
		return t
	}
	var m impl.Msg
	m.Kind, m.From, m.To, m.Term = num(), num(), num(), num()
	shape := msgShapes[m.Kind]
	if shape.prev {
		m.Prev = num()
	}
	if shape.prevTerm {
		m.PrevTerm = num()
	}
	if shape.commit {
		m.Commit = num()
		for left := min(num(), 5); left > 0; left-- {
			x := impl.Item{Term: num()}
			x.Cmd = impl.Cmd{Client: num() - 1, Req: num()}
			x.Cmd.Op = impl.Op{Kind: num(), Key: text(), Val: text(), N: num()}
			m.Items = append(m.Items, x)
		}
	}
	if shape.yes {
		m.Yes = num() == 1
	}
	if at != len(b) || !modelMsg(m) || string(modelMsgBytes(m)) != string(b) {
		return impl.Msg{}, false
	}
	return m, true
}
