package tests

import (
	"sort"

	"loop.example/g00365/impl"
)

// The catalog told a second time, over plain lists, straight from the document's words.

func modelKey(b []byte) bool {
	for _, c := range string(b) {
		if !(c >= 'a' && c <= 'z' || c == '/') {
			return false
		}
	}
	return len(b) > 0 && len(b) <= 20
}

type opShape struct {
	key, val  bool
	low, high int
}

var opShapes = map[int]opShape{
	0: {},
	1: {key: true, val: true},
	2: {key: true, val: true, high: 1000000},
	3: {key: true},
	4: {high: 1},
	5: {low: 1, high: 1000000},
	6: {key: true, val: true, low: 1, high: 1000000},
	7: {key: true, low: 1, high: 1000000},
}

func modelOp(o impl.Op) bool {
	shape, is := opShapes[o.Kind]
	key := shape.key && modelKey(o.Key) || !shape.key && len(o.Key) == 0
	val := shape.val && len(o.Val) <= 20 || len(o.Val) == 0
	return is && key && val && o.N >= shape.low && o.N <= shape.high
}

func copyState(s impl.State) impl.State {
	made := impl.State{Index: s.Index, Lost: s.Lost}
	for _, r := range s.Rows {
		made.Rows = append(made.Rows, impl.Row{Key: []byte(string(r.Key)), Val: []byte(string(r.Val)), Turned: r.Turned, Holder: r.Holder})
	}
	for _, x := range s.Tombs {
		made.Tombs = append(made.Tombs, impl.Tomb{Key: []byte(string(x.Key)), Index: x.Index})
	}
	made.Sess = append(made.Sess, s.Sess...)
	made.Lasts = append(made.Lasts, s.Lasts...)
	return made
}

func modelRow(s *impl.State, key []byte) *impl.Row {
	for i := range s.Rows {
		if string(s.Rows[i].Key) == string(key) {
			return &s.Rows[i]
		}
	}
	return nil
}

func modelSession(s *impl.State, id int) *impl.Session {
	for i := range s.Sess {
		if s.Sess[i].Id == id {
			return &s.Sess[i]
		}
	}
	return nil
}

func modelPut(s *impl.State, key, val []byte) int {
	if row := modelRow(s, key); row != nil {
		row.Val, row.Turned = []byte(string(val)), s.Index
		return impl.RpWell
	}
	if len(s.Rows) >= 20 {
		return impl.RpFull
	}
	s.Rows = append(s.Rows, impl.Row{Key: []byte(string(key)), Val: []byte(string(val)), Turned: s.Index})
	sort.Slice(s.Rows, func(i, j int) bool { return string(s.Rows[i].Key) < string(s.Rows[j].Key) })
	var left []impl.Tomb
	for _, x := range s.Tombs {
		if string(x.Key) != string(key) {
			left = append(left, x)
		}
	}
	s.Tombs = left
	return impl.RpWell
}

func modelBury(s *impl.State, key []byte) {
	var left []impl.Row
	for _, r := range s.Rows {
		if string(r.Key) != string(key) {
			left = append(left, r)
		}
	}
	s.Rows = left
	s.Tombs = append(s.Tombs, impl.Tomb{Key: []byte(string(key)), Index: s.Index})
	if len(s.Tombs) > 10 {
		s.Lost = s.Tombs[0].Index
		s.Tombs = s.Tombs[1:]
	}
}

func modelShut(s *impl.State, id int) int {
	session := modelSession(s, id)
	if session == nil {
		return impl.RpNone
	}
	deletes := session.Delete
	var left []impl.Session
	for _, x := range s.Sess {
		if x.Id != id {
			left = append(left, x)
		}
	}
	s.Sess = left
	var mine []string
	for _, r := range s.Rows {
		if r.Holder == id {
			mine = append(mine, string(r.Key))
		}
	}
	for _, key := range mine {
		if deletes {
			modelBury(s, []byte(key))
		} else {
			row := modelRow(s, []byte(key))
			row.Holder, row.Turned = 0, s.Index
		}
	}
	return impl.RpWell
}

func modelTake(s *impl.State, o impl.Op) int {
	row := modelRow(s, o.Key)
	if modelSession(s, o.N) == nil {
		return impl.RpNone
	}
	if row != nil && row.Holder != 0 && row.Holder != o.N {
		return impl.RpHeld
	}
	code := modelPut(s, o.Key, o.Val)
	if code == impl.RpWell {
		modelRow(s, o.Key).Holder = o.N
	}
	return code
}

func modelDo(s *impl.State, o impl.Op) int {
	row := modelRow(s, o.Key)
	switch o.Kind {
	case impl.OpSet:
		return modelPut(s, o.Key, o.Val)
	case impl.OpCas:
		if row == nil && o.N != 0 || row != nil && row.Turned != o.N {
			return impl.RpTurned
		}
		return modelPut(s, o.Key, o.Val)
	case impl.OpDel:
		if row == nil {
			return impl.RpNone
		}
		modelBury(s, o.Key)
	case impl.OpOpen:
		if len(s.Sess) >= 8 {
			return impl.RpFull
		}
		s.Sess = append(s.Sess, impl.Session{Id: s.Index, Delete: o.N == 1})
	case impl.OpShut:
		return modelShut(s, o.N)
	case impl.OpTake:
		return modelTake(s, o)
	case impl.OpFree:
		if row == nil || row.Holder != o.N {
			return impl.RpNone
		}
		row.Holder, row.Turned = 0, s.Index
	}
	return impl.RpWell
}

// modelApply wants a state and a command that may be, with room for one more Index.
func modelApply(from impl.State, c impl.Cmd) (impl.State, impl.Reply) {
	s := copyState(from)
	s.Index++
	if c.Client < 0 {
		return s, impl.Reply{Code: impl.RpWell, Index: s.Index}
	}
	var others []impl.Last
	for _, last := range s.Lasts {
		if last.Client != c.Client {
			others = append(others, last)
			continue
		}
		if last.Req == c.Req {
			return s, last.Reply
		}
		if last.Req > c.Req {
			return s, impl.Reply{Code: impl.RpOld, Index: s.Index}
		}
	}
	reply := impl.Reply{Code: modelDo(&s, c.Op), Index: s.Index}
	s.Lasts = append(others, impl.Last{Client: c.Client, Req: c.Req, Reply: reply})
	sort.Slice(s.Lasts, func(i, j int) bool { return s.Lasts[i].Client < s.Lasts[j].Client })
	return s, reply
}
