package tests

import (
	"loop.example/g00365/impl"
)

// Snapshots told a second time: bytes are read strictly, each wrong one on the spot, and what facts leave by the model of the catalog alone.

func isIn(n, low, high int) bool {
	return n >= low && n <= high
}

func modelState(s impl.State) bool {
	if !isIn(s.Index, 0, 1000000) || !isIn(s.Lost, 0, s.Index) ||
		len(s.Rows) > 20 || len(s.Tombs) > 10 || len(s.Sess) > 8 || len(s.Lasts) > 4 {
		return false
	}
	return modelRowsAndTombs(s) && modelSessionsAndLasts(s)
}

func modelRowsAndTombs(s impl.State) bool {
	seen := map[string]int{}
	for i, r := range s.Rows {
		held := r.Holder == 0 || modelSession(&s, r.Holder) != nil
		if !held || !modelKey(r.Key) || len(r.Val) > 20 || !isIn(r.Turned, 1, s.Index) || i > 0 && string(r.Key) <= string(s.Rows[i-1].Key) {
			return false
		}
		seen[string(r.Key)]++
	}
	for i, x := range s.Tombs {
		seen[string(x.Key)]++
		if seen[string(x.Key)] > 1 || !modelKey(x.Key) || x.Index < s.Lost || !isIn(x.Index, 1, s.Index) || i > 0 && x.Index < s.Tombs[i-1].Index {
			return false
		}
	}
	return true
}

func modelSessionsAndLasts(s impl.State) bool {
	for i, x := range s.Sess {
		if !isIn(x.Id, 1, s.Index) || i > 0 && x.Id <= s.Sess[i-1].Id {
			return false
		}
	}
	for i, x := range s.Lasts {
		if !isIn(x.Client, 0, 3) || !isIn(x.Req, 1, 1000000) || !isIn(x.Reply.Code, 0, 5) || !isIn(x.Reply.Index, 1, s.Index) ||
			i > 0 && x.Client <= s.Lasts[i-1].Client {
			return false
		}
	}
	return true
}

// modelStateBytes writes whatever state it is given, one that may not be as well.
func modelStateBytes(s impl.State) []byte {
	var b []byte
	nums := func(list ...int) {
		for _, n := range list {
			b = append(b, bytesOf(n)...)
		}
	}
	text := func(t []byte) { b = append(append(b, byte(len(t))), t...) }
	nums(s.Index, s.Lost, len(s.Rows))
	for _, r := range s.Rows {
		text(r.Key)
		text(r.Val)
		nums(r.Turned, r.Holder)
	}
	nums(len(s.Tombs))
	for _, x := range s.Tombs {
		text(x.Key)
		nums(x.Index)
	}
	nums(len(s.Sess))
	for _, x := range s.Sess {
		nums(x.Id, map[bool]int{true: 1}[x.Delete])
	}
	nums(len(s.Lasts))
	for _, x := range s.Lasts {
		nums(x.Client, x.Req, x.Reply.Code, x.Reply.Index)
	}
	return b
}

type modelReader struct {
	b     []byte
	at    int
	wrong bool
}

func (r *modelReader) num(most int) int {
	n, next := numberAt(r.b, r.at)
	if r.wrong = r.wrong || next < 0 || n > most; r.wrong {
		return 0
	}
	r.at = next
	return n
}

func (r *modelReader) text() []byte {
	t, next := textAt(r.b, r.at)
	if r.wrong = r.wrong || next < 0; r.wrong {
		return nil
	}
	r.at = next
	return []byte(string(t))
}

func modelStateRead(b []byte) (impl.State, bool) {
	r := &modelReader{b: b}
	var s impl.State
	s.Index = r.num(1000000)
	s.Lost = r.num(1000000)
	for left := r.num(20); left > 0; left-- {
		s.Rows = append(s.Rows, impl.Row{Key: r.text(), Val: r.text(), Turned: r.num(1000000), Holder: r.num(1000000)})
	}
	for left := r.num(10); left > 0; left-- {
		s.Tombs = append(s.Tombs, impl.Tomb{Key: r.text(), Index: r.num(1000000)})
	}
	for left := r.num(8); left > 0; left-- {
		s.Sess = append(s.Sess, impl.Session{Id: r.num(1000000), Delete: r.num(1) > 0})
	}
	for left := r.num(4); left > 0; left-- {
		s.Lasts = append(s.Lasts, impl.Last{Client: r.num(3), Req: r.num(1000000), Reply: impl.Reply{Code: r.num(5), Index: r.num(1000000)}})
	}
	if r.wrong || r.at < len(b) || !modelState(s) {
		return impl.State{}, false
	}
	return s, true
}

func modelSnap(s impl.Snap) bool {
	for _, c := range s.Rest {
		if !modelCmd(c) {
			return false
		}
	}
	return modelState(s.Base) && len(s.Rest) <= 400 && s.Base.Index+len(s.Rest) <= 1000000
}

func modelSnapOf(l []impl.Fact, k int) (impl.Snap, bool) {
	s := impl.Snap{}
	if len(l) > 400 || k < 0 || k > len(l) {
		return s, false
	}
	for i, fact := range l {
		if !modelCmd(fact.Cmd) {
			return impl.Snap{}, false
		}
		if i < k {
			s.Base, _ = modelApply(s.Base, fact.Cmd)
		} else {
			s.Rest = append(s.Rest, fact.Cmd)
		}
	}
	return s, true
}

func modelSnapAll(s impl.Snap) (impl.State, bool) {
	if !modelSnap(s) {
		return impl.State{}, false
	}
	state := s.Base
	for _, c := range s.Rest {
		state, _ = modelApply(state, c)
	}
	return state, true
}

func modelSnapAdd(s impl.Snap, c impl.Cmd) (impl.Snap, bool) {
	if !modelSnap(s) || !modelCmd(c) {
		return impl.Snap{}, false
	}
	more := impl.Snap{Base: s.Base, Rest: append(s.Rest[:len(s.Rest):len(s.Rest)], c)}
	if !modelSnap(more) {
		return s, false
	}
	return more, true
}
