package tests

import (
	"fmt"
	"math"
	"slices"
	"strings"
	"testing"

	"loop.example/g00365/impl"
)

func TestCodesAndLimitsOfMessages(t *testing.T) {
	if impl.MsAsk != 0 || impl.MsVote != 1 || impl.MsAdd != 2 || impl.MsAck != 3 {
		t.Error(impl.MsAsk, impl.MsVote, impl.MsAdd, impl.MsAck)
	}
	if impl.MaxServers != 5 || impl.MaxTerm != 100000 || impl.MaxItems != 4 || impl.MaxLog != 400 {
		t.Error(impl.MaxServers, impl.MaxTerm, impl.MaxItems, impl.MaxLog)
	}
}

// free answers an item of nobody's.
func free(term int) impl.Item {
	return impl.Item{Term: term, Cmd: impl.Cmd{Client: -1}}
}

func asked(term, client, req int, o impl.Op) impl.Item {
	return impl.Item{Term: term, Cmd: impl.Cmd{Client: client, Req: req, Op: o}}
}

func frees(terms ...int) []impl.Item {
	var items []impl.Item
	for _, term := range terms {
		items = append(items, free(term))
	}
	return items
}

// goodMsgs answers for each kind the least message, one in the middle and the greatest one.
func goodMsgs() []impl.Msg {
	most := impl.Msg{Kind: impl.MsAdd, From: 4, To: 3, Term: impl.MaxTerm, Prev: impl.MaxLog - impl.MaxItems, PrevTerm: impl.MaxTerm, Commit: impl.MaxLog}
	for i := range impl.MaxItems {
		most.Items = append(most.Items, asked(impl.MaxTerm, i, impl.MaxIndex, op(impl.OpTake, longKey, longKey, impl.MaxIndex)))
	}
	return []impl.Msg{
		{Kind: impl.MsAsk, To: 1, Term: 1},
		{Kind: impl.MsAsk, From: 1, To: 2, Term: 9, Prev: 7, PrevTerm: 5},
		{Kind: impl.MsAsk, From: 4, To: 3, Term: impl.MaxTerm, Prev: impl.MaxLog, PrevTerm: impl.MaxTerm},
		{Kind: impl.MsVote, To: 1, Term: 1},
		{Kind: impl.MsVote, From: 2, To: 0, Term: 300, Yes: true},
		{Kind: impl.MsVote, From: 4, To: 3, Term: impl.MaxTerm, Yes: true},
		{Kind: impl.MsAdd, To: 1, Term: 1},
		{Kind: impl.MsAdd, From: 3, To: 1, Term: 6, Prev: 200, PrevTerm: 2, Commit: 130, Items: []impl.Item{
			free(2),
			asked(4, 0, 1, op(impl.OpSet, "a/b", "v", 0)),
			asked(4, 3, 128, op(impl.OpCas, "z", "", 16384)),
			asked(6, 1, 2, op(impl.OpNone, "", "", 0)),
		}},
		{Kind: impl.MsAdd, From: 1, To: 0, Term: 3, Prev: 1, PrevTerm: 1, Items: []impl.Item{
			asked(1, 2, 5, op(impl.OpOpen, "", "", 1)),
			asked(3, 2, 6, op(impl.OpShut, "", "", 1)),
			asked(3, 2, 7, op(impl.OpDel, "k", "", 0)),
			asked(3, 2, 8, op(impl.OpFree, "k", "", 9)),
		}},
		most,
		{Kind: impl.MsAck, To: 1, Term: 1},
		{Kind: impl.MsAck, From: 1, To: 4, Term: 127, Prev: 128},
		{Kind: impl.MsAck, From: 4, To: 3, Term: impl.MaxTerm, Prev: impl.MaxLog, Yes: true},
	}
}

func TestItemOk(t *testing.T) {
	cmds := []struct {
		cmd impl.Cmd
		ok  bool
	}{
		{impl.Cmd{Client: -1}, true},
		{impl.Cmd{Client: -1, Req: 1}, false},
		{impl.Cmd{Client: -1, Op: op(impl.OpSet, "a", "", 0)}, false},
		{impl.Cmd{}, false},
		{impl.Cmd{Req: 1}, true},
		{impl.Cmd{Client: 3, Req: impl.MaxIndex, Op: op(impl.OpSet, longKey, longKey, 0)}, true},
		{impl.Cmd{Client: 4, Req: 1}, false},
		{impl.Cmd{Client: 0, Req: impl.MaxIndex + 1}, false},
		{impl.Cmd{Req: 1, Op: op(impl.OpSet, "", "v", 0)}, false},
		{impl.Cmd{Req: 1, Op: op(impl.OpSet, tooLongKey, "v", 0)}, false},
		{impl.Cmd{Req: 1, Op: op(impl.OpSet, "a", tooLongKey, 0)}, false},
		{impl.Cmd{Req: 1, Op: op(impl.OpFree+1, "a", "", 1)}, false},
	}
	terms := map[int]bool{
		math.MinInt: false, -1: false, 0: false, 1: true, 2: true,
		impl.MaxTerm - 1: true, impl.MaxTerm: true, impl.MaxTerm + 1: false, math.MaxInt: false,
	}
	for term, termOk := range terms {
		for _, c := range cmds {
			x := impl.Item{Term: term, Cmd: c.cmd}
			if want := termOk && c.ok; impl.ItemOk(x) != want || modelItem(x) != want {
				t.Errorf("ItemOk(%v) is not %v", x, want)
			}
		}
	}
}

func TestMsgOkAtEdges(t *testing.T) {
	for _, e := range msgEdges() {
		if impl.MsgOk(e.m) != e.ok || modelMsg(e.m) != e.ok {
			t.Errorf("%s: MsgOk(%v) is not %v", e.what, e.m, e.ok)
		}
	}
}

type msgEdge struct {
	what string
	m    impl.Msg
	ok   bool
}

// msgEdges answers each good message, and each turned in one thing.
func msgEdges() []msgEdge {
	var all []msgEdge
	for _, turn := range msgTurns {
		for _, good := range goodMsgs() {
			if slices.Contains(turn.kinds, good.Kind) {
				good.Items = slices.Clone(good.Items)
				turn.do(&good)
				all = append(all, msgEdge{turn.what, good, turn.ok})
			}
		}
	}
	return all
}

var (
	eachKind  = []int{impl.MsAsk, impl.MsVote, impl.MsAdd, impl.MsAck}
	withPrev  = []int{impl.MsAsk, impl.MsAdd}
	onlyAdd   = []int{impl.MsAdd}
	onlyVote  = []int{impl.MsVote}
	onlyAck   = []int{impl.MsAck}
	withYes   = []int{impl.MsVote, impl.MsAck}
	allButAdd = []int{impl.MsAsk, impl.MsVote, impl.MsAck}
)

func prevIs(prev, prevTerm, term int) func(m *impl.Msg) {
	return func(m *impl.Msg) {
		m.Prev, m.PrevTerm, m.Term, m.Items = prev, prevTerm, term, nil
	}
}

func itemsAre(prev, prevTerm, term int, items ...impl.Item) func(m *impl.Msg) {
	return func(m *impl.Msg) {
		m.Prev, m.PrevTerm, m.Term, m.Items = prev, prevTerm, term, items
	}
}

var msgTurns = []struct {
	what  string
	kinds []int
	ok    bool
	do    func(m *impl.Msg)
}{
	{"as it is", eachKind, true, func(m *impl.Msg) {}},
	{"kind below", eachKind, false, func(m *impl.Msg) { m.Kind = -1 }},
	{"kind above", eachKind, false, func(m *impl.Msg) { m.Kind = impl.MsAck + 1 }},
	{"kind far below", eachKind, false, func(m *impl.Msg) { m.Kind = math.MinInt }},
	{"kind far above", eachKind, false, func(m *impl.Msg) { m.Kind = math.MaxInt }},
	{"nothing but a kind below", eachKind, false, func(m *impl.Msg) { *m = impl.Msg{Kind: -1, To: 1, Term: 1} }},
	{"nothing but a kind above", eachKind, false, func(m *impl.Msg) { *m = impl.Msg{Kind: 4, To: 1, Term: 1} }},
	{"zero but for the kind", eachKind, false, func(m *impl.Msg) { *m = impl.Msg{Kind: m.Kind} }},

	{"from and to at their bounds", eachKind, true, func(m *impl.Msg) { m.From, m.To = 0, impl.MaxServers-1 }},
	{"to and from at their bounds", eachKind, true, func(m *impl.Msg) { m.To, m.From = 0, impl.MaxServers-1 }},
	{"from below", eachKind, false, func(m *impl.Msg) { m.From = -1 }},
	{"from above", eachKind, false, func(m *impl.Msg) { m.From = impl.MaxServers }},
	{"to below", eachKind, false, func(m *impl.Msg) { m.To = -1 }},
	{"to above", eachKind, false, func(m *impl.Msg) { m.To = impl.MaxServers }},
	{"from and to alike", eachKind, false, func(m *impl.Msg) { m.To = m.From }},
	{"from and to alike at 0", eachKind, false, func(m *impl.Msg) { m.To, m.From = 0, 0 }},
	{"from and to alike and below", eachKind, false, func(m *impl.Msg) { m.To, m.From = -1, -1 }},

	{"term 0", eachKind, false, func(m *impl.Msg) { m.Term = 0 }},
	{"term 0, nothing else", eachKind, false, func(m *impl.Msg) { *m = impl.Msg{Kind: m.Kind, To: 1} }},
	{"term below 0", eachKind, false, func(m *impl.Msg) { m.Term = -1 }},
	{"term 1", allButAdd, true, func(m *impl.Msg) { m.Term, m.PrevTerm = 1, min(1, m.PrevTerm) }},
	{"term 1 of all", onlyAdd, true, itemsAre(3, 1, 1, frees(1, 1)...)},
	{"term at its most", eachKind, true, func(m *impl.Msg) { m.Term = impl.MaxTerm }},
	{"term above", eachKind, false, func(m *impl.Msg) { m.Term = impl.MaxTerm + 1 }},
	{"term far above", eachKind, false, func(m *impl.Msg) { m.Term = math.MaxInt }},

	{"prev below 0", withPrev, false, prevIs(-1, 1, 1)},
	{"prev below 0, prevterm 0", withPrev, false, prevIs(-1, 0, 1)},
	{"prev far below 0", withPrev, false, prevIs(math.MinInt, 1, 1)},
	{"prev 0", withPrev, true, prevIs(0, 0, 7)},
	{"prev 1", withPrev, true, prevIs(1, 3, 7)},
	{"prev at its most", withPrev, true, prevIs(impl.MaxLog, 3, 7)},
	{"prev above", withPrev, false, prevIs(impl.MaxLog+1, 3, 7)},
	{"prev far above", withPrev, false, prevIs(math.MaxInt, 3, 7)},
	{"prevterm 0 behind the beginning", withPrev, false, prevIs(1, 0, 7)},
	{"prevterm 0 at the most", withPrev, false, prevIs(impl.MaxLog, 0, 7)},
	{"prevterm 1 at the beginning", withPrev, false, prevIs(0, 1, 7)},
	{"prevterm at term at the beginning", withPrev, false, prevIs(0, 7, 7)},
	{"prevterm below 0", withPrev, false, prevIs(1, -1, 7)},
	{"prevterm below 0 at the beginning", withPrev, false, prevIs(0, -1, 7)},
	{"prevterm 1", withPrev, true, prevIs(1, 1, 7)},
	{"prevterm at term", withPrev, true, prevIs(1, 7, 7)},
	{"prevterm above term", withPrev, false, prevIs(1, 8, 7)},
	{"prevterm at term at its most", withPrev, true, prevIs(1, impl.MaxTerm, impl.MaxTerm)},
	{"prevterm above term at its most", withPrev, false, prevIs(1, impl.MaxTerm+1, impl.MaxTerm)},

	{"ack: prev below 0", onlyAck, false, func(m *impl.Msg) { m.Prev = -1 }},
	{"ack: prev 0", onlyAck, true, func(m *impl.Msg) { m.Prev = 0 }},
	{"ack: prev at its most", onlyAck, true, func(m *impl.Msg) { m.Prev = impl.MaxLog }},
	{"ack: prev above", onlyAck, false, func(m *impl.Msg) { m.Prev = impl.MaxLog + 1 }},

	{"no items", onlyAdd, true, itemsAre(3, 2, 9)},
	{"most items", onlyAdd, true, itemsAre(3, 2, 9, frees(2, 2, 3, 9)...)},
	{"an item too many", onlyAdd, false, itemsAre(3, 2, 9, frees(2, 2, 3, 9, 9)...)},
	{"an item too many from the beginning", onlyAdd, false, itemsAre(0, 0, 9, frees(1, 1, 1, 1, 1)...)},
	{"just as many items as there is room for", onlyAdd, true, itemsAre(impl.MaxLog-2, 2, 9, frees(2, 2)...)},
	{"an item more than there is room for", onlyAdd, false, itemsAre(impl.MaxLog-2, 2, 9, frees(2, 2, 2)...)},
	{"most items where there is just room", onlyAdd, true, itemsAre(impl.MaxLog-4, 2, 9, frees(2, 2, 2, 2)...)},
	{"most items without room for one", onlyAdd, false, itemsAre(impl.MaxLog-3, 2, 9, frees(2, 2, 2, 2)...)},
	{"an item for the last place", onlyAdd, true, itemsAre(impl.MaxLog-1, 2, 9, frees(2)...)},
	{"an item behind the last place", onlyAdd, false, itemsAre(impl.MaxLog, 2, 9, frees(2)...)},
	{"terms that go down", onlyAdd, false, itemsAre(3, 2, 9, frees(4, 3)...)},
	{"terms that go down at the end", onlyAdd, false, itemsAre(3, 2, 9, frees(4, 5, 6, 5)...)},
	{"terms that go down from the beginning", onlyAdd, false, itemsAre(0, 0, 9, frees(2, 1)...)},
	{"terms alike", onlyAdd, true, itemsAre(3, 4, 4, frees(4, 4, 4, 4)...)},
	{"a term below prevterm", onlyAdd, false, itemsAre(3, 2, 9, frees(1)...)},
	{"a term below prevterm ahead of others", onlyAdd, false, itemsAre(3, 2, 9, frees(1, 2, 9)...)},
	{"terms at prevterm and term", onlyAdd, true, itemsAre(3, 2, 9, frees(2, 9)...)},
	{"a term above term", onlyAdd, false, itemsAre(3, 2, 9, frees(10)...)},
	{"a last term above term", onlyAdd, false, itemsAre(3, 2, 9, frees(2, 2, 9, 10)...)},
	{"an item's term 0", onlyAdd, false, itemsAre(0, 0, 9, frees(0)...)},
	{"an item's term 1", onlyAdd, true, itemsAre(0, 0, 9, frees(1)...)},
	{"an item's term below 0", onlyAdd, false, itemsAre(0, 0, 9, frees(-1)...)},
	{"an item that is not ItemOk", onlyAdd, false, itemsAre(0, 0, 9, asked(1, 4, 1, impl.Op{}))},
	{"a last item that is not ItemOk", onlyAdd, false, itemsAre(0, 0, 9, free(1), free(1), asked(1, 0, 0, impl.Op{}))},
	{"an item with a long key", onlyAdd, true, itemsAre(0, 0, 9, asked(1, 0, 1, op(impl.OpDel, longKey, "", 0)))},
	{"an item with a key too long", onlyAdd, false, itemsAre(0, 0, 9, asked(1, 0, 1, op(impl.OpDel, tooLongKey, "", 0)))},
	{"an item with a value too long", onlyAdd, false, itemsAre(0, 0, 9, asked(1, 0, 1, op(impl.OpSet, "a", tooLongKey, 0)))},

	{"commit below 0", onlyAdd, false, func(m *impl.Msg) { m.Commit = -1 }},
	{"commit 0", onlyAdd, true, func(m *impl.Msg) { m.Commit = 0 }},
	{"commit at its most", onlyAdd, true, func(m *impl.Msg) { m.Commit = impl.MaxLog }},
	{"commit above", onlyAdd, false, func(m *impl.Msg) { m.Commit = impl.MaxLog + 1 }},

	{"yes", withYes, true, func(m *impl.Msg) { m.Yes = true }},
	{"no", withYes, true, func(m *impl.Msg) { m.Yes = false }},
	{"yes of what has none", withPrev, false, func(m *impl.Msg) { m.Yes = true }},
	{"prev of what has none", onlyVote, false, func(m *impl.Msg) { m.Prev = 1 }},
	{"prev below 0 of what has none", onlyVote, false, func(m *impl.Msg) { m.Prev = -1 }},
	{"prevterm of what has none", withYes, false, func(m *impl.Msg) { m.PrevTerm = 1 }},
	{"prevterm below 0 of what has none", withYes, false, func(m *impl.Msg) { m.PrevTerm = -1 }},
	{"prev and prevterm of what has none", onlyVote, false, func(m *impl.Msg) { m.Prev, m.PrevTerm = 1, 1 }},
	{"items of what has none", allButAdd, false, func(m *impl.Msg) { m.Items = frees(m.Term) }},
	{"empty items of what has none", allButAdd, true, func(m *impl.Msg) { m.Items = []impl.Item{} }},
	{"commit of what has none", allButAdd, false, func(m *impl.Msg) { m.Commit = 1 }},
	{"commit below 0 of what has none", allButAdd, false, func(m *impl.Msg) { m.Commit = -1 }},
}

// sweepMsgs calls f with messages whose fields are at their edges in all combinations: first the head, then the rest.
func sweepMsgs(f func(m impl.Msg)) {
	for kind := -1; kind <= 4; kind++ {
		for from := -1; from <= 5; from++ {
			for to := -1; to <= 5; to++ {
				for _, term := range []int{-1, 0, 1, 2, impl.MaxTerm, impl.MaxTerm + 1} {
					f(impl.Msg{Kind: kind, From: from, To: to, Term: term})
				}
			}
		}
	}
	lists := [][]impl.Item{
		nil, frees(1), frees(2), frees(3), frees(1, 2), frees(2, 1), frees(2, 3), frees(2, 2, 2), frees(1, 2, 2, 3), frees(2, 2, 2, 2),
		frees(2, 2, 2, 2, 2), frees(0), frees(2, 2, 1), {asked(2, 0, 1, op(impl.OpSet, "a", "b", 0))}, {asked(2, 0, 1, op(impl.OpSet, "A", "b", 0))},
	}
	for kind := -1; kind <= 4; kind++ {
		for _, term := range []int{1, 2, 3} {
			for _, prev := range []int{-1, 0, 1, 396, 397, 398, 399, 400, 401} {
				for _, prevTerm := range []int{-1, 0, 1, 2, 3, 4} {
					for _, items := range lists {
						for _, commit := range []int{-1, 0, 1, 400, 401} {
							for _, yes := range []bool{false, true} {
								f(impl.Msg{Kind: kind, From: 1, Term: term, Prev: prev, PrevTerm: prevTerm, Items: items, Commit: commit, Yes: yes})
							}
						}
					}
				}
			}
		}
	}
}

// mustSay holds MsgOk, MsgBytes and MsgRead against the model at one message.
func mustSay(t *testing.T, m impl.Msg) bool {
	t.Helper()
	ok := modelMsg(m)
	if impl.MsgOk(m) != ok {
		t.Fatalf("MsgOk(%v) is not %v", m, ok)
	}
	b, made := impl.MsgBytes(m)
	if made != ok || !ok && len(b) != 0 {
		t.Fatalf("MsgBytes(%v) = %q, %v", m, b, made)
	}
	if !ok {
		return false
	}
	if want := modelMsgBytes(m); string(b) != string(want) {
		t.Fatalf("MsgBytes(%v) = %q, not %q", m, b, want)
	}
	if back, is := impl.MsgRead(b); !is || !same(back, m) {
		t.Fatalf("MsgRead(%q) = %v, %v, not %v", b, back, is, m)
	}
	return true
}

func TestMessagesComeBack(t *testing.T) {
	good, bad := 0, 0
	count := func(m impl.Msg) {
		if mustSay(t, m) {
			good++
		} else {
			bad++
		}
	}
	sweepMsgs(count)
	for _, e := range msgEdges() {
		count(e.m)
	}
	w := newWalk(2)
	for range 3000 {
		c := w.command()
		w.s, _ = impl.Apply(w.s, c)
		count(impl.Msg{Kind: impl.MsAdd, To: 2, Term: 70000, Prev: w.s.Index % 401, PrevTerm: min(1, w.s.Index%401), Items: []impl.Item{{Term: w.s.Index, Cmd: c}}})
	}
	if good < 3000 || bad < 3000 {
		t.Errorf("the sweep is worth little: %d messages that may be, %d that may not", good, bad)
	}
}

func TestBytesOfMessages(t *testing.T) {
	cases := []struct {
		m    impl.Msg
		want string
	}{
		{impl.Msg{Kind: impl.MsAsk, To: 1, Term: 1}, "\x00\x00\x01\x01\x00\x00"},
		{impl.Msg{Kind: impl.MsAsk, From: 3, To: 2, Term: 300, Prev: 128, PrevTerm: 127}, "\x00\x03\x02\xac\x02\x80\x01\x7f"},
		{impl.Msg{Kind: impl.MsVote, From: 4, Term: 5}, "\x01\x04\x00\x05\x00"},
		{impl.Msg{Kind: impl.MsVote, From: 4, Term: 5, Yes: true}, "\x01\x04\x00\x05\x01"},
		{impl.Msg{Kind: impl.MsAdd, From: 1, Term: 5, Prev: 4, PrevTerm: 3, Commit: 2}, "\x02\x01\x00\x05\x04\x03\x02\x00"},
		{impl.Msg{Kind: impl.MsAdd, From: 1, Term: 5, Prev: 4, PrevTerm: 3, Commit: 2, Items: []impl.Item{
			asked(4, 3, 6, op(impl.OpTake, "ab", "\x00v", 7)), free(5)}},
			"\x02\x01\x00\x05\x04\x03\x02\x02" + "\x04\x04\x06\x06\x02ab\x02\x00v\x07" + "\x05\x00\x00\x00\x00\x00\x00"},
		{impl.Msg{Kind: impl.MsAck, From: 1, To: 2, Term: 5, Prev: 4}, "\x03\x01\x02\x05\x04\x00"},
		{impl.Msg{Kind: impl.MsAck, From: 1, To: 2, Term: 5, Prev: 400, Yes: true}, "\x03\x01\x02\x05\x90\x03\x01"},
	}
	for _, c := range cases {
		if b, ok := impl.MsgBytes(c.m); !ok || string(b) != c.want {
			t.Errorf("MsgBytes(%v) = %q, %v", c.m, b, ok)
		}
		if m, ok := impl.MsgRead([]byte(c.want)); !ok || !same(m, c.m) {
			t.Errorf("MsgRead(%q) = %v, %v", c.want, m, ok)
		}
	}
}

func mustNotRead(t *testing.T, why, b string) {
	t.Helper()
	if m, ok := impl.MsgRead([]byte(b)); ok || !same(m, impl.Msg{}) {
		t.Errorf("%s: MsgRead(%q) = %v, %v", why, b, m, ok)
	}
}

func TestMsgReadRefuses(t *testing.T) {
	const add, item = "\x02\x01\x00\x05\x04\x03\x02", "\x05\x00\x00\x00\x00\x00\x00"
	set := func(key, val string) string {
		return add + "\x01\x05\x01\x01\x01" + string(rune(len(key))) + key + string(rune(len(val))) + val + "\x00"
	}
	if _, ok := impl.MsgRead([]byte(set(longKey, longKey))); !ok {
		t.Errorf("texts of MaxText bytes are not read")
	}
	if _, ok := impl.MsgRead([]byte(add + "\x04" + strings.Repeat(item, 4))); !ok {
		t.Errorf("MaxItems items are not read")
	}
	cases := []struct{ why, b string }{
		{"none", ""},
		{"a kind alone", "\x01"},
		{"a kind below none", "\xff\xff\xff\xff\x0f\x01\x00\x05"},
		{"a kind too great", "\x04\x01\x00\x05"},
		{"a kind too great with a Yes", "\x04\x01\x00\x05\x01"},
		{"a kind far too great", "\xff\xff\xff\xff\x07\x01\x00\x05\x01"},
		{"a from too great", "\x01\x05\x00\x05\x01"},
		{"a to too great", "\x01\x01\x05\x05\x01"},
		{"from and to alike", "\x01\x01\x01\x05\x01"},
		{"a term of 0", "\x01\x01\x00\x00\x01"},
		{"a term too great", "\x01\x01\x00\xa1\x8d\x06\x01"},
		{"a kind written longer than it is", "\x81\x00\x01\x00\x05\x01"},
		{"a from written longer than it is", "\x01\x81\x00\x00\x05\x01"},
		{"a term written longer than it is", "\x01\x01\x00\x85\x00\x01"},
		{"a Yes written longer than it is", "\x01\x01\x00\x05\x81\x00"},
		{"a no written longer than it is", "\x01\x01\x00\x05\x80\x00"},
		{"a vote's Yes of 2", "\x01\x01\x00\x05\x02"},
		{"a vote's Yes of 255", "\x01\x01\x00\x05\xff\x01"},
		{"a vote's Yes of MaxNum", "\x01\x01\x00\x05\xff\xff\xff\xff\x07"},
		{"an ack's Yes of 2", "\x03\x01\x00\x05\x04\x02"},
		{"an ack's Yes of 128", "\x03\x01\x00\x05\x04\x80\x01"},
		{"a vote without Yes", "\x01\x01\x00\x05"},
		{"an ack without Yes", "\x03\x01\x00\x05\x04"},
		{"an ack's prev too great", "\x03\x01\x00\x05\x91\x03\x01"},
		{"an ask's prev too great", "\x00\x01\x00\x05\x91\x03\x01"},
		{"an ask without prevterm behind the beginning", "\x00\x01\x00\x05\x01\x00"},
		{"an ask with prevterm at the beginning", "\x00\x01\x00\x05\x00\x01"},
		{"an ask with prevterm above term", "\x00\x01\x00\x05\x01\x06"},
		{"an add's commit too great", "\x02\x01\x00\x05\x04\x03\x91\x03\x00"},
		{"an add without how many", add},
		{"no items and one there", add + "\x00" + item},
		{"one item and none there", add + "\x01"},
		{"one item and two there", add + "\x01" + item + item},
		{"two items and one there", add + "\x02" + item},
		{"four items and three there", add + "\x04" + item + item + item},
		{"five items", add + "\x05" + strings.Repeat(item, 5)},
		{"five items and four there", add + "\x05" + strings.Repeat(item, 4)},
		{"a hundred items", add + "\x64" + strings.Repeat(item, 100)},
		{"MaxNum items", add + "\xff\xff\xff\xff\x07" + item},
		{"how many written longer than it is", add + "\x81\x00" + item},
		{"an item with a term above", add + "\x01\x06\x00\x00\x00\x00\x00\x00"},
		{"an item with a term below", add + "\x01\x02\x00\x00\x00\x00\x00\x00"},
		{"an item of a client too many", add + "\x01\x05\x05\x01\x00\x00\x00\x00"},
		{"an item of nobody's with a Req", add + "\x01\x05\x00\x01\x00\x00\x00\x00"},
		{"an item without Req", add + "\x01\x05\x01\x00\x00\x00\x00\x00"},
		{"an item of no kind", add + "\x01\x05\x01\x01\x08\x00\x00\x00"},
		{"an item whose number is cut off", add + "\x01\x05\x01\x01\x00\x00\x00"},
		{"an item whose number is not whole", add + "\x01\x05\x01\x01\x00\x00\x00\x80"},
		{"a key of one byte more", set(tooLongKey, "")},
		{"a value of one byte more", set("a", tooLongKey)},
		{"an empty key", set("", "v")},
		{"a key that is none", set("A", "v")},
		{"a key's length written longer than it is", add + "\x01\x05\x01\x01\x01\x81\x00a\x00\x00"},
		{"a value's length written longer than it is", add + "\x01\x05\x01\x01\x01\x01a\x80\x00\x00"},
		{"a value that is not all there", add + "\x01\x05\x01\x01\x01\x01a\x05ab"},
	}
	for _, c := range cases {
		mustNotRead(t, c.why, c.b)
		if _, ok := modelMsgRead([]byte(c.b)); ok {
			t.Errorf("%s: the model reads %q", c.why, c.b)
		}
	}
	if m, ok := impl.MsgRead(nil); ok || !same(m, impl.Msg{}) {
		t.Errorf("MsgRead(nil) = %v, %v", m, ok)
	}
}

// mustReadLikeModel tells whether b is a message's bytes.
func mustReadLikeModel(t *testing.T, b []byte) bool {
	t.Helper()
	m, ok := impl.MsgRead(b)
	want, is := modelMsgRead(b)
	if ok != is || !same(m, want) {
		t.Fatalf("MsgRead(%q) = %v, %v, not %v, %v", b, m, ok, want, is)
	}
	if !ok {
		return false
	}
	if again, made := impl.MsgBytes(m); !made || string(again) != string(b) {
		t.Fatalf("MsgRead(%q) = %v, whose bytes are %q", b, m, again)
	}
	return true
}

func TestBytesReadAsAMessageAreJustItsBytes(t *testing.T) {
	t.Parallel()
	read := 0
	look := func(b []byte) {
		if mustReadLikeModel(t, b) {
			read++
		}
	}
	for _, m := range goodMsgs() {
		b, _ := impl.MsgBytes(m)
		for size := range len(b) {
			mustNotRead(t, "cut off", string(b[:size]))
		}
		for c := range 256 {
			mustNotRead(t, "one byte too many", string(b)+string([]byte{byte(c)}))
		}
		for at := range b {
			look(slices.Delete(slices.Clone(b), at, at+1))
			for c := range 256 {
				turned := slices.Clone(b)
				turned[at] = byte(c)
				look(turned)
				look(slices.Insert(slices.Clone(b), at, byte(c)))
			}
		}
	}
	for _, kind := range []byte{0, 1, 2, 3, 4, 128} {
		eachOver([]byte{0, 1, 2, 5, 128}, 6, func(b []byte) {
			look(append([]byte{kind}, b...))
		})
	}
	for _, head := range []string{"\x02\x01\x00\x02\x01\x01\x00", "\x02\x00\x04\x02\x00\x00\x01"} {
		eachOver([]byte{0, 1, 97}, 9, func(b []byte) {
			look(append([]byte(head), b...))
		})
	}
	if read < 1000 {
		t.Errorf("of all bytes only %d were a message's", read)
	}
}

// What lies behind the length is not read: the bytes there would make a message whole.
func TestMsgReadReadsNothingBehindTheLength(t *testing.T) {
	for _, m := range goodMsgs() {
		b, _ := impl.MsgBytes(m)
		for size := range len(b) {
			if got, ok := impl.MsgRead(b[:size]); ok {
				t.Fatalf("MsgRead of the first %d bytes of %q = %v", size, b, got)
			}
		}
	}
}

func TestMsgOkReadsNothingBehindTheLength(t *testing.T) {
	m := impl.Msg{Kind: impl.MsAdd, To: 1, Term: 5, Items: frees(1, 2, 3, 4, 99)[:4]}
	if !impl.MsgOk(m) {
		t.Errorf("MsgOk(%v) is false", m)
	}
	vote := impl.Msg{Kind: impl.MsVote, To: 1, Term: 5, Items: frees(1)[:0]}
	if !impl.MsgOk(vote) {
		t.Errorf("MsgOk(%v) is false", vote)
	}
}

func TestMemoryOfMessages(t *testing.T) {
	for _, e := range msgEdges() {
		m := withRoom(e.m)
		mustKeep(t, fmt.Sprintf("MsgBytes of %v", m), []any{m}, func() []any {
			impl.MsgOk(m)
			for _, x := range m.Items {
				impl.ItemOk(x)
			}
			b, _ := impl.MsgBytes(m)
			return []any{b}
		})
		b := withRoom(modelMsgBytes(e.m))
		mustKeep(t, fmt.Sprintf("MsgRead of %q", b), []any{b}, func() []any {
			read, _ := impl.MsgRead(b)
			return []any{read}
		})
	}
}

// No function keeps anything: an earlier answer stays as it was when others are asked for and written over.
func TestNothingOfMessagesIsKept(t *testing.T) {
	m := goodMsgs()[7]
	b, _ := impl.MsgBytes(m)
	first, _ := impl.MsgRead(b)
	second, _ := impl.MsgRead(b)
	second.Items[1].Cmd.Op.Key[0] = 'x'
	second.Items[2].Term = 99
	for i := range b {
		b[i] = 255
	}
	again, _ := impl.MsgBytes(m)
	if !same(first, m) || string(again) != string(modelMsgBytes(m)) {
		t.Errorf("%v, %q", first, again)
	}
}
