package tests

import (
	"bytes"
	"fmt"
	"math"
	"math/rand"
	"slices"
	"strings"
	"testing"

	"loop.example/g00365/impl"
)

const (
	longKey    = "abcdefghij/lmnopqrst"
	tooLongKey = longKey + "u"
)

func numbered(i int) string {
	return fmt.Sprintf("k/%c", 'a'+i)
}

// filled answers a state whose lists are all at their most.
func filled() impl.State {
	s := impl.State{Index: 100, Lost: 5}
	for i := range impl.MaxKeys {
		s.Rows = append(s.Rows, impl.Row{Key: []byte(numbered(i)), Val: []byte{byte(i)}, Turned: i + 1})
	}
	for i := range impl.MaxTombs {
		s.Tombs = append(s.Tombs, impl.Tomb{Key: []byte("t/" + numbered(9-i)), Index: 5 + i/2})
	}
	for i := range impl.MaxSess {
		s.Sess = append(s.Sess, impl.Session{Id: 10 * (i + 1), Delete: i%2 == 0})
	}
	for i := range impl.MaxClients {
		s.Lasts = append(s.Lasts, impl.Last{Client: i, Req: 7, Reply: impl.Reply{Code: i, Index: i + 1}})
	}
	s.Rows[1].Holder = 10
	s.Rows[2].Holder = 80
	return s
}

// badStates answers states of which each is beside what StateOk wants in one thing.
func badStates() []impl.State {
	var all []impl.State
	for _, turn := range stateTurns {
		if !turn.ok {
			s := filled()
			turn.do(&s)
			all = append(all, s)
		}
	}
	return all
}

var stateTurns = []struct {
	what string
	ok   bool
	do   func(s *impl.State)
}{
	{"as it is", true, func(s *impl.State) {}},
	{"zero", true, func(s *impl.State) { *s = impl.State{} }},
	{"index at its most", true, func(s *impl.State) { s.Index = impl.MaxIndex }},
	{"index above", false, func(s *impl.State) { s.Index = impl.MaxIndex + 1 }},
	{"index alone at its most", true, func(s *impl.State) { *s = impl.State{Index: impl.MaxIndex, Lost: impl.MaxIndex} }},
	{"index alone above", false, func(s *impl.State) { *s = impl.State{Index: impl.MaxIndex + 1} }},
	{"index alone below 0", false, func(s *impl.State) { *s = impl.State{Index: -1, Lost: -1} }},
	{"index far above", false, func(s *impl.State) { s.Index = math.MaxInt }},
	{"lost 0", true, func(s *impl.State) { s.Lost = 0 }},
	{"lost below 0", false, func(s *impl.State) { s.Lost = -1 }},
	{"lost above the first tomb", false, func(s *impl.State) { s.Lost = 6 }},
	{"lost at index", true, func(s *impl.State) { s.Tombs, s.Lost = nil, 100 }},
	{"lost above index", false, func(s *impl.State) { s.Tombs, s.Lost = nil, 101 }},

	{"a row too many", false, func(s *impl.State) { s.Rows = append(s.Rows, impl.Row{Key: []byte("z"), Turned: 1}) }},
	{"rows alike", false, func(s *impl.State) { s.Rows[4].Key = s.Rows[3].Key }},
	{"rows that go down", false, func(s *impl.State) { s.Rows[4], s.Rows[3] = s.Rows[3], s.Rows[4] }},
	{"last rows that go down", false, func(s *impl.State) { s.Rows[19].Key = []byte("a") }},
	{"first row behind the next", false, func(s *impl.State) { s.Rows[0].Key = []byte("z") }},
	{"a row's key empty", false, func(s *impl.State) { s.Rows[0].Key = nil }},
	{"a row's key long", true, func(s *impl.State) { s.Rows[0].Key = []byte(longKey) }},
	{"a row's key too long", false, func(s *impl.State) { s.Rows[0].Key = []byte(tooLongKey) }},
	{"a row's key with a sign", false, func(s *impl.State) { s.Rows[0].Key = []byte("a.b") }},
	{"a row's value empty", true, func(s *impl.State) { s.Rows[3].Val = nil }},
	{"a row's value long", true, func(s *impl.State) { s.Rows[3].Val = make([]byte, 20) }},
	{"a row's value too long", false, func(s *impl.State) { s.Rows[3].Val = make([]byte, 21) }},
	{"a row turned at index", true, func(s *impl.State) { s.Rows[19].Turned = 100 }},
	{"a row turned above index", false, func(s *impl.State) { s.Rows[19].Turned = 101 }},
	{"a row turned at 0", false, func(s *impl.State) { s.Rows[0].Turned = 0 }},
	{"rows turned alike", true, func(s *impl.State) { s.Rows[4].Turned = s.Rows[3].Turned }},
	{"a holder that is no session", false, func(s *impl.State) { s.Rows[5].Holder = 11 }},
	{"a holder below 0", false, func(s *impl.State) { s.Rows[5].Holder = -1 }},
	{"a last holder that is no session", false, func(s *impl.State) { s.Rows[19].Holder = 90 }},
	{"holders without sessions", false, func(s *impl.State) { s.Sess = nil }},
	{"each holder", true, func(s *impl.State) {
		for i := range 8 {
			s.Rows[i].Holder = 10 * (i + 1)
		}
	}},

	{"a tomb too many", false, func(s *impl.State) { s.Tombs = append(s.Tombs, impl.Tomb{Key: []byte("z"), Index: 100}) }},
	{"a tomb of a row", false, func(s *impl.State) { s.Tombs[9].Key = []byte("k/t") }},
	{"a first tomb of a row", false, func(s *impl.State) { s.Tombs[0].Key = []byte("k/a") }},
	{"tombs alike", false, func(s *impl.State) { s.Tombs[9].Key = s.Tombs[0].Key }},
	{"neighbour tombs alike", false, func(s *impl.State) { s.Tombs[1].Key = s.Tombs[0].Key }},
	{"a tomb's key empty", false, func(s *impl.State) { s.Tombs[3].Key = nil }},
	{"a tomb's key long", true, func(s *impl.State) { s.Tombs[3].Key = []byte(longKey) }},
	{"a tomb's key too long", false, func(s *impl.State) { s.Tombs[3].Key = []byte(tooLongKey) }},
	{"a tomb's key with a sign", false, func(s *impl.State) { s.Tombs[3].Key = []byte("A") }},
	{"a tomb at index", true, func(s *impl.State) { s.Tombs[9].Index = 100 }},
	{"a tomb above index", false, func(s *impl.State) { s.Tombs[9].Index = 101 }},
	{"a tomb below lost", false, func(s *impl.State) { s.Tombs[0].Index = 4 }},
	{"a tomb at 1", true, func(s *impl.State) { s.Lost, s.Tombs[0].Index = 0, 1 }},
	{"a tomb at 0", false, func(s *impl.State) { s.Lost, s.Tombs[0].Index = 0, 0 }},
	{"a tomb below the one ahead", false, func(s *impl.State) { s.Tombs[9].Index = s.Tombs[8].Index - 1 }},
	{"a second tomb below the first", false, func(s *impl.State) { s.Lost, s.Tombs[1].Index = 0, 4 }},

	{"a session too many", false, func(s *impl.State) { s.Sess = append(s.Sess, impl.Session{Id: 90}) }},
	{"sessions alike", false, func(s *impl.State) { s.Sess[4].Id = 40 }},
	{"sessions that go down", false, func(s *impl.State) { s.Sess[4].Id = 39 }},
	{"sessions one apart", true, func(s *impl.State) { s.Sess[4].Id = 41 }},
	{"a session at 1", true, func(s *impl.State) { s.Sess[0].Id, s.Rows[1].Holder = 1, 1 }},
	{"a session at 0", false, func(s *impl.State) { s.Sess[0].Id, s.Rows[1].Holder = 0, 0 }},
	{"a session below 0", false, func(s *impl.State) { s.Sess[0].Id, s.Rows[1].Holder = -3, 0 }},
	{"a session at index", true, func(s *impl.State) { s.Sess[7].Id, s.Rows[2].Holder = 100, 100 }},
	{"a session above index", false, func(s *impl.State) { s.Sess[7].Id, s.Rows[2].Holder = 101, 101 }},

	{"a last too many", false, func(s *impl.State) {
		s.Lasts = append(s.Lasts, impl.Last{Client: 4, Req: 1, Reply: impl.Reply{Index: 1}})
	}},
	{"a last of a client too many", false, func(s *impl.State) { s.Lasts[3].Client = 4 }},
	{"a last of nobody", false, func(s *impl.State) { s.Lasts[0].Client = -1 }},
	{"lasts alike", false, func(s *impl.State) { s.Lasts[1].Client = 0 }},
	{"lasts that go down", false, func(s *impl.State) { s.Lasts[1], s.Lasts[2] = s.Lasts[2], s.Lasts[1] }},
	{"some lasts", true, func(s *impl.State) { s.Lasts = []impl.Last{s.Lasts[1], s.Lasts[3]} }},
	{"req at its least", true, func(s *impl.State) { s.Lasts[0].Req = 1 }},
	{"req at 0", false, func(s *impl.State) { s.Lasts[0].Req = 0 }},
	{"req at its most", true, func(s *impl.State) { s.Lasts[3].Req = impl.MaxIndex }},
	{"req above", false, func(s *impl.State) { s.Lasts[3].Req = impl.MaxIndex + 1 }},
	{"a code at its most", true, func(s *impl.State) { s.Lasts[0].Reply.Code = impl.RpOld }},
	{"a code above", false, func(s *impl.State) { s.Lasts[0].Reply.Code = impl.RpOld + 1 }},
	{"a code below", false, func(s *impl.State) { s.Lasts[0].Reply.Code = -1 }},
	{"a reply at 0", false, func(s *impl.State) { s.Lasts[2].Reply.Index = 0 }},
	{"a reply at index", true, func(s *impl.State) { s.Lasts[2].Reply.Index = 100 }},
	{"a reply above index", false, func(s *impl.State) { s.Lasts[2].Reply.Index = 101 }},
}

func TestStateOk(t *testing.T) {
	for _, turn := range stateTurns {
		s := filled()
		turn.do(&s)
		if impl.StateOk(s) != turn.ok {
			t.Errorf("StateOk, %s: not %v", turn.what, turn.ok)
		}
	}
}

func TestCodesOfTheCatalog(t *testing.T) {
	got := []int{
		impl.OpNone, impl.OpSet, impl.OpCas, impl.OpDel, impl.OpOpen, impl.OpShut, impl.OpTake, impl.OpFree,
		impl.RpWell, impl.RpNone, impl.RpHeld, impl.RpTurned, impl.RpFull, impl.RpOld,
		impl.MaxKeys, impl.MaxSess, impl.MaxTombs, impl.MaxClients, impl.MaxIndex,
	}
	want := []int{0, 1, 2, 3, 4, 5, 6, 7, 0, 1, 2, 3, 4, 5, 20, 8, 10, 4, 1000000}
	if !slices.Equal(got, want) {
		t.Fatalf("constants are %v, not %v", got, want)
	}
}

func TestKeyOk(t *testing.T) {
	for c := range 256 {
		want := c >= 'a' && c <= 'z' || c == '/'
		for _, key := range [][]byte{{byte(c)}, {byte(c), 'a'}, {'a', byte(c)}, {'z', byte(c), '/'}} {
			if impl.KeyOk(key) != want {
				t.Errorf("KeyOk(%q) is not %v", key, want)
			}
		}
	}
	for size := range 30 {
		if impl.KeyOk(bytes.Repeat([]byte("q"), size)) != (size >= 1 && size <= impl.MaxText) {
			t.Errorf("KeyOk of %d bytes", size)
		}
	}
}

func TestOpOkAndCmdOk(t *testing.T) {
	keys := []string{"", "a", "/", longKey, tooLongKey, "a b", "A", "a\x00", "ab{", "ab`", "ab.", "ab0", "\xff", strings.Repeat("x", 200)}
	vals := []string{"", "v", "\x00\xff", longKey, tooLongKey}
	numbers := []int{math.MinInt, -1, 0, 1, 2, 3, impl.MaxIndex - 1, impl.MaxIndex, impl.MaxIndex + 1, math.MaxInt}
	seats := []struct {
		client, req int
		ok          bool
	}{
		{0, 1, true}, {0, 0, false}, {0, -1, false}, {3, 1, true}, {4, 1, false}, {-2, 1, false}, {-2, 0, false},
		{1, impl.MaxIndex, true}, {1, impl.MaxIndex + 1, false}, {math.MaxInt, 1, false}, {0, math.MaxInt, false}, {0, math.MinInt, false},
	}
	for kind := -1; kind <= 9; kind++ {
		for _, key := range keys {
			for _, val := range vals {
				for _, n := range numbers {
					o := impl.Op{Kind: kind, Key: []byte(key), Val: []byte(val), N: n}
					want := modelOp(o)
					if impl.OpOk(o) != want {
						t.Fatalf("OpOk(%v) is not %v", o, want)
					}
					for _, seat := range seats {
						if c := (impl.Cmd{Client: seat.client, Req: seat.req, Op: o}); impl.CmdOk(c) != (want && seat.ok) {
							t.Fatalf("CmdOk(%v) is not %v", c, want && seat.ok)
						}
					}
					zero := kind == 0 && key == "" && val == "" && n == 0
					if impl.CmdOk(impl.Cmd{Client: -1, Op: o}) != zero {
						t.Fatalf("CmdOk of nobody with %v is not %v", o, zero)
					}
					if impl.CmdOk(impl.Cmd{Client: -1, Req: 1, Op: o}) {
						t.Fatalf("CmdOk of nobody with Req 1 and %v", o)
					}
				}
			}
		}
	}
	if impl.OpOk(impl.Op{Kind: math.MinInt}) || impl.OpOk(impl.Op{Kind: math.MaxInt}) {
		t.Fatal("OpOk of a Kind far beyond")
	}
}

func op(kind int, key, val string, n int) impl.Op {
	return impl.Op{Kind: kind, Key: []byte(key), Val: []byte(val), N: n}
}

// step applies an operation of client 0 with its next Req, and fails unless it is answered by code, as the model answers it.
func step(t *testing.T, s impl.State, o impl.Op, code int) impl.State {
	t.Helper()
	last, _ := impl.LastOf(s, 0)
	c := impl.Cmd{Req: last.Req + 1, Op: o}
	next, reply := impl.Apply(s, c)
	if reply != (impl.Reply{Code: code, Index: s.Index + 1}) {
		t.Fatalf("Apply of %v at %d answered %v, not %d", o, s.Index, reply, code)
	}
	if want, _ := modelApply(s, c); !same(next, want) {
		t.Fatalf("Apply of %v left\n%v\nnot\n%v", o, next, want)
	}
	if code != impl.RpWell && !same([]any{next.Rows, next.Tombs, next.Sess, next.Lost}, []any{s.Rows, s.Tombs, s.Sess, s.Lost}) {
		t.Fatalf("Apply of %v was refused by %d and turned something", o, code)
	}
	return next
}

func texts(list [][]byte) string {
	return string(bytes.Join(list, []byte(" ")))
}

func rowTexts(s impl.State) string {
	var all []string
	for _, r := range s.Rows {
		all = append(all, fmt.Sprintf("%s=%s@%d:%d", r.Key, r.Val, r.Turned, r.Holder))
	}
	return strings.Join(all, " ")
}

func tombTexts(s impl.State) string {
	var all []string
	for _, x := range s.Tombs {
		all = append(all, fmt.Sprintf("%s@%d", x.Key, x.Index))
	}
	return strings.Join(all, " ")
}

func mustBe(t *testing.T, what, got, want string) {
	t.Helper()
	if got != want {
		t.Fatalf("%s: %q, not %q", what, got, want)
	}
}

func TestApplyRefusesWhatMayNotBe(t *testing.T) {
	well := impl.Cmd{Req: 9, Op: op(impl.OpNone, "", "", 0)}
	for _, s := range badStates() {
		if next, reply := impl.Apply(s, well); !same(next, impl.State{}) || reply != (impl.Reply{}) {
			t.Fatalf("Apply to a state that is not StateOk: %v %v", next, reply)
		}
	}
	for _, c := range []impl.Cmd{
		{}, {Client: -1, Req: 1}, {Client: 4, Req: 1}, {Client: -2}, {Req: impl.MaxIndex + 1},
		{Req: 9, Op: op(impl.OpSet, "", "v", 0)}, {Req: 9, Op: op(impl.OpShut, "", "", 0)}, {Req: 9, Op: op(8, "", "", 0)},
	} {
		if next, reply := impl.Apply(filled(), c); !same(next, impl.State{}) || reply != (impl.Reply{}) {
			t.Fatalf("Apply of %v, which is not CmdOk: %v %v", c, next, reply)
		}
	}
	s := filled()
	s.Index = impl.MaxIndex - 1
	for _, c := range []impl.Cmd{well, {Client: -1}, {Req: 7}, {Req: 6}} {
		next, reply := impl.Apply(s, c)
		if want, answer := modelApply(s, c); !same(next, want) || reply != answer || next.Index != impl.MaxIndex {
			t.Fatalf("Apply of %v one below MaxIndex: %v", c, reply)
		}
		if last, reply := impl.Apply(next, c); !same(last, impl.State{}) || reply != (impl.Reply{}) {
			t.Fatalf("Apply of %v at MaxIndex: %v %v", c, last, reply)
		}
	}
}

func TestApplyOfNobodyAndAgain(t *testing.T) {
	s := filled()
	next, reply := impl.Apply(s, impl.Cmd{Client: -1})
	want := filled()
	want.Index = 101
	if !same(next, want) || reply != (impl.Reply{Code: impl.RpWell, Index: 101}) {
		t.Fatalf("nobody: %v", reply)
	}
	for client := range impl.MaxClients {
		// The same Req is answered as before, whatever it now says.
		for _, o := range []impl.Op{{}, op(impl.OpSet, "k/a", "new", 0), op(impl.OpShut, "", "", 10)} {
			next, reply = impl.Apply(s, impl.Cmd{Client: client, Req: 7, Op: o})
			if !same(next, want) || reply != s.Lasts[client].Reply {
				t.Fatalf("client %d again with %v: %v", client, o, reply)
			}
			for req := 1; req < 7; req++ {
				next, reply = impl.Apply(s, impl.Cmd{Client: client, Req: req, Op: o})
				if !same(next, want) || reply != (impl.Reply{Code: impl.RpOld, Index: 101}) {
					t.Fatalf("client %d with the older Req %d and %v: %v", client, req, o, reply)
				}
			}
		}
		next, reply = impl.Apply(s, impl.Cmd{Client: client, Req: 9, Op: op(impl.OpSet, "k/a", "new", 0)})
		if last, is := impl.LastOf(next, client); !is || last != (impl.Last{Client: client, Req: 9, Reply: reply}) || reply.Index != 101 {
			t.Fatalf("client %d with a Req that leaves one out: %v %v", client, last, reply)
		}
	}
}

func TestLastsAscendInWhateverOrderClientsCome(t *testing.T) {
	for _, order := range [][]int{{0, 1, 2, 3}, {3, 2, 1, 0}, {2, 0, 3, 1}, {1, 3, 0, 2}} {
		var s impl.State
		for i, client := range order {
			s, _ = impl.Apply(s, impl.Cmd{Client: client, Req: 5, Op: impl.Op{Kind: impl.OpOpen}})
			for j, known := range order {
				last, is := impl.LastOf(s, known)
				want := impl.Last{Client: known, Req: 5, Reply: impl.Reply{Index: j + 1}}
				if is != (j <= i) || is && last != want || !is && last != (impl.Last{}) {
					t.Fatalf("LastOf %d: %v %v", known, last, is)
				}
			}
		}
	}
}

func TestAnsweredAsBeforeBehindOthers(t *testing.T) {
	walk := newWalk(3)
	for range 400 {
		c := walk.command()
		for c.Client != 0 {
			c = walk.command()
		}
		last, _ := impl.LastOf(walk.s, 0)
		c.Req = last.Req + 1 + walk.pick.Intn(3)
		s, reply := impl.Apply(walk.s, c)
		for range walk.pick.Intn(8) {
			other := walk.command()
			if other.Client == 0 {
				continue
			}
			s, _ = impl.Apply(s, other)
		}
		again, answer := impl.Apply(s, c)
		if answer != reply {
			t.Fatalf("%v was answered %v, then %v", c, reply, answer)
		}
		s.Index++
		if !same(again, s) {
			t.Fatalf("%v applied again turned something", c)
		}
		walk.s = again
	}
}

func TestSetCasDel(t *testing.T) {
	var s impl.State
	s = step(t, s, op(impl.OpNone, "", "", 0), impl.RpWell)
	s = step(t, s, op(impl.OpDel, "b", "", 0), impl.RpNone)
	s = step(t, s, op(impl.OpCas, "b", "x", 2), impl.RpTurned)
	s = step(t, s, op(impl.OpCas, "b", "x", 0), impl.RpWell)
	s = step(t, s, op(impl.OpCas, "b", "y", 0), impl.RpTurned)
	s = step(t, s, op(impl.OpCas, "b", "y", 4), impl.RpWell)
	s = step(t, s, op(impl.OpSet, "c", "", 0), impl.RpWell)
	s = step(t, s, op(impl.OpSet, "a", "z", 0), impl.RpWell)
	s = step(t, s, op(impl.OpSet, "b/", "w", 0), impl.RpWell)
	mustBe(t, "rows", rowTexts(s), "a=z@8:0 b=y@6:0 b/=w@9:0 c=@7:0")
	s = step(t, s, op(impl.OpDel, "b", "", 0), impl.RpWell)
	mustBe(t, "rows", rowTexts(s), "a=z@8:0 b/=w@9:0 c=@7:0")
	mustBe(t, "tombs", tombTexts(s), "b@10")
	s = step(t, s, op(impl.OpDel, "b", "", 0), impl.RpNone)
	// A tomb's Index is no row's Turned.
	s = step(t, s, op(impl.OpCas, "b", "v", 10), impl.RpTurned)
	s = step(t, s, op(impl.OpDel, "a", "", 0), impl.RpWell)
	mustBe(t, "tombs", tombTexts(s), "b@10 a@13")
	s = step(t, s, op(impl.OpCas, "b", "v", 0), impl.RpWell)
	mustBe(t, "tombs", tombTexts(s), "a@13")
	s = step(t, s, op(impl.OpSet, "a", "", 0), impl.RpWell)
	mustBe(t, "tombs", tombTexts(s), "")
	mustBe(t, "rows", rowTexts(s), "a=@15:0 b=v@14:0 b/=w@9:0 c=@7:0")
}

func TestFullOfKeys(t *testing.T) {
	s := filled()
	fresh, buried := "zz", string(s.Tombs[4].Key)
	for _, key := range []string{fresh, buried} {
		step(t, s, op(impl.OpSet, key, "", 0), impl.RpFull)
		step(t, s, op(impl.OpCas, key, "", 0), impl.RpFull)
		step(t, s, op(impl.OpCas, key, "", 1), impl.RpTurned)
		step(t, s, op(impl.OpTake, key, "", 10), impl.RpFull)
		step(t, s, op(impl.OpTake, key, "", 11), impl.RpNone)
	}
	step(t, s, op(impl.OpSet, "k/t", "new", 0), impl.RpWell)
	step(t, s, op(impl.OpCas, "k/t", "new", 20), impl.RpWell)
	step(t, s, op(impl.OpTake, "k/t", "new", 10), impl.RpWell)
	s.Rows = s.Rows[1:]
	s = step(t, s, op(impl.OpTake, buried, "v", 40), impl.RpWell)
	if len(s.Rows) != impl.MaxKeys || len(s.Tombs) != impl.MaxTombs-1 {
		t.Fatalf("%d rows, %d tombs", len(s.Rows), len(s.Tombs))
	}
	mustBe(t, "its keys", texts(impl.Held(s, 40)), buried)
}

func TestSessions(t *testing.T) {
	var s impl.State
	s = step(t, s, op(impl.OpShut, "", "", 1), impl.RpNone)
	for i := range impl.MaxSess {
		s = step(t, s, op(impl.OpOpen, "", "", i%2), impl.RpWell)
		if s.Sess[i] != (impl.Session{Id: i + 2, Delete: i%2 == 1}) {
			t.Fatalf("session %v", s.Sess[i])
		}
	}
	s = step(t, s, op(impl.OpOpen, "", "", 0), impl.RpFull)
	s = step(t, s, op(impl.OpShut, "", "", 10), impl.RpNone)
	s = step(t, s, op(impl.OpShut, "", "", 5), impl.RpWell)
	s = step(t, s, op(impl.OpShut, "", "", 5), impl.RpNone)
	s = step(t, s, op(impl.OpOpen, "", "", 1), impl.RpWell)
	if len(s.Sess) != impl.MaxSess || s.Sess[7] != (impl.Session{Id: 14, Delete: true}) {
		t.Fatalf("sessions %v", s.Sess)
	}
}

func TestTakeAndFree(t *testing.T) {
	var s impl.State
	s = step(t, s, op(impl.OpOpen, "", "", 0), impl.RpWell)
	s = step(t, s, op(impl.OpOpen, "", "", 0), impl.RpWell)
	s = step(t, s, op(impl.OpTake, "a", "x", 3), impl.RpNone)
	s = step(t, s, op(impl.OpFree, "a", "", 1), impl.RpNone)
	s = step(t, s, op(impl.OpTake, "a", "x", 1), impl.RpWell)
	mustBe(t, "rows", rowTexts(s), "a=x@5:1")
	s = step(t, s, op(impl.OpTake, "a", "y", 2), impl.RpHeld)
	s = step(t, s, op(impl.OpTake, "a", "y", 3), impl.RpNone)
	s = step(t, s, op(impl.OpTake, "a", "y", 1), impl.RpWell)
	mustBe(t, "rows", rowTexts(s), "a=y@8:1")
	// To set and to compare leave the holder as it was.
	s = step(t, s, op(impl.OpSet, "a", "z", 0), impl.RpWell)
	s = step(t, s, op(impl.OpCas, "a", "w", 9), impl.RpWell)
	mustBe(t, "rows", rowTexts(s), "a=w@10:1")
	s = step(t, s, op(impl.OpFree, "a", "", 2), impl.RpNone)
	s = step(t, s, op(impl.OpFree, "b", "", 1), impl.RpNone)
	s = step(t, s, op(impl.OpFree, "a", "", 1), impl.RpWell)
	mustBe(t, "rows", rowTexts(s), "a=w@13:0")
	s = step(t, s, op(impl.OpFree, "a", "", 1), impl.RpNone)
	s = step(t, s, op(impl.OpTake, "a", "", 2), impl.RpWell)
	s = step(t, s, op(impl.OpDel, "a", "", 0), impl.RpWell)
	s = step(t, s, op(impl.OpSet, "a", "", 0), impl.RpWell)
	// A key that was buried comes back held by nobody.
	mustBe(t, "rows", rowTexts(s), "a=@17:0")
}

func TestTombsAreForgotten(t *testing.T) {
	s := filled()
	s = step(t, s, op(impl.OpDel, "k/c", "", 0), impl.RpWell)
	if s.Lost != 5 || len(s.Tombs) != impl.MaxTombs || string(s.Tombs[9].Key) != "k/c" || s.Tombs[9].Index != 101 {
		t.Fatalf("Lost %d, tombs %s", s.Lost, tombTexts(s))
	}
	s = step(t, s, op(impl.OpDel, "k/d", "", 0), impl.RpWell)
	s = step(t, s, op(impl.OpDel, "k/e", "", 0), impl.RpWell)
	if s.Lost != 6 || len(s.Tombs) != impl.MaxTombs || s.Tombs[0].Index != 6 {
		t.Fatalf("Lost %d, tombs %s", s.Lost, tombTexts(s))
	}
	s.Tombs = s.Tombs[1:]
	s = step(t, s, op(impl.OpDel, "k/f", "", 0), impl.RpWell)
	if s.Lost != 6 || len(s.Tombs) != impl.MaxTombs {
		t.Fatalf("nothing was to be forgotten: Lost %d, tombs %s", s.Lost, tombTexts(s))
	}
}

func TestShutting(t *testing.T) {
	s := filled()
	for i := range s.Rows {
		s.Rows[i].Holder = []int{10, 0, 20, 10}[i%4]
	}
	deleted := step(t, s, op(impl.OpShut, "", "", 10), impl.RpWell)
	mustBe(t, "tombs", tombTexts(deleted), "k/a@101 k/d@101 k/e@101 k/h@101 k/i@101 k/l@101 k/m@101 k/p@101 k/q@101 k/t@101")
	if deleted.Lost != 9 || len(deleted.Rows) != 10 || len(deleted.Sess) != 7 {
		t.Fatalf("Lost %d, %d rows", deleted.Lost, len(deleted.Rows))
	}
	freed := step(t, s, op(impl.OpShut, "", "", 20), impl.RpWell)
	mustBe(t, "turned", fmt.Sprint(impl.Turned(freed, 100)), fmt.Sprint([][]byte{[]byte("k/c"), []byte("k/g"), []byte("k/k"), []byte("k/o"), []byte("k/s")}, true))
	if freed.Lost != 5 || len(freed.Rows) != 20 || len(freed.Tombs) != 10 {
		t.Fatalf("Lost %d, %d rows, %d tombs", freed.Lost, len(freed.Rows), len(freed.Tombs))
	}
	// More rows than there is room for tombs: those that went first are forgotten, too.
	for i := range s.Rows {
		s.Rows[i].Holder = 30
	}
	all := step(t, s, op(impl.OpShut, "", "", 30), impl.RpWell)
	mustBe(t, "tombs", tombTexts(all), "k/k@101 k/l@101 k/m@101 k/n@101 k/o@101 k/p@101 k/q@101 k/r@101 k/s@101 k/t@101")
	if all.Lost != 101 || len(all.Rows) != 0 {
		t.Fatalf("Lost %d, %d rows", all.Lost, len(all.Rows))
	}
	empty := step(t, filled(), op(impl.OpShut, "", "", 40), impl.RpWell)
	if !same(empty.Rows, filled().Rows) || !same(empty.Tombs, filled().Tombs) {
		t.Fatal("shutting a session without rows turned one")
	}
}

func TestReadsAtWhatIsNotOk(t *testing.T) {
	for _, s := range badStates() {
		if v := impl.Look(s, []byte("k/c")); !same(v, impl.View{}) {
			t.Fatalf("Look: %v", v)
		}
		if v := impl.Branch(s, nil); !same(v, impl.View{}) {
			t.Fatalf("Branch: %v", v)
		}
		if len(impl.Held(s, 10)) != 0 || len(impl.Keys(s, nil)) != 0 {
			t.Fatal("Held or Keys")
		}
		if last, is := impl.LastOf(s, 0); is || last != (impl.Last{}) {
			t.Fatalf("LastOf: %v %v", last, is)
		}
		if list, ok := impl.Turned(s, 100); ok || len(list) != 0 {
			t.Fatalf("Turned: %v %v", list, ok)
		}
	}
}

func TestLook(t *testing.T) {
	s := filled()
	for key, want := range map[string]impl.View{
		"k/a":      {Index: 1, Has: true, Val: []byte{0}},
		"k/t":      {Index: 20, Has: true, Val: []byte{19}},
		"t/k/j":    {Index: 5},
		"t/k/a":    {Index: 9},
		"k":        {Index: 5},
		"k/":       {Index: 5},
		"k/aa":     {Index: 5},
		longKey:    {Index: 5},
		"":         {},
		"k/A":      {},
		tooLongKey: {},
	} {
		if v := impl.Look(s, []byte(key)); !same(v, want) {
			t.Errorf("Look(%q) is %v, not %v", key, v, want)
		}
	}
	if v := impl.Look(impl.State{}, []byte("a")); !same(v, impl.View{}) {
		t.Errorf("Look at nothing: %v", v)
	}
}

func TestHeldAndKeys(t *testing.T) {
	s := filled()
	s.Rows[7].Holder = 10
	for id, want := range map[int]string{10: "k/b k/h", 80: "k/c", 20: "", 0: "", -1: "", 11: "", 90: "", math.MaxInt: "", math.MinInt: ""} {
		mustBe(t, fmt.Sprint("Held ", id), texts(impl.Held(s, id)), want)
	}
	s.Rows = s.Rows[:3]
	s.Rows[0].Key = []byte("k")
	for prefix, want := range map[string]string{
		"": "k k/b k/c", "k": "k k/b k/c", "k/": "k/b k/c", "k/b": "k/b", "k/bb": "", "l": "", "A": "", "\xff": "", tooLongKey: "", strings.Repeat("k", 300): "",
	} {
		mustBe(t, "Keys "+prefix, texts(impl.Keys(s, []byte(prefix))), want)
	}
}

func TestBranch(t *testing.T) {
	s := filled()
	for prefix, want := range map[string]impl.View{
		"":        {Index: 20, Has: true},
		"k":       {Index: 20, Has: true},
		"k/b":     {Index: 5, Has: true},
		"k/h":     {Index: 8, Has: true},
		"k/hh":    {Index: 5},
		"t":       {Index: 9},
		"t/k/c":   {Index: 8},
		"t/k/j":   {Index: 5},
		"nothing": {Index: 5},
		"\x00":    {Index: 5},
	} {
		if v := impl.Branch(s, []byte(prefix)); !same(v, want) {
			t.Errorf("Branch(%q) is %v, not %v", prefix, v, want)
		}
	}
	s.Tombs[9].Index = 99
	if v := impl.Branch(s, nil); !same(v, impl.View{Index: 99, Has: true}) {
		t.Errorf("Branch with a tomb behind all rows: %v", v)
	}
	if v := impl.Branch(impl.State{}, nil); !same(v, impl.View{}) {
		t.Errorf("Branch of nothing: %v", v)
	}
}

func TestLastOf(t *testing.T) {
	s := filled()
	s.Lasts = s.Lasts[1:3]
	for client := -2; client < 6; client++ {
		last, is := impl.LastOf(s, client)
		if is != (client == 1 || client == 2) || is && last != s.Lasts[client-1] || !is && last != (impl.Last{}) {
			t.Errorf("LastOf %d: %v %v", client, last, is)
		}
	}
}

func TestTurned(t *testing.T) {
	s := filled()
	for _, c := range []struct {
		since int
		want  string
		ok    bool
	}{
		{math.MinInt, "", false}, {-1, "", false}, {0, "", false}, {4, "", false},
		{5, "k/f k/g k/h k/i k/j k/k k/l k/m k/n k/o k/p k/q k/r k/s k/t t/k/h t/k/g t/k/f t/k/e t/k/d t/k/c t/k/b t/k/a", true},
		{8, "k/i k/j k/k k/l k/m k/n k/o k/p k/q k/r k/s k/t t/k/b t/k/a", true},
		{9, "k/j k/k k/l k/m k/n k/o k/p k/q k/r k/s k/t", true},
		{19, "k/t", true}, {20, "", true}, {101, "", true}, {impl.MaxIndex + 1, "", true}, {math.MaxInt, "", true},
	} {
		list, ok := impl.Turned(s, c.since)
		if texts(list) != c.want || ok != c.ok {
			t.Errorf("Turned(%d) is %q %v, not %q %v", c.since, texts(list), ok, c.want, c.ok)
		}
	}
	if list, ok := impl.Turned(impl.State{}, 0); !ok || len(list) != 0 {
		t.Errorf("Turned of nothing: %v %v", list, ok)
	}
}

// A walk goes from state to state by commands that touch few keys and sessions, so that they meet.
type walk struct {
	pick *rand.Rand
	keys []string
	s    impl.State
}

func newWalk(seed int64) *walk {
	w := &walk{pick: rand.New(rand.NewSource(seed))}
	for i := range 26 {
		w.keys = append(w.keys, []string{"a", "a/", "b/c"}[i%3]+strings.Repeat("x", i/3))
	}
	w.keys = w.keys[:[]int{6, 14, 26}[seed%3]]
	return w
}

func (w *walk) session() int {
	if len(w.s.Sess) == 0 || w.pick.Intn(9) == 0 {
		return 1 + w.pick.Intn(w.s.Index+2)
	}
	return w.s.Sess[w.pick.Intn(len(w.s.Sess))].Id
}

func (w *walk) command() impl.Cmd {
	client := w.pick.Intn(impl.MaxClients+1) - 1
	if client < 0 {
		return impl.Cmd{Client: -1}
	}
	last, _ := impl.LastOf(w.s, client)
	req := max(1, last.Req+1-w.pick.Intn(12)/10-w.pick.Intn(30)/29)
	key := w.keys[w.pick.Intn(len(w.keys))]
	val := strings.Repeat("v", w.pick.Intn(impl.MaxText+1))
	var o impl.Op
	switch w.pick.Intn(20) {
	case 0, 1, 2, 3:
		o = op(impl.OpSet, key, val, 0)
	case 4, 5, 6:
		o = op(impl.OpCas, key, val, w.pick.Intn(2)*impl.Look(w.s, []byte(key)).Index)
	case 7, 8:
		o = op(impl.OpDel, key, "", 0)
	case 9, 10:
		o = op(impl.OpOpen, "", "", w.pick.Intn(2))
	case 11:
		o = op(impl.OpShut, "", "", w.session())
	case 12, 13, 14, 15, 16, 17:
		o = op(impl.OpTake, key, val, w.session())
	case 18:
		o = op(impl.OpFree, key, "", w.session())
	}
	return impl.Cmd{Client: client, Req: req, Op: o}
}

func TestWalksGoAsTheModelTells(t *testing.T) {
	t.Parallel()
	codes := map[[2]int]int{}
	for seed := range int64(6) {
		w := newWalk(seed)
		for range 2500 {
			c := w.command()
			next, reply := impl.Apply(w.s, c)
			want, answer := modelApply(w.s, c)
			if reply != answer || !same(next, want) {
				t.Fatalf("Apply of %v to\n%v\nis %v\n%v\nnot %v\n%v", c, w.s, reply, next, answer, want)
			}
			if !impl.StateOk(next) || next.Index != w.s.Index+1 {
				t.Fatalf("Apply of %v left what is not StateOk at the next Index: %v", c, next)
			}
			mustTurnAsIndexDoes(t, w, next)
			mustHoldByRight(t, w.s, next, c, reply)
			codes[[2]int{c.Op.Kind, reply.Code}]++
			w.s = next
		}
	}
	// The walks are worth something only if they came by each code of each operation.
	for _, pair := range [][2]int{
		{impl.OpSet, impl.RpWell}, {impl.OpSet, impl.RpFull}, {impl.OpCas, impl.RpWell}, {impl.OpCas, impl.RpTurned}, {impl.OpCas, impl.RpFull},
		{impl.OpDel, impl.RpWell}, {impl.OpDel, impl.RpNone}, {impl.OpOpen, impl.RpWell}, {impl.OpOpen, impl.RpFull},
		{impl.OpShut, impl.RpWell}, {impl.OpShut, impl.RpNone}, {impl.OpTake, impl.RpWell}, {impl.OpTake, impl.RpNone},
		{impl.OpTake, impl.RpHeld}, {impl.OpTake, impl.RpFull}, {impl.OpFree, impl.RpWell}, {impl.OpFree, impl.RpNone}, {impl.OpSet, impl.RpOld},
	} {
		if codes[pair] == 0 {
			t.Errorf("no walk came by operation %d with code %d", pair[0], pair[1])
		}
	}
}

// mustTurnAsIndexDoes holds promise 4 against one step of a walk.
func mustTurnAsIndexDoes(t *testing.T, w *walk, next impl.State) {
	t.Helper()
	var above []string
	since := w.s.Index - w.pick.Intn(20)
	for _, key := range w.keys {
		was, is := impl.Look(w.s, []byte(key)), impl.Look(next, []byte(key))
		if is.Index < was.Index {
			t.Fatalf("the Index of %s went down from %d to %d", key, was.Index, is.Index)
		}
		if is.Index == was.Index && !same(was, is) {
			t.Fatalf("%s turned, but not its Index", key)
		}
		if is.Index > since {
			above = append(above, key)
		}
	}
	list, ok := impl.Turned(next, since)
	if ok != (since >= next.Lost) {
		t.Fatalf("Turned(%d) with Lost %d: %v", since, next.Lost, ok)
	}
	got := strings.Fields(texts(list))
	slices.Sort(above)
	slices.Sort(got)
	if ok && !slices.Equal(got, above) {
		t.Fatalf("Turned(%d) is %v, not %v", since, got, above)
	}
}

// mustHoldByRight holds promise 3 against one step of a walk.
func mustHoldByRight(t *testing.T, s, next impl.State, c impl.Cmd, reply impl.Reply) {
	t.Helper()
	var told []string
	for _, session := range next.Sess {
		for _, key := range impl.Held(next, session.Id) {
			if modelRow(&next, key).Holder != session.Id {
				t.Fatalf("Held tells %s of %d", key, session.Id)
			}
			told = append(told, string(key))
		}
	}
	var held []string
	for _, r := range next.Rows {
		if r.Holder != 0 {
			held = append(held, string(r.Key))
		}
	}
	slices.Sort(told)
	if !slices.Equal(told, held) {
		t.Fatalf("all sessions hold %v, not %v", told, held)
	}
	if c.Op.Kind == impl.OpShut && reply == (impl.Reply{Code: impl.RpWell, Index: next.Index}) && modelSession(&s, c.Op.N) != nil {
		mustBeLetGo(t, s, next, c.Op.N)
	}
}

func mustBeLetGo(t *testing.T, s, next impl.State, id int) {
	t.Helper()
	if len(impl.Held(next, id)) != 0 || modelSession(&next, id) != nil {
		t.Fatalf("session %d is shut and holds something", id)
	}
	mine := impl.Held(s, id)
	for _, r := range s.Rows {
		v := impl.Look(next, r.Key)
		if slices.ContainsFunc(mine, func(key []byte) bool { return bytes.Equal(key, r.Key) }) {
			if v.Index != next.Index {
				t.Fatalf("%s was held by %d and did not turn", r.Key, id)
			}
		} else if v.Index != r.Turned {
			t.Fatalf("%s was not held by %d and turned", r.Key, id)
		}
	}
}

func TestMemoryOfTheCatalog(t *testing.T) {
	w := newWalk(2)
	for range 600 {
		s, c := withRoom(w.s), withRoom(w.command())
		mustKeep(t, fmt.Sprintf("Apply of %v", c), []any{s, c}, func() []any {
			next, reply := impl.Apply(s, c)
			w.s = next
			return []any{next, reply}
		})
		key := withRoom([]byte(w.keys[w.pick.Intn(len(w.keys))]))
		id := w.session()
		mustKeep(t, "reads", []any{s, key}, func() []any {
			turned, _ := impl.Turned(s, s.Lost)
			last, _ := impl.LastOf(s, 0)
			impl.StateOk(s)
			impl.KeyOk(key)
			return []any{impl.Look(s, key), impl.Held(s, id), impl.Keys(s, key[:1]), impl.Keys(s, nil), impl.Branch(s, key), last, turned}
		})
		mustKeep(t, "OpOk and CmdOk", []any{c}, func() []any {
			return []any{impl.OpOk(c.Op), impl.CmdOk(c)}
		})
	}
	for _, s := range badStates() {
		s = withRoom(s)
		mustKeep(t, "a bad state", []any{s}, func() []any {
			next, _ := impl.Apply(s, impl.Cmd{Client: -1})
			turned, _ := impl.Turned(s, 50)
			return []any{next, turned, impl.Look(s, []byte("k/a")), impl.Keys(s, nil), impl.Held(s, 10)}
		})
	}
}
