package tests

import (
	"fmt"
	"math"
	"math/rand"
	"slices"
	"strings"
	"testing"

	"loop.example/g00365/impl"
)

// mostState answers a state whose lists, texts and numbers are all at their most.
func mostState() impl.State {
	const most = impl.MaxIndex
	s := impl.State{Index: most, Lost: most}
	for i := range impl.MaxKeys {
		key := []byte(strings.Repeat("x", impl.MaxText-1) + string(rune('a'+i)))
		s.Rows = append(s.Rows, impl.Row{Key: key, Val: countingText(impl.MaxText), Turned: most, Holder: most - i%impl.MaxSess})
	}
	for i := range impl.MaxTombs {
		s.Tombs = append(s.Tombs, impl.Tomb{Key: []byte(strings.Repeat("y", impl.MaxText-1) + string(rune('z'-i))), Index: most})
	}
	for i := range impl.MaxSess {
		s.Sess = append(s.Sess, impl.Session{Id: most - impl.MaxSess + 1 + i, Delete: i%2 == 1})
	}
	for i := range impl.MaxClients {
		s.Lasts = append(s.Lasts, impl.Last{Client: i, Req: most, Reply: impl.Reply{Code: impl.RpOld, Index: most}})
	}
	return s
}

func rowsOf(rows ...impl.Row) impl.State {
	return impl.State{Index: 9, Rows: rows}
}

type stateText struct {
	state impl.State
	bytes string
}

// smallStates answers states together with their bytes, written by hand.
func smallStates() []stateText {
	a, b := []byte("a"), []byte("b/")
	return []stateText{
		{impl.State{}, "\x00\x00\x00\x00\x00\x00"},
		{impl.State{Index: 1}, "\x01\x00\x00\x00\x00\x00"},
		{impl.State{Index: 300, Lost: 128}, "\xac\x02\x80\x01\x00\x00\x00\x00"},
		{impl.State{Index: impl.MaxIndex, Lost: impl.MaxIndex}, "\xc0\x84\x3d\xc0\x84\x3d\x00\x00\x00\x00"},
		{rowsOf(impl.Row{Key: a, Turned: 9}), "\x09\x00\x01\x01a\x00\x09\x00\x00\x00\x00"},
		{rowsOf(impl.Row{Key: a, Val: []byte("\x00\xff"), Turned: 1}, impl.Row{Key: b, Val: a, Turned: 9}),
			"\x09\x00\x02\x01a\x02\x00\xff\x01\x00\x02b/\x01a\x09\x00\x00\x00\x00"},
		{impl.State{Index: 9, Lost: 3, Tombs: []impl.Tomb{{Key: b, Index: 3}, {Key: a, Index: 3}}}, "\x09\x03\x00\x02\x02b/\x03\x01a\x03\x00\x00"},
		{impl.State{Index: 9, Sess: []impl.Session{{Id: 2}, {Id: 4, Delete: true}, {Id: 9}}}, "\x09\x00\x00\x00\x03\x02\x00\x04\x01\x09\x00\x00"},
		{impl.State{Index: 9, Lasts: []impl.Last{{Client: 0, Req: 128, Reply: impl.Reply{Code: impl.RpOld, Index: 8}}, {Client: 3, Req: 1, Reply: impl.Reply{Index: 9}}}},
			"\x09\x00\x00\x00\x00\x02\x00\x80\x01\x05\x08\x03\x01\x00\x09"},
		{impl.State{
			Index: 200, Lost: 6, Rows: []impl.Row{{Key: a, Val: b, Turned: 130, Holder: 5}}, Tombs: []impl.Tomb{{Key: b, Index: 7}},
			Sess: []impl.Session{{Id: 5, Delete: true}}, Lasts: []impl.Last{{Client: 2, Req: 4, Reply: impl.Reply{Code: impl.RpHeld, Index: 130}}},
		}, "\xc8\x01\x06" + "\x01\x01a\x02b/\x82\x01\x05" + "\x01\x02b/\x07" + "\x01\x05\x01" + "\x01\x02\x04\x02\x82\x01"},
	}
}

// goodStates answers states that may be: small ones, those at the edges of what may be, some on their way.
func goodStates() []impl.State {
	all := []impl.State{filled(), mostState()}
	for _, small := range smallStates() {
		all = append(all, small.state)
	}
	for _, turn := range stateTurns {
		if turn.ok {
			s := filled()
			turn.do(&s)
			all = append(all, s)
		}
	}
	for seed := range int64(3) {
		w := newWalk(900 + seed)
		for i := range 300 {
			if w.s, _ = impl.Apply(w.s, w.command()); i%20 == 0 {
				all = append(all, w.s)
			}
		}
	}
	return all
}

func mustBeBytesOf(t *testing.T, s impl.State, want []byte) {
	t.Helper()
	b, ok := impl.StateBytes(s)
	if !ok || string(b) != string(want) {
		t.Fatalf("StateBytes(%v) = %q, %v, not %q", s, b, ok, want)
	}
	back, ok := impl.StateRead(b)
	if !ok || !sameState(back, s) {
		t.Fatalf("StateRead(%q) = %v, %v, not %v", b, back, ok, s)
	}
}

func TestBytesOfStates(t *testing.T) {
	for _, small := range smallStates() {
		mustBeBytesOf(t, small.state, []byte(small.bytes))
	}
}

// Promise 1: states that may be come back from their bytes; of others there are none.
func TestStatesComeBack(t *testing.T) {
	t.Parallel()
	for _, s := range goodStates() {
		if !modelState(s) {
			t.Fatalf("the model refuses %v", s)
		}
		mustBeBytesOf(t, s, modelStateBytes(s))
	}
	for seed := range int64(12) {
		w := newWalk(90 + seed)
		for range 400 {
			w.s, _ = impl.Apply(w.s, w.command())
			mustBeBytesOf(t, w.s, modelStateBytes(w.s))
		}
	}
}

func TestStateBytesRefuses(t *testing.T) {
	for _, s := range badStates() {
		if modelState(s) {
			t.Fatalf("the model takes %v", s)
		}
		if b, ok := impl.StateBytes(s); ok || len(b) > 0 {
			t.Errorf("StateBytes(%v) = %q, %v", s, b, ok)
		}
	}
}

func mustNotBeState(t *testing.T, why string, b []byte) {
	t.Helper()
	if s, ok := impl.StateRead(b); ok || !same(s, impl.State{}) {
		t.Fatalf("%s: StateRead(%q) = %v, %v", why, b, s, ok)
	}
	if _, ok := modelStateRead(b); ok {
		t.Fatalf("%s: the model reads %q", why, b)
	}
}

// Bytes that are written as a state's are, but of one that may not be.
func TestBytesOfStatesThatMayNotBe(t *testing.T) {
	mustNotBeState(t, "no bytes", nil)
	mustNotBeState(t, "no bytes", []byte{})
	for _, s := range badStates() {
		mustNotBeState(t, "a bad state", modelStateBytes(s))
	}
}

// places answers where in a state's bytes the counts of its lists stand.
func places(s impl.State) [4]int {
	var at [4]int
	part := impl.State{Index: s.Index, Lost: s.Lost}
	at[0] = len(modelStateBytes(part)) - 4
	part.Rows = s.Rows
	at[1] = len(modelStateBytes(part)) - 3
	part.Tombs = s.Tombs
	at[2] = len(modelStateBytes(part)) - 2
	part.Sess = s.Sess
	at[3] = len(modelStateBytes(part)) - 1
	return at
}

// Counts that are other than what follows, be it that there may not be so many, or that there are not so many bytes.
func TestCountsThatAreWrong(t *testing.T) {
	t.Parallel()
	for _, s := range goodStates() {
		b := modelStateBytes(s)
		for list, at := range places(s) {
			is := []int{len(s.Rows), len(s.Tombs), len(s.Sess), len(s.Lasts)}[list]
			if int(b[at]) != is {
				t.Fatalf("no count at %d of %q", at, b)
			}
			for _, count := range []int{is - 1, is + 1, is + 2, 4, 5, 8, 9, 10, 11, 20, 21, 127, 128, 1000000, 2147483647} {
				if count >= 0 && count != is {
					mustReadStateLikeModel(t, slices.Replace(slices.Clone(b), at, at+1, bytesOf(count)...))
				}
			}
			mustNotBeState(t, "a count that is cut off", b[:at])
			mustNotBeState(t, "a count longer than it is", slices.Replace(slices.Clone(b), at, at+1, b[at]|128, 0))
			mustNotBeState(t, "a count above MaxNum", slices.Replace(slices.Clone(b), at, at+1, 255, 255, 255, 255, 8))
			mustNotBeState(t, "a count of six bytes", slices.Replace(slices.Clone(b), at, at+1, 255, 255, 255, 255, 255, 1))
		}
	}
}

// One of a list more than there may be, all of them there.
func TestListsThatAreTooLong(t *testing.T) {
	for list, most := range []int{impl.MaxKeys, impl.MaxTombs, impl.MaxSess, impl.MaxClients} {
		for count := range most + 5 {
			s := impl.State{Index: 99}
			for i := range count {
				key := []byte(numbered(i))
				switch list {
				case 0:
					s.Rows = append(s.Rows, impl.Row{Key: key, Turned: 1})
				case 1:
					s.Tombs = append(s.Tombs, impl.Tomb{Key: key, Index: 1})
				case 2:
					s.Sess = append(s.Sess, impl.Session{Id: i + 1})
				case 3:
					s.Lasts = append(s.Lasts, impl.Last{Client: i, Req: 1, Reply: impl.Reply{Index: 1}})
				}
			}
			b := modelStateBytes(s)
			if count <= most {
				mustBeBytesOf(t, s, b)
			} else {
				mustNotBeState(t, "a list that is too long", b)
			}
		}
	}
}

func TestDeleteThatIsNeitherYesNorNo(t *testing.T) {
	for _, s := range []impl.State{filled(), mostState(), {Index: 1, Sess: []impl.Session{{Id: 1}}}} {
		b := modelStateBytes(s)
		for i := range s.Sess {
			part := s
			part.Sess, part.Lasts = s.Sess[:i+1], nil
			at := len(modelStateBytes(part)) - 2
			for n := range 300 {
				turned := slices.Replace(slices.Clone(b), at, at+1, bytesOf(n)...)
				if n > 1 {
					mustNotBeState(t, "a Delete of neither", turned)
				} else if got, ok := impl.StateRead(turned); !ok || got.Sess[i] != (impl.Session{Id: s.Sess[i].Id, Delete: n == 1}) {
					t.Fatalf("StateRead(%q) = %v, %v", turned, got, ok)
				}
			}
			mustNotBeState(t, "a Delete of MaxNum", slices.Replace(slices.Clone(b), at, at+1, bytesOf(impl.MaxNum)...))
			mustNotBeState(t, "a Delete longer than it is", slices.Replace(slices.Clone(b), at, at+1, b[at]|128, 0))
		}
	}
}

// mustReadStateLikeModel tells whether b is a state's bytes.
func mustReadStateLikeModel(t *testing.T, b []byte) bool {
	t.Helper()
	s, ok := impl.StateRead(b)
	want, is := modelStateRead(b)
	if ok != is || !sameState(s, want) {
		t.Fatalf("StateRead(%q) = %v, %v, not %v, %v", b, s, ok, want, is)
	}
	if !ok {
		return false
	}
	if again, made := impl.StateBytes(s); !made || string(again) != string(b) {
		t.Fatalf("StateRead(%q) = %v, whose bytes are %q", b, s, again)
	}
	return true
}

func allSigns() []byte {
	var all []byte
	for c := range 256 {
		all = append(all, byte(c))
	}
	return all
}

// lookAround calls look with b with a byte left out, and with each sign put in or in the place of a byte.
func lookAround(b, signs []byte, look func(b []byte)) {
	for at := range len(b) + 1 {
		if at < len(b) {
			look(slices.Delete(slices.Clone(b), at, at+1))
		}
		for _, c := range signs {
			look(slices.Insert(slices.Clone(b), at, c))
			if at < len(b) {
				turned := slices.Clone(b)
				turned[at] = c
				look(turned)
			}
		}
	}
}

// Promise 1: whatever bytes are read as a state are just the bytes of it.
func TestBytesReadAsAStateAreJustItsBytes(t *testing.T) {
	t.Parallel()
	read, refused := 0, 0
	look := func(b []byte) {
		if mustReadStateLikeModel(t, b) {
			read++
		} else {
			refused++
		}
	}
	for _, small := range smallStates() {
		lookAround([]byte(small.bytes), allSigns(), look)
	}
	for _, s := range []impl.State{filled(), mostState()} {
		lookAround(modelStateBytes(s), []byte{0, 1, 2, 9, 10, 'a', 'z', 128, 255}, look)
	}
	for _, ahead := range []string{"", "\x02\x00\x01\x01", "\x02\x00\x00\x01\x01", "\x02\x00\x00\x00\x01", "\x02\x01\x00\x00\x00\x01"} {
		eachOver([]byte{0, 1, 2, 'a', 128}, 6, func(b []byte) {
			look(append([]byte(ahead), b...))
		})
	}
	if read < 1000 || refused < 100000 {
		t.Errorf("the bytes are worth little: %d were a state's, %d not", read, refused)
	}
}

func TestStatesThatAreCutOffOrGoOn(t *testing.T) {
	t.Parallel()
	for _, s := range goodStates() {
		b := modelStateBytes(s)
		for size := range len(b) {
			// The bytes behind the length would make the state whole.
			if got, ok := impl.StateRead(b[:size]); ok || !same(got, impl.State{}) {
				t.Fatalf("StateRead of the first %d bytes of %q = %v, %v", size, b, got, ok)
			}
		}
		for c := range 256 {
			mustNotBeState(t, "one byte too many", append(slices.Clone(b), byte(c)))
		}
		mustNotBeState(t, "twice", slices.Concat(b, b))
	}
	mustNotBeState(t, "many noughts", make([]byte, 100000))
	mustNotBeState(t, "many bytes", slices.Repeat([]byte{255}, 100000))
}

// cmds answers so many commands of client 0, each of which sets a key.
func cmds(count int) []impl.Cmd {
	var all []impl.Cmd
	for i := range count {
		all = append(all, impl.Cmd{Req: i + 1, Op: op(impl.OpSet, numbered(i%26), fmt.Sprint(i), 0)})
	}
	return all
}

// badCmds answers commands that are not CmdOk.
func badCmds() []impl.Cmd {
	return []impl.Cmd{
		{}, {Client: -2}, {Client: -1, Req: 1}, {Client: -1, Op: setA}, {Client: impl.MaxClients, Req: 1}, {Req: -1}, {Req: impl.MaxIndex + 1},
		{Req: 1, Op: op(impl.OpSet, "", "x", 0)}, {Req: 1, Op: op(impl.OpSet, tooLongKey, "x", 0)}, {Req: 1, Op: op(impl.OpSet, "a", tooLongKey, 0)},
		{Req: 1, Op: op(impl.OpFree+1, "", "", 0)}, {Req: 1, Op: op(impl.OpShut, "", "", 0)}, {Client: math.MaxInt, Req: math.MinInt},
	}
}

type snapEdge struct {
	what string
	snap impl.Snap
	ok   bool
}

// snapEdges answers snaps that may be and such as may not, at the edges.
func snapEdges() []snapEdge {
	const log = impl.MaxLog
	at := func(index int) impl.State {
		s := filled()
		s.Index = index
		return s
	}
	all := []snapEdge{
		{"zero", impl.Snap{}, true},
		{"an empty rest", impl.Snap{Rest: []impl.Cmd{}}, true},
		{"a base alone", impl.Snap{Base: filled()}, true},
		{"the greatest base alone", impl.Snap{Base: mostState()}, true},
		{"one behind nothing", impl.Snap{Rest: cmds(1)}, true},
		{"nobody's", impl.Snap{Rest: []impl.Cmd{{Client: -1}, {Client: -1}}}, true},
		{"some", impl.Snap{Base: filled(), Rest: cmds(9)}, true},
		{"one below a full rest", impl.Snap{Base: filled(), Rest: cmds(log - 1)}, true},
		{"a full rest", impl.Snap{Base: filled(), Rest: cmds(log)}, true},
		{"one too many", impl.Snap{Base: filled(), Rest: cmds(log + 1)}, false},
		{"one too many behind nothing", impl.Snap{Rest: cmds(log + 1)}, false},
		{"far too many", impl.Snap{Rest: cmds(5 * log)}, false},
		{"just room for a full rest", impl.Snap{Base: at(impl.MaxIndex - log), Rest: cmds(log)}, true},
		{"no room for the last one of a full rest", impl.Snap{Base: at(impl.MaxIndex - log + 1), Rest: cmds(log)}, false},
		{"one less, where there is just room", impl.Snap{Base: at(impl.MaxIndex - log + 1), Rest: cmds(log - 1)}, true},
		{"one too many, where that is all there is room for", impl.Snap{Base: at(impl.MaxIndex - log - 1), Rest: cmds(log + 1)}, false},
		{"just room for some", impl.Snap{Base: at(impl.MaxIndex - 3), Rest: cmds(3)}, true},
		{"no room for the last of some", impl.Snap{Base: at(impl.MaxIndex - 2), Rest: cmds(3)}, false},
		{"just room for one", impl.Snap{Base: at(impl.MaxIndex - 1), Rest: cmds(1)}, true},
		{"no room for one", impl.Snap{Base: at(impl.MaxIndex), Rest: cmds(1)}, false},
		{"no room for one of nobody's", impl.Snap{Base: at(impl.MaxIndex), Rest: []impl.Cmd{{Client: -1}}}, false},
		{"no room and nothing there", impl.Snap{Base: at(impl.MaxIndex)}, true},
	}
	for _, bad := range badStates() {
		all = append(all, snapEdge{"a bad base", impl.Snap{Base: bad}, false}, snapEdge{"a bad base and some", impl.Snap{Base: bad, Rest: cmds(3)}, false})
	}
	for _, bad := range badCmds() {
		all = append(all, snapEdge{"a bad command alone", impl.Snap{Rest: []impl.Cmd{bad}}, false})
		for _, size := range []int{3, log} {
			for _, place := range []int{0, size / 2, size - 1} {
				rest := cmds(size)
				rest[place] = bad
				all = append(all, snapEdge{fmt.Sprintf("bad at %d of %d", place, size), impl.Snap{Base: filled(), Rest: rest}, false})
			}
		}
	}
	return all
}

func TestSnapOk(t *testing.T) {
	for _, edge := range snapEdges() {
		if impl.SnapOk(edge.snap) != edge.ok || modelSnap(edge.snap) != edge.ok {
			t.Errorf("%s: SnapOk is not %v", edge.what, edge.ok)
		}
	}
	// What lies behind the length is not read.
	if cut := append(cmds(3), impl.Cmd{}); !impl.SnapOk(impl.Snap{Rest: cut[:3]}) {
		t.Error("SnapOk of what is cut ahead of a bad one")
	}
	if cut := cmds(2 * impl.MaxLog); !impl.SnapOk(impl.Snap{Rest: cut[:impl.MaxLog]}) {
		t.Error("SnapOk of what is cut ahead of too many")
	}
}

func TestSnapAllOfEdges(t *testing.T) {
	for _, edge := range snapEdges() {
		got, ok := impl.SnapAll(edge.snap)
		want, _ := modelSnapAll(edge.snap)
		if ok != edge.ok || !sameState(got, want) {
			t.Errorf("%s: SnapAll = %v, %v, not %v", edge.what, got, ok, want)
		}
		if ok && (!impl.StateOk(got) || got.Index != edge.snap.Base.Index+len(edge.snap.Rest)) {
			t.Errorf("%s: SnapAll = %v", edge.what, got)
		}
	}
}

func sameSnap(a, b impl.Snap) bool {
	items := func(l []impl.Cmd) (all []impl.Item) {
		for _, c := range l {
			all = append(all, impl.Item{Cmd: c})
		}
		return all
	}
	return sameState(a.Base, b.Base) && sameLog(items(a.Rest), items(b.Rest))
}

// mustAdd holds SnapAdd against the model, and what it adds against what is applied.
func mustAdd(t *testing.T, what string, s impl.Snap, c impl.Cmd) (impl.Snap, bool) {
	t.Helper()
	got, ok := impl.SnapAdd(s, c)
	want, is := modelSnapAdd(s, c)
	if ok != is || !sameSnap(got, want) {
		t.Fatalf("%s: SnapAdd(%v, %v) = %v, %v, not %v, %v", what, s, c, got, ok, want, is)
	}
	if !ok {
		return got, false
	}
	was, _ := impl.SnapAll(s)
	all, fine := impl.SnapAll(got)
	if next, _ := impl.Apply(was, c); !impl.SnapOk(got) || !fine || !sameState(all, next) {
		t.Fatalf("%s: SnapAdd(%v, %v) leaves %v, not %v", what, s, c, all, next)
	}
	return got, true
}

func TestSnapAdd(t *testing.T) {
	for _, edge := range snapEdges() {
		room := min(impl.MaxLog, impl.MaxIndex-edge.snap.Base.Index) > len(edge.snap.Rest)
		for _, c := range []impl.Cmd{{Client: -1}, {Client: 3, Req: impl.MaxIndex, Op: op(impl.OpTake, longKey, longKey, 10)}, {Req: 1, Op: setA}} {
			got, ok := mustAdd(t, edge.what, edge.snap, c)
			switch {
			case ok != (edge.ok && room):
				t.Errorf("%s: SnapAdd is %v", edge.what, ok)
			case ok && !sameSnap(got, impl.Snap{Base: edge.snap.Base, Rest: append(slices.Clone(edge.snap.Rest), c)}):
				t.Errorf("%s: SnapAdd = %v", edge.what, got)
			case !ok && edge.ok && !sameSnap(got, edge.snap):
				t.Errorf("%s: SnapAdd without room = %v", edge.what, got)
			case !edge.ok && !same(got, impl.Snap{}):
				t.Errorf("%s: SnapAdd to a bad snap = %v", edge.what, got)
			}
		}
		// A bad command counts ahead of room that lacks: not even s is answered.
		for _, bad := range badCmds() {
			if got, ok := impl.SnapAdd(edge.snap, bad); ok || !same(got, impl.Snap{}) {
				t.Errorf("%s: SnapAdd of %v = %v, %v", edge.what, bad, got, ok)
			}
		}
	}
}

func TestSnapsAreFilledOneByOne(t *testing.T) {
	for _, index := range []int{100, impl.MaxIndex - impl.MaxLog - 1, impl.MaxIndex - impl.MaxLog, impl.MaxIndex - impl.MaxLog + 1, impl.MaxIndex - 2} {
		s := impl.Snap{Base: filled()}
		s.Base.Index = index
		room := min(400, 1000000-index)
		for i, c := range cmds(room + 3) {
			more, ok := impl.SnapAdd(s, c)
			if ok != (i < room) || !ok && !sameSnap(more, s) || len(more.Rest) != min(i+1, room) {
				t.Fatalf("from %d on SnapAdd of command %d: %d, %v", index, i, len(more.Rest), ok)
			}
			s = more
		}
	}
}

// walkFacts answers so many facts, as a walk goes.
func walkFacts(seed int64, count int) []impl.Fact {
	w := newWalk(seed)
	var all []impl.Fact
	for i := range count {
		c := w.command()
		w.s, _ = impl.Apply(w.s, c)
		all = append(all, impl.Fact{At: 7 * i, Cmd: c})
	}
	return all
}

// mustCut holds SnapOf and SnapAll against the model and Follow at one cut, and tells whether there is a snap.
func mustCut(t *testing.T, what string, l []impl.Fact, k int) bool {
	t.Helper()
	s, ok := impl.SnapOf(l, k)
	want, is := modelSnapOf(l, k)
	if ok != is || !sameSnap(s, want) {
		t.Fatalf("%s: SnapOf(%d facts, %d) = %v, %v, not %v, %v", what, len(l), k, s, ok, want, is)
	}
	if !ok {
		return false
	}
	if base, _ := impl.Follow(l[:k]); !sameState(base, s.Base) || len(s.Rest) != len(l)-k || !impl.SnapOk(s) {
		t.Fatalf("%s: SnapOf(%d facts, %d) = %v", what, len(l), k, s)
	}
	left, _ := impl.Follow(l)
	if all, fine := impl.SnapAll(s); !fine || !sameState(all, left) {
		t.Fatalf("%s: cut at %d, %d facts leave %v, not %v", what, k, len(l), all, left)
	}
	return true
}

// Promise 15: where facts are cut plays no part in what they leave.
func TestFactsThatAreCut(t *testing.T) {
	t.Parallel()
	for _, size := range []int{0, 1, 2, 3, 60, 130} {
		for seed := range int64(3) {
			l := walkFacts(seed, size)
			for k := -2; k <= size+2; k++ {
				if mustCut(t, "a walk", l, k) != (k >= 0 && k <= size) {
					t.Fatalf("SnapOf(%d facts, %d)", size, k)
				}
			}
		}
	}
	for _, k := range []int{math.MinInt, -impl.MaxLog, impl.MaxLog, math.MaxInt} {
		mustCut(t, "far beside", walkFacts(1, 3), k)
	}
}

func TestManyFactsThatAreCut(t *testing.T) {
	t.Parallel()
	for seed := range int64(3) {
		for _, size := range []int{impl.MaxLog - 1, impl.MaxLog, impl.MaxLog + 1, impl.MaxLog + 100} {
			l := walkFacts(seed, size)
			for _, k := range []int{-1, 0, 1, 57, 200, size - 2, size - 1, size, size + 1} {
				if mustCut(t, "a long walk", l, k) != (size <= impl.MaxLog && k >= 0 && k <= size) {
					t.Fatalf("SnapOf(%d facts, %d)", size, k)
				}
			}
		}
	}
	long := walkFacts(2, impl.MaxLog)
	for k := 0; k <= impl.MaxLog; k += 7 {
		mustCut(t, "a long walk", long, k)
	}
	// What lies behind the length is not read.
	if !mustCut(t, "facts that are cut off", walkFacts(2, 2*impl.MaxLog)[:impl.MaxLog], 100) {
		t.Fatal("what lies behind the length was read")
	}
}

func TestFactsThatAreBad(t *testing.T) {
	const size = 9
	for _, bad := range badCmds() {
		for place := range size {
			l := walkFacts(1, size)
			l[place].Cmd = bad
			for k := -1; k <= size+1; k++ {
				if s, ok := impl.SnapOf(l, k); ok || !same(s, impl.Snap{}) {
					t.Fatalf("SnapOf with %v at %d, cut at %d = %v, %v", bad, place, k, s, ok)
				}
			}
			if !mustCut(t, "ahead of a bad one", l[:place], place/2) {
				t.Fatal("a bad fact behind the length was read")
			}
		}
		if s, ok := impl.SnapOf([]impl.Fact{{Cmd: bad}}, 0); ok || !same(s, impl.Snap{}) {
			t.Fatalf("SnapOf of %v alone = %v, %v", bad, s, ok)
		}
	}
}

// Facts that a cluster came by are cut at each place, and leave what its servers have.
func TestFactsOfClustersThatAreCut(t *testing.T) {
	t.Parallel()
	r := rand.New(rand.NewSource(9))
	seen := 0
	for range 80 {
		result := drawScene(r, impl.MaxScript).run(true)
		for k := range len(result.Facts) + 1 {
			mustCut(t, "a scene", result.Facts, k)
			seen++
		}
		s, _ := impl.SnapOf(result.Facts, len(result.Facts)/2)
		for _, state := range result.States {
			if all, ok := impl.SnapAll(s); !ok || !sameState(all, state) {
				t.Fatalf("the servers have %v, the snap %v", state, all)
			}
		}
	}
	if seen < 400 {
		t.Errorf("only %d cuts were seen", seen)
	}
}

// From a cut on the other facts may come one by one, and the base by its bytes.
func TestFactsThatComeOneByOneBehindACut(t *testing.T) {
	t.Parallel()
	for seed := range int64(4) {
		l := walkFacts(30+seed, 90)
		left, _ := impl.Follow(l)
		for k := 0; k <= len(l); k += 6 {
			for first := k; first <= len(l); first += 17 {
				s, _ := impl.SnapOf(l[:first], k)
				b, _ := impl.StateBytes(s.Base)
				s.Base, _ = impl.StateRead(b)
				for _, fact := range l[first:] {
					s, _ = impl.SnapAdd(s, fact.Cmd)
				}
				whole, _ := impl.SnapOf(l, k)
				if all, ok := impl.SnapAll(s); !ok || !sameState(all, left) || !sameSnap(s, whole) {
					t.Fatalf("cut at %d, one by one from %d on: %v, not %v", k, first, all, left)
				}
			}
		}
	}
}

func TestWhenFactsCameIsNoPartOfASnap(t *testing.T) {
	l := walkFacts(4, 50)
	want, _ := impl.SnapOf(l, 20)
	for i := range l {
		l[i].At = []int{math.MinInt, -1, 0, math.MaxInt}[i%4]
	}
	if got, ok := impl.SnapOf(l, 20); !ok || !sameSnap(got, want) {
		t.Errorf("SnapOf = %v, %v", got, ok)
	}
}

func TestSnapsInMemory(t *testing.T) {
	for _, plain := range append(badStates(), goodStates()...) {
		s := withRoom(plain)
		mustKeep(t, fmt.Sprintf("StateBytes of %v", s), []any{s}, func() []any { return two(impl.StateBytes(s)) })
		b := withRoom(modelStateBytes(plain))
		mustKeep(t, fmt.Sprintf("StateRead of %q", b), []any{b}, func() []any { return two(impl.StateRead(b)) })
	}
	adds := append(badCmds()[:3], impl.Cmd{Client: -1}, impl.Cmd{Client: 1, Req: 9, Op: op(impl.OpTake, "k/b", "v", 10)})
	for _, edge := range snapEdges() {
		s := withRoom(edge.snap)
		mustKeep(t, "SnapOk: "+edge.what, []any{s}, func() []any { return []any{impl.SnapOk(s)} })
		mustKeep(t, "SnapAll: "+edge.what, []any{s}, func() []any { return two(impl.SnapAll(s)) })
		for _, c := range adds {
			// Long ones for one command alone: to look for shared memory takes its time.
			if len(s.Rest) > 10 && c.Client != 1 {
				continue
			}
			c = withRoom(c)
			mustKeep(t, "SnapAdd: "+edge.what, []any{s, c}, func() []any { return two(impl.SnapAdd(s, c)) })
		}
	}
	l := withRoom(walkFacts(5, 40))
	for k := -1; k <= 41; k++ {
		mustKeep(t, fmt.Sprintf("SnapOf at %d", k), []any{l}, func() []any { return two(impl.SnapOf(l, k)) })
	}
	l = withRoom(append(l, impl.Fact{}))
	mustKeep(t, "SnapOf with a bad one", []any{l}, func() []any { return two(impl.SnapOf(l, 10)) })
}

// Commands and facts that share their texts are answered with texts that share none.
func TestSnapsOfWhatIsShared(t *testing.T) {
	c := impl.Cmd{Req: 1, Op: setA}
	l := slices.Repeat([]impl.Fact{{Cmd: c}}, 6)
	s := impl.Snap{Rest: slices.Repeat([]impl.Cmd{c}, 6)}
	mustKeep(t, "SnapOf", []any{l}, func() []any { return two(impl.SnapOf(l, 2)) })
	mustKeep(t, "SnapAdd", []any{s, c}, func() []any { return two(impl.SnapAdd(s, c)) })
	mustKeep(t, "SnapAll", []any{s}, func() []any { return two(impl.SnapAll(s)) })
	base := impl.Snap{Base: rowsOf(impl.Row{Key: c.Op.Key, Val: c.Op.Key, Turned: 1}, impl.Row{Key: []byte("b"), Val: c.Op.Key, Turned: 1})}
	mustKeep(t, "SnapAll of a base", []any{base}, func() []any { return two(impl.SnapAll(base)) })
	mustKeep(t, "SnapAdd to a base", []any{base, c}, func() []any { return two(impl.SnapAdd(base, c)) })
}

// Nothing is kept: an earlier answer stays as it was when others are asked for and written over.
func TestNothingOfSnapsIsKept(t *testing.T) {
	b, _ := impl.StateBytes(filled())
	first, _ := impl.StateRead(b)
	second, _ := impl.StateRead(b)
	second.Rows[0].Key[0], second.Tombs[0].Key[0], second.Sess[0].Id, second.Lasts[0].Req = 'x', 'x', 99, 99
	again, _ := impl.StateBytes(first)
	for i := range b {
		b[i] = 255
	}
	if !same(first, filled()) || string(again) != string(modelStateBytes(filled())) {
		t.Errorf("%v, %q", first, again)
	}
	l := walkFacts(6, 30)
	s, _ := impl.SnapOf(l, 10)
	all, _ := impl.SnapAll(s)
	more, _ := impl.SnapAdd(s, impl.Cmd{Client: -1})
	other, _ := impl.SnapOf(l, 10)
	other.Rest[0], other.Base.Index, more.Rest[1].Req, more.Base.Lost = impl.Cmd{}, 99, 99, 5
	if want, _ := modelSnapOf(l, 10); !sameSnap(s, want) {
		t.Errorf("%v, not %v", s, want)
	}
	if now, ok := impl.SnapAll(s); !ok || !sameState(now, all) {
		t.Errorf("%v, not %v", now, all)
	}
}
