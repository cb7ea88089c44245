package tests

import (
	"fmt"
	"math/rand"
	"slices"
	"testing"

	"loop.example/g00365/impl"
)

// How likely each kind of move is in a talk that is drawn.
var talkMoods = [][7]int{
	{60, 60, 4, 1, 4, 0, 6},
	{60, 10, 3, 2, 4, 0, 3},
	{100, 0, 1, 1, 1, 0, 2},
	{100, 30, 30, 3, 4, 1, 10},
	{80, 50, 5, 2, 2, 1, 4},
	{1, 1, 1, 1, 1, 1, 1},
	{300, 1, 0, 1, 1, 0, 2},
	{60, 40, 20, 4, 2, 0, 30},
}

func drawTalkKind(r *rand.Rand, mood [7]int) int {
	all := 0
	for _, weight := range mood {
		all += weight
	}
	at := r.Intn(all)
	for kind, weight := range mood {
		if at < weight {
			return kind
		}
		at -= weight
	}
	return 0
}

func drawSeed(r *rand.Rand) int {
	switch r.Intn(4) {
	case 0:
		return r.Intn(8)
	case 1:
		return impl.MaxNum - r.Intn(8)
	}
	return r.Intn(impl.MaxNum + 1)
}

// drawMove draws one that means something, mostly.
func drawMove(r *rand.Rand, n, kind int) impl.Move {
	m := impl.Move{Kind: kind, Who: r.Intn(n)}
	if r.Intn(60) == 0 {
		m.Who = r.Intn(impl.MaxMembers)
	}
	switch {
	case kind == impl.GoPush:
		m.I = r.Intn(2 * n)
	case r.Intn(3) == 0:
		m.I = r.Intn(impl.MaxNum + 1)
	case r.Intn(3) == 0:
		m.I = r.Intn(impl.MaxNet)
	}
	return m
}

// drawTalk draws ticks of one member or of all, one behind the other, and what comes between.
func drawTalk(r *rand.Rand, most int) talk {
	k := circleOf(1+r.Intn(6), drawSeed(r))
	if r.Intn(4) > 0 {
		k.n = 3 + r.Intn(4)
	}
	mood, size := talkMoods[r.Intn(len(talkMoods))], most
	if r.Intn(2) == 0 {
		size = r.Intn(most + 1)
	}
	together := r.Intn(2) == 0
	for len(k.script) < size {
		m := drawMove(r, k.n, drawTalkKind(r, mood))
		k.script = append(k.script, m)
		for id := 0; together && m.Kind == impl.GoTick && id < k.n && len(k.script) < size; id++ {
			k.script = append(k.script, impl.Move{Kind: impl.GoTick, Who: id})
		}
	}
	return k
}

// sameGossip answers like same, and is much quicker.
func sameGossip(a, b impl.Gossip) bool {
	return a.Ok == b.Ok && a.Net == b.Net && a.Rounds == b.Rounds && slices.Equal(a.Up, b.Up) &&
		slices.EqualFunc(a.Tables, b.Tables, func(x, y impl.Table) bool {
			return x.Self == y.Self && slices.Equal(x.Members, y.Members)
		})
}

// What was seen in talks that were drawn, so that they are known to be worth it.
type talkSights struct {
	talks, suspects, dead, left, down, full int
	lives, rounds, stuck                    int
}

func (x *talkSights) see(g impl.Gossip) {
	x.talks++
	states, lives := make(map[int]int), 0
	for _, table := range g.Tables {
		for _, m := range table.Members {
			states[m.State]++
			lives = max(lives, m.Life)
		}
	}
	x.suspects += min(1, states[impl.MbSuspect])
	x.dead += min(1, states[impl.MbDead])
	x.left += min(1, states[impl.MbLeft])
	if slices.Contains(g.Up, false) {
		x.down++
	}
	if g.Net == impl.MaxNet {
		x.full++
	}
	x.lives = max(x.lives, lives)
	if g.Rounds == 200 {
		x.stuck++
	} else {
		x.rounds = max(x.rounds, g.Rounds)
	}
}

func mustHaveSeenTalks(t *testing.T, seen, settled talkSights) {
	t.Helper()
	few := 4*seen.suspects < seen.talks || 4*seen.dead < seen.talks || 10*seen.left < seen.talks ||
		4*seen.down < seen.talks || 50*seen.full < seen.talks || seen.lives < 4
	if few || 4*settled.dead < settled.talks || settled.rounds < 25 || 50*settled.stuck < settled.talks {
		t.Errorf("too little was seen: %+v, settled %+v", seen, settled)
	}
}

func TestDrawnTalksGoAsTheModelTells(t *testing.T) {
	t.Parallel()
	r := rand.New(rand.NewSource(12))
	var seen, ended talkSights
	for range 700 {
		k := drawTalk(r, impl.MaxScript)
		for _, settle := range []bool{false, true} {
			got, want := k.chat(settle), modelChat(k.n, k.seed, k.script, settle)
			if !sameGossip(got, want) {
				t.Fatalf("%v, settle %v:\n%s, %d rounds, and not\n%s, %d rounds", k, settle, gossipText(got), got.Rounds, gossipText(want), want.Rounds)
			}
			if settle {
				ended.see(got)
			} else {
				seen.see(got)
			}
		}
	}
	mustHaveSeenTalks(t, seen, ended)
}

// Promise 18, behind all of a drawn script and behind parts of it.
func TestDrawnTalksSettle(t *testing.T) {
	t.Parallel()
	r := rand.New(rand.NewSource(120))
	var seen, ended talkSights
	for range 700 {
		k := drawTalk(r, impl.MaxScript)
		whole := k.chat(false)
		mustBeACircle(t, k, whole)
		seen.see(whole)
		for part := range 4 {
			moves := len(k.script)
			if part > 0 {
				moves = r.Intn(moves + 1)
			}
			begun := k.upTo(moves)
			was, is := begun.chat(false), begun.chat(true)
			mustBeACircle(t, begun, is)
			mustSayTheSame(t, begun, is)
			mustOnlySettle(t, begun, was, is)
			ended.see(is)
		}
	}
	mustHaveSeenTalks(t, seen, ended)
}

// mustOnlySettle fails if settling brings one up or down, has one leave, turns the table of one that is down, or forgets what is newer.
func mustOnlySettle(t *testing.T, k talk, was, is impl.Gossip) {
	t.Helper()
	if !slices.Equal(was.Up, is.Up) {
		t.Fatalf("%v: up are %v, then %v", k, was.Up, is.Up)
	}
	for id, x := range was.Tables {
		own, then := x.Members[id], is.Tables[id].Members[id]
		if own.State != then.State || !was.Up[id] && !slices.Equal(x.Members, is.Tables[id].Members) {
			t.Fatalf("%v: %d has %s, then %s", k, id, tableText(x), tableText(is.Tables[id]))
		}
		for i, m := range x.Members {
			if modelBeats(m, is.Tables[id].Members[i]) {
				t.Fatalf("%v: %d forgot %s", k, id, memberText(m))
			}
		}
	}
}

// Promise 18, behind each beginning of some drawn scripts.
func TestEachBeginningOfDrawnTalksSettles(t *testing.T) {
	t.Parallel()
	r := rand.New(rand.NewSource(121))
	for range 25 {
		k := drawTalk(r, impl.MaxScript)
		for moves := range k.script {
			begun := k.upTo(moves)
			mustSayTheSame(t, begun, begun.chat(true))
		}
	}
}

// Who is up, and who left: all ways to be, of up to five, with nothing heard yet, or much of it.
func TestAllCirclesSettle(t *testing.T) {
	t.Parallel()
	for n := 1; n <= 5; n++ {
		ways := 1
		for range n {
			ways *= 4
		}
		for way := range ways {
			for _, ticked := range []int{0, 7, 14} {
				k := circleOf(n, way)
				for range ticked {
					for id := range n {
						k = k.ticks(id, 1)
					}
				}
				k = k.drops(min(way%7*10, impl.MaxScript-len(k.script)-2*n))
				for id, rest := 0, way; id < n; id, rest = id+1, rest/4 {
					if rest%4 >= 2 {
						k = k.leaves(id)
					}
					if rest%2 == 1 {
						k = k.downs(id)
					}
				}
				g := k.chat(true)
				mustBeACircle(t, k, g)
				mustSayTheSame(t, k, g)
			}
		}
	}
}

// What the document does not name for a move's kind plays no part in it; nor does a move of nobody.
func TestFieldsOfMovesThatPlayNoPart(t *testing.T) {
	t.Parallel()
	r := rand.New(rand.NewSource(122))
	for range 200 {
		k := drawTalk(r, impl.MaxScript/2)
		noisy := circleOf(k.n, k.seed)
		for _, m := range k.script {
			switch m.Kind {
			case impl.GoHear, impl.GoDrop:
				m.Who = r.Intn(impl.MaxMembers)
			case impl.GoTick, impl.GoDown, impl.GoUp, impl.GoLeave:
				m.I = r.Intn(impl.MaxNum)
			}
			noisy = noisy.then(1, m)
			if kind := r.Intn(7); kind != impl.GoHear && kind != impl.GoDrop {
				noisy = noisy.then(1, impl.Move{Kind: kind, Who: k.n + r.Intn(impl.MaxMembers-k.n), I: r.Intn(impl.MaxNum)})
			}
		}
		for _, settle := range []bool{false, true} {
			if !sameGossip(noisy.chat(settle), k.chat(settle)) {
				t.Fatalf("%v goes another way than %v", noisy, k)
			}
		}
	}
}

// eachTalk calls f with the talk and each that has up to so many of the moves behind it.
func eachTalk(k talk, moves []impl.Move, most int, f func(k talk)) {
	f(k)
	if most == 0 {
		return
	}
	for _, m := range moves {
		eachTalk(k.then(1, m), moves, most-1, f)
	}
}

// All ways to go on from some talks, by three moves, or by two till all is settled.
func TestAllSmallTalks(t *testing.T) {
	moves := circleOf(3, 0).ticks(0, 1).ticks(1, 1).ticks(2, 1).hears(1).hearsAt(1).hearsAt(2).drops(1).dropsAt(1).
		downs(0).downs(1).ups(0).ups(1).leaves(0, 1, 2).pushes(0, 1).pushes(1, 0).pushes(2, 0).pushes(1, 2).script
	for name, k := range map[string]talk{
		"new":         circleOf(3, 0),
		"asking":      circleOf(3, 1).ticks(0, 1).ticks(1, 1),
		"helped":      circleOf(3, 0).ticks(0, 3),
		"nearly told": circleOf(3, 0).ticks(0, 6).hears(1),
		"doubted":     circleOf(3, 0).ticks(0, 8),
		"all doubt":   circleOf(3, 0).ticks(0, 7).ticks(1, 7).ticks(2, 7),
		"nearly dead": circleOf(3, 0).ticks(0, 12).pushes(0, 2),
		"dead":        circleOf(3, 1).ticks(0, 13).ticks(1, 12),
		"lives again": circleOf(3, 0).ticks(0, 12).pushes(1, 0),
		"left":        circleOf(3, 0).leaves(1).ticks(0, 12),
		"two":         circleOf(2, 0).ticks(0, 12).ticks(1, 1),
		"four":        circleOf(4, 0).ticks(1, 11).pushes(1, 3).pushes(3, 2).ticks(2, 7),
	} {
		t.Run(name, func(t *testing.T) {
			t.Parallel()
			eachTalk(k, moves, 3, func(longer talk) {
				for _, settle := range []bool{false, true} {
					if settle && len(longer.script) > len(k.script)+2 {
						continue
					}
					if g, want := longer.chat(settle), modelChat(longer.n, longer.seed, longer.script, settle); !sameGossip(g, want) {
						t.Fatalf("%v, settle %v:\n%+v\nand not\n%+v", longer, settle, g, want)
					}
				}
			})
		})
	}
}

// The longest script, in which each of six ticks, one behind the other, and packets are heard in turn.
func TestTheLongestTalk(t *testing.T) {
	k := circleOf(6, 11)
	for i := 0; len(k.script) < impl.MaxScript; i++ {
		k = k.ticks(i%6, 2).hears(1)
	}
	if len(k.script) != impl.MaxScript {
		t.Fatalf("%d moves", len(k.script))
	}
	for _, settle := range []bool{false, true} {
		mustChat(t, k, settle)
		if g := k.then(1, impl.Move{}).chat(settle); !same(g, impl.Gossip{}) {
			t.Errorf("one more is %+v", g)
		}
	}
}

func TestMemoryOfCircles(t *testing.T) {
	r := rand.New(rand.NewSource(123))
	for range 60 {
		k := drawTalk(r, 150)
		script := withRoom(k.script)
		for _, settle := range []bool{false, true} {
			mustKeep(t, fmt.Sprintf("%v, settle %v", k, settle), []any{script}, func() []any {
				return []any{impl.Chat(k.n, k.seed, script, settle)}
			})
			if !same(impl.Chat(k.n, k.seed, script, settle), k.chat(settle)) {
				t.Fatalf("%v: told otherwise with room behind the script", k)
			}
		}
	}
	for n := range 8 {
		mustKeep(t, fmt.Sprintf("%d that are new", n), nil, func() []any { return []any{impl.Chat(n, 1, nil, false)} })
	}
	for _, script := range [][]impl.Move{{{}, {Kind: 7}}, make([]impl.Move, impl.MaxScript+1)} {
		refused := withRoom(script)
		mustKeep(t, "refused", []any{refused}, func() []any { return []any{impl.Chat(2, 1, refused, true)} })
	}
}

// Nothing is kept: an earlier answer stays as it was when others are asked for and written over.
func TestNothingOfCirclesIsKept(t *testing.T) {
	k := circleOf(3, 0).ticks(0, 12).pushes(0, 2).leaves(1).ticks(2, 9)
	for _, settle := range []bool{false, true} {
		first, again := k.chat(settle), k.chat(settle)
		again.Up[0], again.Tables[0].Members[1], again.Tables[2].Self = false, impl.Member{Id: 9, State: 9, Life: 9}, 9
		circleOf(4, 9).ticks(0, 20).chat(true)
		if want := modelChat(k.n, k.seed, k.script, settle); !same(first, want) || !same(k.chat(settle), want) {
			t.Error("an answer turned")
		}
	}
}
