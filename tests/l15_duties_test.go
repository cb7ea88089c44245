package tests

import (
	"fmt"
	"math"
	"math/rand"
	"slices"
	"testing"

	"loop.example/g00365/impl"
)

type dutyEdge struct {
	what string
	ok   bool
	duty impl.Duty
}

// eightTimers answers a duty with MaxSess timers, two and two of one moment, all within Ttl 5.
func eightTimers() impl.Duty {
	return dutyOf(5, 10, 3, 11, 4, 11, 1, 12, 2, 12, 7, 14, 8, 14, 5, 15, 6, 15)
}

func dutyEdges() []dutyEdge {
	eight := eightTimers()
	edges := []dutyEdge{
		{"zero", false, impl.Duty{}},
		{"zero but for a timer", false, dutyOf(0, 0, 1, 1)},
		{"no timers, but not nil", true, impl.Duty{Ttl: 1, Wheel: impl.Wheel{Timers: []impl.Timer{}}}},
		{"Now at its most", true, dutyOf(5, impl.MaxNow)},
		{"Now at its most, with timers", true, dutyOf(5, impl.MaxNow, 1, impl.MaxNow+1, 2, impl.MaxNow+5)},

		{"a timer that rings next", true, dutyOf(5, 7, 1, 8)},
		{"a timer just within Ttl", true, dutyOf(5, 7, 1, 12)},
		{"a timer one past Ttl", false, dutyOf(5, 7, 1, 13)},
		{"a timer far past Ttl", false, dutyOf(5, 7, 1, lastAt)},
		{"a timer just within Ttl at 0", true, dutyOf(5, 0, 1, 5)},
		{"a timer one past Ttl at 0", false, dutyOf(5, 0, 1, 6)},
		{"a timer just within Ttl at MaxNow", true, dutyOf(5, impl.MaxNow, 1, impl.MaxNow+5)},
		{"a timer one past Ttl at MaxNow", false, dutyOf(5, impl.MaxNow, 1, impl.MaxNow+6)},
		{"a timer just within Ttl, past MaxNow", true, dutyOf(5, impl.MaxNow-1, 1, impl.MaxNow+4)},
		{"a timer one past Ttl, past MaxNow", false, dutyOf(5, impl.MaxNow-1, 1, impl.MaxNow+5)},
		{"a timer just within Ttl 1", true, dutyOf(1, 7, 1, 8)},
		{"a timer one past Ttl 1", false, dutyOf(1, 7, 1, 9)},
		{"a timer just within MaxTtl", true, dutyOf(1000, 7, 1, 1007)},
		{"a timer one past MaxTtl", false, dutyOf(1000, 7, 1, 1008)},
		{"a timer just within MaxTtl at MaxNow", true, dutyOf(1000, impl.MaxNow, 1, impl.MaxNow+1000)},
		{"a timer one past MaxTtl at MaxNow", false, dutyOf(1000, impl.MaxNow, 1, impl.MaxNow+1001)},
		{"all timers just within Ttl", true, dutyOf(5, 7, 1, 12, 2, 12, 3, 12)},
		{"the last timer one past Ttl", false, dutyOf(5, 7, 1, 11, 2, 12, 3, 13)},
		{"the last two timers past Ttl", false, dutyOf(5, 7, 1, 12, 2, 13, 3, 14)},
		{"all timers past Ttl", false, dutyOf(5, 7, 1, 13, 2, 13, 3, 14)},

		{"MaxSess timers", true, eight},
		{"MaxSess timers, the last one past Ttl", false, dutyOf(4, 10, 3, 11, 4, 11, 1, 12, 2, 12, 7, 14, 8, 14, 5, 14, 6, 15)},
		{"one timer more", false, impl.Duty{Ttl: 5, Wheel: crowd(10, 9)}},
		{"one timer more, all of one moment", false, dutyOf(5, 10, 1, 11, 2, 11, 3, 11, 4, 11, 5, 11, 6, 11, 7, 11, 8, 11, 9, 11)},
		{"as many timers as a wheel may have", false, impl.Duty{Ttl: 1000, Wheel: crowd(10, impl.MaxTimers)}},
		{"more timers than a wheel may have", false, impl.Duty{Ttl: 1000, Wheel: crowd(10, impl.MaxTimers+1)}},
		{"far too many timers", false, impl.Duty{Ttl: 5, Wheel: impl.Wheel{Timers: make([]impl.Timer, 1000000)}}},

		{"Ids that no session has", true, dutyOf(5, 7, 0, 8, impl.MaxIndex+1, 8, impl.MaxNum, 8)},
		{"an Id below 0", false, dutyOf(5, 7, -1, 8)},
		{"an Id past its most", false, dutyOf(5, 7, impl.MaxNum+1, 8)},
		{"Ids alike", false, dutyOf(5, 7, 1, 8, 1, 9)},
		{"timers that go down", false, dutyOf(5, 7, 1, 9, 2, 8)},
		{"timers of one moment that go down", false, dutyOf(5, 7, 2, 8, 1, 8)},
		{"a timer that is over", false, dutyOf(5, 7, 1, 7)},
		{"a timer long over", false, dutyOf(5, 7, 1, 2)},
	}
	for _, c := range []struct {
		ttl int
		ok  bool
	}{{math.MinInt, false}, {-1000, false}, {-1, false}, {0, false}, {1, true}, {2, true}, {999, true}, {1000, true}, {1001, false}, {impl.MaxNow, false}, {impl.MaxNum, false}, {math.MaxInt, false}} {
		edges = append(edges,
			dutyEdge{fmt.Sprintf("Ttl %d", c.ttl), c.ok, dutyOf(c.ttl, 0)},
			dutyEdge{fmt.Sprintf("Ttl %d at 77", c.ttl), c.ok, dutyOf(c.ttl, 77)},
			dutyEdge{fmt.Sprintf("Ttl %d, with a timer", c.ttl), c.ok, dutyOf(c.ttl, 77, 3, 78)},
			dutyEdge{fmt.Sprintf("Ttl %d, with a timer at MaxNow", c.ttl), c.ok, dutyOf(c.ttl, impl.MaxNow, 3, impl.MaxNow+1)},
		)
	}
	return edges
}

// badDuties answers duties of which each is beside what DutyOk wants, each wheel among them that is not WheelOk.
func badDuties() []dutyEdge {
	bad := slices.DeleteFunc(dutyEdges(), func(edge dutyEdge) bool { return edge.ok })
	for _, edge := range wheelEdges() {
		if !edge.ok {
			bad = append(bad,
				dutyEdge{"Ttl 1 and a bad wheel, " + edge.what, false, impl.Duty{Ttl: 1, Wheel: edge.wheel}},
				dutyEdge{"Ttl 1000 and a bad wheel, " + edge.what, false, impl.Duty{Ttl: 1000, Wheel: edge.wheel}},
			)
		}
	}
	return bad
}

func TestDutyOk(t *testing.T) {
	for _, edge := range append(dutyEdges(), badDuties()...) {
		if impl.DutyOk(edge.duty) != edge.ok {
			t.Errorf("DutyOk, %s: not %v", edge.what, edge.ok)
		}
		if modelDutyOk(edge.duty) != edge.ok {
			t.Errorf("the model, %s: not %v", edge.what, edge.ok)
		}
	}
	// A wheel that may be is a duty's only where its timers are few and near.
	for _, edge := range wheelEdges() {
		for _, ttl := range []int{0, 1, 2, 5, 13, 1000, 1001, lastAt} {
			d := impl.Duty{Ttl: ttl, Wheel: edge.wheel}
			if impl.DutyOk(d) != modelDutyOk(d) {
				t.Errorf("DutyOk, Ttl %d, wheel %s: not %v", ttl, edge.what, modelDutyOk(d))
			}
		}
	}
}

func TestHowManyTimersADutyMayHave(t *testing.T) {
	for size := range 45 {
		d := impl.Duty{Ttl: 100, Wheel: crowd(3, size)}
		if impl.DutyOk(d) != (size <= 8) {
			t.Errorf("DutyOk of %d timers is not %v", size, size <= 8)
		}
	}
}

// Of each Ttl the timers may be as far away, and no further, wherever Now is.
func TestHowFarTimersMayBe(t *testing.T) {
	for ttl := 1; ttl <= impl.MaxTtl; ttl++ {
		for _, now := range []int{0, 1, 999, impl.MaxNow - 1, impl.MaxNow} {
			for _, past := range []int{-1, 0, 1} {
				far := now + ttl + past
				if want := past < 1 && far > now; impl.DutyOk(dutyOf(ttl, now, 5, far)) != want {
					t.Fatalf("DutyOk of Ttl %d with a timer at %d, Now %d: not %v", ttl, far, now, want)
				}
			}
		}
	}
}

func TestDutyNew(t *testing.T) {
	for ttl := -3; ttl <= impl.MaxTtl+3; ttl++ {
		want, is := dutyOf(ttl, 0), ttl >= 1 && ttl <= 1000
		if !is {
			want = impl.Duty{}
		}
		got, ok := impl.DutyNew(ttl)
		if ok != is || !same(got, want) || impl.DutyOk(got) != is {
			t.Errorf("DutyNew of %d: %s, %v", ttl, dutyText(got), ok)
		}
		if got, ok := modelDutyNew(ttl); ok != is || !same(got, want) {
			t.Errorf("the model: DutyNew of %d: %s, %v", ttl, dutyText(got), ok)
		}
	}
	for _, ttl := range []int{math.MinInt, -1000, impl.MaxNow, impl.MaxNum, math.MaxInt} {
		if got, ok := impl.DutyNew(ttl); ok || !same(got, impl.Duty{}) {
			t.Errorf("DutyNew of %d: %s, %v", ttl, dutyText(got), ok)
		}
	}
}

func mustBeDuty(t *testing.T, what string, got impl.Duty, want string) {
	t.Helper()
	if dutyText(got) != want {
		t.Errorf("%s: %s, not %s", what, dutyText(got), want)
	}
}

var syncCases = []struct {
	what   string
	d      impl.Duty
	s      impl.State
	turned bool
	is     string
}{
	{"no session and no timer", dutyOf(4, 0), having(), false, "4:0[]"},
	{"no session and no timer, of the empty state", dutyOf(4, 9), impl.State{}, false, "4:9[]"},
	{"no session and no timer at MaxNow", dutyOf(4, impl.MaxNow), having(), false, "4:1000000[]"},

	{"the session is gone", dutyOf(4, 9, 3, 12), having(), true, "4:9[]"},
	{"the session is gone, of the empty state", dutyOf(4, 9, 3, 12), impl.State{}, true, "4:9[]"},
	{"all sessions are gone", eightTimers(), having(), true, "5:10[]"},
	{"the first one is gone", dutyOf(4, 9, 3, 11, 5, 12, 1, 13), having(1, 5), true, "4:9[5@12 1@13]"},
	{"the one in the middle is gone", dutyOf(4, 9, 3, 11, 5, 12, 1, 13), having(1, 3), true, "4:9[3@11 1@13]"},
	{"the last one is gone", dutyOf(4, 9, 3, 11, 5, 12, 1, 13), having(3, 5), true, "4:9[3@11 5@12]"},
	{"all but the first are gone", dutyOf(4, 9, 3, 11, 5, 12, 1, 13), having(3), true, "4:9[3@11]"},
	{"all but the last are gone", dutyOf(4, 9, 3, 11, 5, 12, 1, 13), having(1), true, "4:9[1@13]"},
	{"one of those of one moment is gone", dutyOf(4, 9, 3, 11, 5, 11, 7, 11), having(3, 7), true, "4:9[3@11 7@11]"},
	{"an Id that no session has", dutyOf(4, 9, 0, 11, 2, 11), having(2), true, "4:9[2@11]"},
	{"an Id at its most", dutyOf(4, 9, 2, 11, impl.MaxNum, 11), having(2), true, "4:9[2@11]"},

	{"a session at 0", dutyOf(4, 0), having(3), true, "4:0[3@4]"},
	{"a session at 9", dutyOf(4, 9), having(3), true, "4:9[3@13]"},
	{"a session at MaxNow", dutyOf(4, impl.MaxNow), having(3), true, "4:1000000[3@1000004]"},
	{"a session just ahead of MaxNow", dutyOf(4, impl.MaxNow-1), having(3), true, "4:999999[3@1000003]"},
	{"a session in Ttl 1", dutyOf(1, 9), having(3), true, "1:9[3@10]"},
	{"a session in MaxTtl", dutyOf(1000, 9), having(3), true, "1000:9[3@1009]"},
	{"a session in MaxTtl at MaxNow", dutyOf(1000, impl.MaxNow), having(3), true, "1000:1000000[3@1001000]"},
	{"the least Id", dutyOf(4, 9), having(1), true, "4:9[1@13]"},
	{"the greatest Id", dutyOf(4, 9), having(impl.MaxIndex), true, "4:9[1000000@13]"},
	{"MaxSess sessions", dutyOf(4, 9), having(1, 2, 3, 5, 8, 13, 21, 34), true, "4:9[1@13 2@13 3@13 5@13 8@13 13@13 21@13 34@13]"},
	{"MaxSess sessions at MaxNow", dutyOf(4, impl.MaxNow), having(1, 2, 3, 4, 5, 6, 7, 8), true, "4:1000000[1@1000004 2@1000004 3@1000004 4@1000004 5@1000004 6@1000004 7@1000004 8@1000004]"},
	{"one more, its Id behind", dutyOf(4, 9, 3, 11), having(3, 5), true, "4:9[3@11 5@13]"},
	{"one more, its Id ahead", dutyOf(4, 9, 3, 11), having(1, 3), true, "4:9[3@11 1@13]"},
	{"one more, of the moment of another one", dutyOf(4, 9, 3, 13), having(1, 3), true, "4:9[1@13 3@13]"},
	{"one more, its Id between those of its moment", dutyOf(4, 9, 3, 13, 7, 13), having(3, 5, 7), true, "4:9[3@13 5@13 7@13]"},
	{"the eighth one", dutyOf(4, 9, 1, 10, 2, 10, 3, 11, 4, 11, 5, 12, 6, 12, 8, 13), having(1, 2, 3, 4, 5, 6, 7, 8), true, "4:9[1@10 2@10 3@11 4@11 5@12 6@12 7@13 8@13]"},

	{"one gone, one new", dutyOf(4, 9, 3, 11), having(5), true, "4:9[5@13]"},
	{"one gone, one new at 0", dutyOf(4, 0, 3, 2), having(5), true, "4:0[5@4]"},
	{"one gone, one new at MaxNow", dutyOf(4, impl.MaxNow, 3, impl.MaxNow+2), having(5), true, "4:1000000[5@1000004]"},
	{"one gone, one new, one that stays", dutyOf(4, 9, 3, 11, 7, 12), having(1, 7), true, "4:9[7@12 1@13]"},
	{"several of each", dutyOf(4, 9, 6, 10, 2, 11, 4, 11, 1, 12, 5, 13), having(1, 2, 3, 7), true, "4:9[2@11 1@12 3@13 7@13]"},
	{"MaxSess gone, as many new", eightTimers(), having(11, 12, 13, 14, 15, 16, 17, 18), true, "5:10[11@15 12@15 13@15 14@15 15@15 16@15 17@15 18@15]"},
	{"MaxSess, of which one is another", eightTimers(), having(1, 2, 3, 4, 6, 7, 8, 9), true, "5:10[3@11 4@11 1@12 2@12 7@14 8@14 6@15 9@15]"},

	{"nothing to turn", dutyOf(4, 9, 3, 11, 5, 12, 1, 13), having(1, 3, 5), false, "4:9[3@11 5@12 1@13]"},
	{"nothing to turn, one that is just set", dutyOf(4, 9, 3, 13), having(3), false, "4:9[3@13]"},
	{"nothing to turn, one that rings next", dutyOf(4, 9, 3, 10), having(3), false, "4:9[3@10]"},
	{"nothing to turn at MaxNow", dutyOf(4, impl.MaxNow, 3, impl.MaxNow+1), having(3), false, "4:1000000[3@1000001]"},
	{"nothing to turn of MaxSess", eightTimers(), having(1, 2, 3, 4, 5, 6, 7, 8), false, dutyText(eightTimers())},
}

func TestDutySync(t *testing.T) {
	for _, c := range syncCases {
		if !impl.DutyOk(c.d) || !impl.StateOk(c.s) {
			t.Fatalf("%s: %s, %v", c.what, dutyText(c.d), c.s.Sess)
		}
		got, turned := impl.DutySync(c.d, c.s)
		mustBeDuty(t, "DutySync, "+c.what, got, c.is)
		if turned != c.turned {
			t.Errorf("DutySync, %s: %v", c.what, turned)
		}
		if got, turned := modelDutySync(c.d, c.s); dutyText(got) != c.is || turned != c.turned {
			t.Errorf("the model: DutySync, %s: %s, %v", c.what, dutyText(got), turned)
		}
		if again, turned := impl.DutySync(got, c.s); turned || !same(again, got) {
			t.Errorf("DutySync twice, %s: %s, %v", c.what, dutyText(again), turned)
		}
	}
}

// All that a state has beside the Ids of its sessions plays no part.
func TestDutiesLookAtSessionsAlone(t *testing.T) {
	d := dutyOf(5, 7, 20, 8, 80, 9, 100, 9, 1, 10, 39, 12)
	for _, turn := range stateTurns {
		s := filled()
		turn.do(&s)
		bare := impl.State{Index: impl.MaxIndex}
		for _, session := range s.Sess {
			bare.Sess = append(bare.Sess, impl.Session{Id: session.Id, Delete: !session.Delete})
		}
		if !turn.ok {
			bare = impl.State{Index: -1}
		}
		for _, n := range []int{0, 1, 2, 3, 5, 100} {
			got, shuts := impl.DutyTick(d, s, n)
			want, wanted := impl.DutyTick(d, bare, n)
			if !sameDuty(got, want) || !sameOps(shuts, wanted) || impl.DutyOk(got) != turn.ok {
				t.Errorf("DutyTick by %d, %s: %s, %s, not %s, %s", n, turn.what, dutyText(got), shutTexts(shuts), dutyText(want), shutTexts(wanted))
			}
		}
		got, turned := impl.DutySync(d, s)
		if want, wanted := impl.DutySync(d, bare); !sameDuty(got, want) || turned != wanted {
			t.Errorf("DutySync, %s: %s, %v, not %s, %v", turn.what, dutyText(got), turned, dutyText(want), wanted)
		}
	}
}

func TestDutyRenew(t *testing.T) {
	some := dutyOf(4, 9, 3, 10, 5, 12, 7, 12, 1, 13)
	last := dutyOf(4, impl.MaxNow, 3, impl.MaxNow+1, 1, impl.MaxNow+4)
	whole, end := dutyText(some), dutyText(last)
	for _, c := range []struct {
		what string
		d    impl.Duty
		id   int
		is   string // as it was and false, where this is empty
	}{
		{"nearly over", some, 3, "4:9[5@12 7@12 1@13 3@13]"},
		{"in the middle", some, 5, "4:9[3@10 7@12 1@13 5@13]"},
		{"another one of its moment", some, 7, "4:9[3@10 5@12 1@13 7@13]"},
		{"just set", some, 1, whole},
		{"the only one, nearly over", dutyOf(4, 9, 3, 10), 3, "4:9[3@13]"},
		{"the only one, just set", dutyOf(4, 9, 3, 13), 3, "4:9[3@13]"},
		{"at 0", dutyOf(4, 0, 3, 1), 3, "4:0[3@4]"},
		{"at MaxNow, nearly over", last, 3, "4:1000000[1@1000004 3@1000004]"},
		{"at MaxNow, just set", last, 1, end},
		{"at MaxNow in MaxTtl", dutyOf(1000, impl.MaxNow, 3, impl.MaxNow+1), 3, "1000:1000000[3@1001000]"},
		{"just ahead of MaxNow", dutyOf(4, impl.MaxNow-1, 3, impl.MaxNow), 3, "4:999999[3@1000003]"},
		{"in Ttl 1", dutyOf(1, 9, 3, 10), 3, "1:9[3@10]"},
		{"in MaxTtl", dutyOf(1000, 9, 3, 10), 3, "1000:9[3@1009]"},
		{"the first of MaxSess", eightTimers(), 3, "5:10[4@11 1@12 2@12 7@14 8@14 3@15 5@15 6@15]"},
		{"the last of MaxSess", eightTimers(), 6, dutyText(eightTimers())},
		{"Id 0", dutyOf(4, 9, 0, 10), 0, "4:9[0@13]"},
		{"an Id at its most", dutyOf(4, 9, impl.MaxNum, 10), impl.MaxNum, "4:9[2147483647@13]"},

		{"not there", some, 2, ""},
		{"not there, Id 0", some, 0, ""},
		{"not there, a moment", some, 12, ""},
		{"not there, below 0", some, -1, ""},
		{"not there, far below", some, math.MinInt, ""},
		{"not there, the greatest Id", some, impl.MaxNum, ""},
		{"not there, one more", some, impl.MaxNum + 1, ""},
		{"not there, far above", some, math.MaxInt, ""},
		{"not there, at MaxNow", last, 2, ""},
		{"not there, of MaxSess", eightTimers(), 9, ""},
		{"not there, of none", dutyOf(4, 9), 3, ""},
	} {
		is, ok := c.is, c.is != ""
		if !ok {
			is = dutyText(c.d)
		}
		got, renewed := impl.DutyRenew(c.d, c.id)
		mustBeDuty(t, "DutyRenew, "+c.what, got, is)
		if renewed != ok || !impl.DutyOk(got) {
			t.Errorf("DutyRenew, %s: %s, %v", c.what, dutyText(got), renewed)
		}
		if got, renewed := modelDutyRenew(c.d, c.id); dutyText(got) != is || renewed != ok {
			t.Errorf("the model: DutyRenew, %s: %s, %v", c.what, dutyText(got), renewed)
		}
		if again, twice := impl.DutyRenew(got, c.id); twice != ok || !same(again, got) {
			t.Errorf("DutyRenew twice, %s: %s, %v", c.what, dutyText(again), twice)
		}
	}
}

type tickCase struct {
	what  string
	n     int
	is    string // the zero value, where this is empty
	shuts string
}

func mustTickDuties(t *testing.T, d impl.Duty, s impl.State, cases []tickCase) {
	t.Helper()
	for _, c := range cases {
		is := c.is
		if is == "" {
			is = "0:0[]"
		}
		got, shuts := impl.DutyTick(d, s, c.n)
		mustBeDuty(t, "DutyTick, "+c.what, got, is)
		if shutTexts(shuts) != c.shuts || impl.DutyOk(got) != (c.is != "") {
			t.Errorf("DutyTick, %s: %s, not %s", c.what, shutTexts(shuts), c.shuts)
		}
		if got, shuts := modelDutyTick(d, s, c.n); dutyText(got) != is || shutTexts(shuts) != c.shuts {
			t.Errorf("the model: DutyTick, %s: %s, %s", c.what, dutyText(got), shutTexts(shuts))
		}
	}
}

func TestDutyTick(t *testing.T) {
	d := dutyOf(9, 10, 7, 12, 4, 15, 6, 15, 2, 17, 5, 19)
	mustTickDuties(t, d, having(2, 4, 5, 6, 7), []tickCase{
		{"no moment", 0, "9:10[7@12 4@15 6@15 2@17 5@19]", ""},
		{"just ahead of the first timer", 1, "9:11[7@12 4@15 6@15 2@17 5@19]", ""},
		{"at the first timer", 2, "9:12[4@15 6@15 2@17 5@19 7@21]", "7"},
		{"just behind the first timer", 3, "9:13[4@15 6@15 2@17 5@19 7@22]", "7"},
		{"just ahead of two that ring at once", 4, "9:14[4@15 6@15 2@17 5@19 7@23]", "7"},
		{"at two that ring at once", 5, "9:15[2@17 5@19 4@24 6@24 7@24]", "7 4 6"},
		{"past two that ring at once", 6, "9:16[2@17 5@19 4@25 6@25 7@25]", "7 4 6"},
		{"at one more", 7, "9:17[5@19 2@26 4@26 6@26 7@26]", "7 4 6 2"},
		{"just ahead of the last one", 8, "9:18[5@19 2@27 4@27 6@27 7@27]", "7 4 6 2"},
		{"at the last one", 9, "9:19[2@28 4@28 5@28 6@28 7@28]", "7 4 6 2 5"},
		{"past all", 10, "9:20[2@29 4@29 5@29 6@29 7@29]", "7 4 6 2 5"},
		{"where the first would ring again", 11, "9:21[2@30 4@30 5@30 6@30 7@30]", "7 4 6 2 5"},
		{"where all would ring again", 18, "9:28[2@37 4@37 5@37 6@37 7@37]", "7 4 6 2 5"},
		{"far past all", 1000, "9:1010[2@1019 4@1019 5@1019 6@1019 7@1019]", "7 4 6 2 5"},
		{"one short of MaxNow", impl.MaxNow - 11, "9:999999[2@1000008 4@1000008 5@1000008 6@1000008 7@1000008]", "7 4 6 2 5"},
		{"to MaxNow", impl.MaxNow - 10, "9:1000000[2@1000009 4@1000009 5@1000009 6@1000009 7@1000009]", "7 4 6 2 5"},
		{"one past MaxNow", impl.MaxNow - 9, "", ""},
		{"by MaxNow", impl.MaxNow, "", ""},
		{"far past MaxNow", impl.MaxNum, "", ""},
		{"by the most there is", math.MaxInt, "", ""},
		{"by one below 0", -1, "", ""},
		{"by far below 0", math.MinInt, "", ""},
	})
	mustTickDuties(t, dutyOf(9, 10), having(), []tickCase{
		{"nobody, no moment", 0, "9:10[]", ""},
		{"nobody, some moments", 9, "9:19[]", ""},
		{"nobody, all moments", impl.MaxNow - 10, "9:1000000[]", ""},
		{"nobody, one more", impl.MaxNow - 9, "", ""},
		{"nobody, below 0", -1, "", ""},
	})
	mustTickDuties(t, eightTimers(), having(1, 2, 3, 4, 5, 6, 7, 8), []tickCase{
		{"MaxSess, two ring", 1, "5:11[1@12 2@12 7@14 8@14 5@15 6@15 3@16 4@16]", "3 4"},
		{"MaxSess, four ring", 2, "5:12[7@14 8@14 5@15 6@15 1@17 2@17 3@17 4@17]", "3 4 1 2"},
		{"MaxSess, all ring", 5, "5:15[1@20 2@20 3@20 4@20 5@20 6@20 7@20 8@20]", "3 4 1 2 7 8 5 6"},
	})
	mustTickDuties(t, dutyOf(1, 10, 3, 11, 9, 11), having(3, 9), []tickCase{
		{"Ttl 1, no moment", 0, "1:10[3@11 9@11]", ""},
		{"Ttl 1, one moment", 1, "1:11[3@12 9@12]", "3 9"},
		{"Ttl 1, two moments", 2, "1:12[3@13 9@13]", "3 9"},
	})
	mustTickDuties(t, dutyOf(1000, 0, 3, 1000), having(3), []tickCase{
		{"MaxTtl, just ahead", 999, "1000:999[3@1000]", ""},
		{"MaxTtl, at it", 1000, "1000:1000[3@2000]", "3"},
		{"MaxTtl, to MaxNow", impl.MaxNow, "1000:1000000[3@1001000]", "3"},
	})
}

func TestDutyTickAtTheLastMoments(t *testing.T) {
	mustTickDuties(t, dutyOf(4, impl.MaxNow-1, 5, impl.MaxNow, 2, impl.MaxNow+1), having(2, 5), []tickCase{
		{"no moment ahead of MaxNow", 0, "4:999999[5@1000000 2@1000001]", ""},
		{"the last moment", 1, "4:1000000[2@1000001 5@1000004]", "5"},
		{"one more", 2, "", ""},
	})
	mustTickDuties(t, dutyOf(4, impl.MaxNow, 2, impl.MaxNow+1), having(2), []tickCase{
		{"no moment at MaxNow", 0, "4:1000000[2@1000001]", ""},
		{"one past MaxNow", 1, "", ""},
		{"below 0 at MaxNow", -1, "", ""},
	})
	mustTickDuties(t, dutyOf(4, impl.MaxNow, 2, impl.MaxNow+1), having(3), []tickCase{
		{"one gone, one new at MaxNow", 0, "4:1000000[3@1000004]", ""},
		{"one gone, one new, one past MaxNow", 1, "", ""},
	})
}

// What a state turned ahead of a tick counts in it: who is gone does not ring, who is new has all of Ttl from there on.
func TestDutyTickOfOtherSessions(t *testing.T) {
	d := dutyOf(4, 10, 3, 11, 5, 12, 7, 14)
	for _, c := range []struct {
		what  string
		s     impl.State
		cases []tickCase
	}{
		{"the first one is gone", having(5, 7), []tickCase{
			{"no moment", 0, "4:10[5@12 7@14]", ""},
			{"where it would ring", 1, "4:11[5@12 7@14]", ""},
			{"at the next one", 2, "4:12[7@14 5@16]", "5"},
			{"at the last one", 4, "4:14[5@18 7@18]", "5 7"},
		}},
		{"the last one is gone", having(3, 5), []tickCase{
			{"where it would ring", 4, "4:14[3@18 5@18]", "3 5"},
			{"far on", 50, "4:60[3@64 5@64]", "3 5"},
		}},
		{"all are gone", having(), []tickCase{
			{"no moment", 0, "4:10[]", ""},
			{"where the first would ring", 1, "4:11[]", ""},
			{"far on", 50, "4:60[]", ""},
		}},
		{"one is new", having(3, 5, 6, 7), []tickCase{
			{"no moment", 0, "4:10[3@11 5@12 6@14 7@14]", ""},
			{"just ahead of it", 3, "4:13[6@14 7@14 3@17 5@17]", "3 5"},
			{"at it", 4, "4:14[3@18 5@18 6@18 7@18]", "3 5 6 7"},
		}},
		{"one is new, its Id behind", having(3, 5, 7, 9), []tickCase{
			{"at it", 4, "4:14[3@18 5@18 7@18 9@18]", "3 5 7 9"},
		}},
		{"one is new, its Id ahead", having(1, 3, 5, 7), []tickCase{
			{"just ahead of it", 3, "4:13[1@14 7@14 3@17 5@17]", "3 5"},
			{"at it", 4, "4:14[1@18 3@18 5@18 7@18]", "3 5 1 7"},
		}},
		{"others alone", having(1, 2), []tickCase{
			{"no moment", 0, "4:10[1@14 2@14]", ""},
			{"just ahead of them", 3, "4:13[1@14 2@14]", ""},
			{"at them", 4, "4:14[1@18 2@18]", "1 2"},
			{"one past MaxNow", impl.MaxNow - 9, "", ""},
		}},
		{"one gone, one new", having(2, 5, 7), []tickCase{
			{"just ahead of it", 3, "4:13[2@14 7@14 5@17]", "5"},
			{"at it", 4, "4:14[2@18 5@18 7@18]", "5 2 7"},
		}},
		{"the same number as before, all others", having(11, 12, 13), []tickCase{
			{"at them", 4, "4:14[11@18 12@18 13@18]", "11 12 13"},
		}},
	} {
		for i := range c.cases {
			c.cases[i].what = c.what + ", " + c.cases[i].what
		}
		mustTickDuties(t, d, c.s, c.cases)
	}
}

func TestDutiesThatMayNotBe(t *testing.T) {
	for _, edge := range badDuties() {
		d := edge.duty
		for _, s := range []impl.State{{}, having(1, 2, 5), filled(), {Index: -1}} {
			if got, turned := impl.DutySync(d, s); turned || !same(got, impl.Duty{}) {
				t.Errorf("DutySync, %s: %s, %v", edge.what, dutyText(got), turned)
			}
			for _, n := range []int{-1, 0, 1, 5, impl.MaxNow, math.MaxInt} {
				if got, shuts := impl.DutyTick(d, s, n); len(shuts) > 0 || !same(got, impl.Duty{}) {
					t.Errorf("DutyTick by %d, %s: %s, %s", n, edge.what, dutyText(got), shutTexts(shuts))
				}
			}
		}
		for _, id := range []int{-1, 0, 1, 2, 3, 5, impl.MaxNum, impl.MaxNum + 1} {
			if got, renewed := impl.DutyRenew(d, id); renewed || !same(got, impl.Duty{}) {
				t.Errorf("DutyRenew of %d, %s: %s, %v", id, edge.what, dutyText(got), renewed)
			}
		}
	}
}

func TestDutiesOfStatesThatMayNotBe(t *testing.T) {
	bad := append(badStates(),
		impl.State{Index: -1}, impl.State{Sess: []impl.Session{{Id: 1}}}, having(3, 3), having(5, 3), having(0), having(-1), having(impl.MaxIndex+1),
		having(1, 2, 3, 4, 5, 6, 7, 8, 9))
	for _, s := range bad {
		for _, d := range []impl.Duty{dutyOf(4, 0), dutyOf(4, 9, 3, 11), dutyOf(4, 9, 10, 11, 20, 12), eightTimers()} {
			if got, turned := impl.DutySync(d, s); turned || !same(got, impl.Duty{}) {
				t.Errorf("DutySync of %s with %v: %s, %v", dutyText(d), s.Sess, dutyText(got), turned)
			}
			for _, n := range []int{-1, 0, 1, 5, impl.MaxNow} {
				if got, shuts := impl.DutyTick(d, s, n); len(shuts) > 0 || !same(got, impl.Duty{}) {
					t.Errorf("DutyTick of %s with %v by %d: %s, %s", dutyText(d), s.Sess, n, dutyText(got), shutTexts(shuts))
				}
			}
		}
	}
}

// mustDutyAs holds all that becomes of d against the model, and against DutyOk.
func mustDutyAs(t *testing.T, d impl.Duty, s impl.State, id, n int) {
	t.Helper()
	ok := modelDutyOk(d)
	if impl.DutyOk(d) != ok {
		t.Fatalf("DutyOk of %s is not %v", dutyText(d), ok)
	}
	must := func(what string, got impl.Duty, told any, want impl.Duty, wanted any) {
		t.Helper()
		if !sameDuty(got, want) || told != wanted || impl.DutyOk(got) != (want.Ttl > 0) {
			t.Fatalf("%s of %s with %v: %s, %v, not %s, %v", what, dutyText(d), s.Sess, dutyText(got), told, dutyText(want), wanted)
		}
	}
	got, turned := impl.DutySync(d, s)
	want, wanted := modelDutySync(d, s)
	must("DutySync", got, turned, want, wanted)
	got, turned = impl.DutyRenew(d, id)
	want, wanted = modelDutyRenew(d, id)
	must(fmt.Sprintf("DutyRenew of %d", id), got, turned, want, wanted)
	got, shuts := impl.DutyTick(d, s, n)
	want, wantedShuts := modelDutyTick(d, s, n)
	must(fmt.Sprintf("DutyTick by %d", n), got, shutTexts(shuts), want, shutTexts(wantedShuts))
}

func TestDutiesAtAllEdges(t *testing.T) {
	states := []impl.State{{}, having(1), having(1, 2, 3), having(2, 3, 5, 7, 100), having(1, 2, 3, 4, 5, 6, 7, 8), filled(), having(3, 3)}
	for _, edge := range append(dutyEdges(), badDuties()...) {
		now := edge.duty.Wheel.Now
		for _, s := range states {
			for i, n := range []int{math.MinInt, -1, 0, 1, 2, 4, 5, 6, 1000, impl.MaxNow - now, impl.MaxNow - now + 1, math.MaxInt} {
				mustDutyAs(t, edge.duty, s, []int{-1, 0, 1, 2, 3, 5, impl.MaxNum}[i%7], n)
			}
		}
	}
}

// All duties with up to three timers of a few Ids and moments, most of them bad, with all states of three sessions.
func TestAllSmallDuties(t *testing.T) {
	t.Parallel()
	var states []impl.State
	for picked := range 8 {
		var ids []int
		for id := 1; id <= 3; id++ {
			if picked&(1<<(id-1)) > 0 {
				ids = append(ids, id)
			}
		}
		states = append(states, having(ids...))
	}
	// Each letter is a timer: four Ids, of which 0 is no session's, four moments.
	var letters []byte
	for letter := range byte(16) {
		letters = append(letters, letter)
	}
	good := 0
	eachOver(letters, 3, func(b []byte) {
		var timers []int
		for _, letter := range b {
			timers = append(timers, int(letter%4), 8+int(letter/4))
		}
		for ttl := 0; ttl <= 4; ttl++ {
			d := dutyOf(ttl, 7, timers...)
			if !modelDutyOk(d) {
				mustDutyAs(t, d, states[3], 1, 1)
				continue
			}
			good++
			for i, s := range states {
				for n := -1; n <= 5; n++ {
					mustDutyAs(t, d, s, i%5, n)
				}
			}
		}
	})
	// Each of four Ids has no timer or one of ttl moments; four timers at once are not among them.
	want := 0
	for ttl := 1; ttl <= 4; ttl++ {
		want += (ttl+1)*(ttl+1)*(ttl+1)*(ttl+1) - ttl*ttl*ttl*ttl
	}
	if good != want {
		t.Errorf("%d are good, not %d", good, want)
	}
}

// Promise 21: who renewed is not told ahead of Ttl moments, however they go by; then it is.
func TestARenewedSessionIsShutInTtl(t *testing.T) {
	t.Parallel()
	for _, ttl := range []int{1, 2, 3, 7, 10, 999, 1000} {
		for _, now := range []int{0, 1, 500, impl.MaxNow - ttl - 1, impl.MaxNow - ttl} {
			for _, left := range []int{1, 2, ttl / 2, ttl - 1, ttl} {
				if left < 1 || left > ttl {
					continue
				}
				s := having(3, 5, 9)
				d, ok := impl.DutyRenew(impl.Duty{Ttl: ttl, Wheel: wheelAt(now, map[int]int{3: now + 1, 5: now + left, 9: now + ttl})}, 5)
				if !ok {
					t.Fatalf("Ttl %d: 5 is not renewed", ttl)
				}
				for _, part := range []int{1, 2, 3, ttl - 1, ttl} {
					mustRingInTtl(t, d, s, 5, part)
				}
			}
		}
	}
}

// mustRingInTtl lets moments go by in such parts, and fails unless id, just renewed, is told just behind Ttl of them.
func mustRingInTtl(t *testing.T, d impl.Duty, s impl.State, id, part int) {
	t.Helper()
	from := d.Wheel.Now
	for gone := 0; gone < d.Ttl; {
		// The last moment goes by on its own.
		step := max(1, min(part, d.Ttl-1-gone))
		next, shuts := impl.DutyTick(d, s, step)
		gone += step
		told := slices.ContainsFunc(shuts, func(o impl.Op) bool { return o.Kind == impl.OpShut && o.N == id })
		if told != (gone == d.Ttl) || next.Wheel.Now != from+gone || next.Ttl != d.Ttl {
			t.Fatalf("Ttl %d, in parts of %d: %d moments from %d on %s is told, and %s is left", d.Ttl, part, gone, from, shutTexts(shuts), dutyText(next))
		}
		d = next
	}
	// It was told at the last moment, and has Ttl again.
	if left, is := impl.WheelLeft(d.Wheel, id); !is || left != d.Ttl {
		t.Fatalf("%d rings in %d, %v", id, left, is)
	}
}

// ledger tells promise 21 on its own: of each session the moment from which Ttl counts.
type ledger struct {
	ttl, now int
	since    map[int]int
}

func (l *ledger) sync(s impl.State) {
	is := map[int]int{}
	for _, session := range s.Sess {
		at, has := l.since[session.Id]
		if !has {
			at = l.now
		}
		is[session.Id] = at
	}
	l.since = is
}

// due lets so many moments go by, and answers who was quiet for Ttl of them.
func (l *ledger) due(n int) map[int]int {
	l.now += n
	told := map[int]int{}
	for id, at := range l.since {
		if l.now-at >= l.ttl {
			told[id]++
			l.since[id] = l.now
		}
	}
	return told
}

// mustTickAs lets moments go by for both, and fails unless both tell the same.
func (l *ledger) mustTickAs(t *testing.T, d impl.Duty, s impl.State, n int) (impl.Duty, []impl.Op) {
	t.Helper()
	was := dutyText(d)
	l.sync(s)
	due := l.due(n)
	d, shuts := impl.DutyTick(d, s, n)
	for _, o := range shuts {
		if o.Kind != impl.OpShut || due[o.N] != 1 || !impl.OpOk(o) {
			t.Fatalf("%s by %d with %v: %s is told, not %v", was, n, s.Sess, shutTexts(shuts), due)
		}
		due[o.N]--
	}
	for id, left := range due {
		if left > 0 {
			t.Fatalf("%s by %d with %v: %d is not told, but %s", was, n, s.Sess, id, shutTexts(shuts))
		}
	}
	if !impl.DutyOk(d) || len(d.Wheel.Timers) != len(s.Sess) || d.Wheel.Now != l.now {
		t.Fatalf("%s by %d with %v: %s", was, n, s.Sess, dutyText(d))
	}
	return d, shuts
}

// All short orders of renewing, opening, shutting and moments that go by, of each small Ttl, held against the ledger.
func TestAllSmallLivesOfSessions(t *testing.T) {
	t.Parallel()
	for ttl := 1; ttl <= 4; ttl++ {
		told := 0
		eachOver([]byte{0, 1, 2, 3, 4, 5, 6}, 6, func(b []byte) {
			d, _ := impl.DutyNew(ttl)
			l := &ledger{ttl: ttl, since: map[int]int{}}
			s := having(1)
			for _, turn := range b {
				switch {
				case turn < 3:
					var shuts []impl.Op
					d, shuts = l.mustTickAs(t, d, s, int(turn)+1)
					told += len(shuts)
				case turn == 3:
					s = having(1)
				case turn == 4:
					s = having(1, 2)
				default:
					id := int(turn) - 4
					_, has := l.since[id]
					next, renewed := impl.DutyRenew(d, id)
					if renewed != has {
						t.Fatalf("Ttl %d, %v: DutyRenew of %d in %s: %v", ttl, b, id, dutyText(d), renewed)
					}
					if d = next; has {
						l.since[id] = l.now
					}
				}
			}
		})
		if told < 10000 {
			t.Errorf("Ttl %d: %d were told", ttl, told)
		}
	}
}

// A catalog whose sessions come, hold keys, are renewed or not, and are shut as they are told, or later, or never.
func TestDrawnDuties(t *testing.T) {
	t.Parallel()
	var told, shut, renewed, missed, again, full int
	for seed := range int64(60) {
		r := rand.New(rand.NewSource(1500 + seed))
		ttl := []int{1, 3, 10, 1000}[seed%4]
		d, _ := impl.DutyNew(ttl)
		l := &ledger{ttl: ttl, since: map[int]int{}}
		if seed%3 == 0 {
			d.Wheel.Now = impl.MaxNow - 300*ttl
			l.now = d.Wheel.Now
		}
		var s impl.State
		late := map[int]int{}
		for range 200 {
			id, n := 1+r.Intn(s.Index+1), r.Intn(ttl/2+2)
			if len(s.Sess) > 0 && r.Intn(8) > 0 {
				id = s.Sess[r.Intn(len(s.Sess))].Id
			}
			mustDutyAs(t, d, s, id, n)
			switch kind := r.Intn(10); {
			case kind < 3:
				s = drawnSession(r, s)
			case kind == 3:
				d, _ = impl.DutySync(d, s)
				l.sync(s)
			case kind < 6:
				next, is := impl.DutyRenew(d, id)
				if _, has := l.since[id]; has != is {
					t.Fatalf("DutyRenew of %d in %s: %v", id, dutyText(d), is)
				}
				if d = next; is {
					l.since[id], late[id] = l.now, 0
					renewed++
				} else {
					missed++
				}
			default:
				var shuts []impl.Op
				d, shuts = l.mustTickAs(t, d, s, n)
				told += len(shuts)
				for _, o := range shuts {
					if late[o.N]++; late[o.N] > 1 {
						again++
					}
					if r.Intn(2) == 0 {
						s = mustShut(t, s, o)
						shut++
					}
				}
			}
			if len(d.Wheel.Timers) == impl.MaxSess {
				full++
			}
		}
	}
	if told < 1000 || shut < 500 || renewed < 500 || missed < 100 || again < 100 || full < 100 {
		t.Errorf("%d were told, %d shut, %d renewed, %d not, %d told again, %d times there were MaxSess", told, shut, renewed, missed, again, full)
	}
}

// drawnSession answers s behind a session that opens, shuts, or takes a key.
func drawnSession(r *rand.Rand, s impl.State) impl.State {
	o := op(impl.OpOpen, "", "", r.Intn(2))
	if len(s.Sess) > 0 {
		id := s.Sess[r.Intn(len(s.Sess))].Id
		switch r.Intn(6) {
		case 0:
			o = op(impl.OpShut, "", "", id)
		case 1, 2:
			o = op(impl.OpTake, numbered(r.Intn(20)), "x", id)
		}
	}
	last, _ := impl.LastOf(s, 1)
	s, _ = impl.Apply(s, impl.Cmd{Client: 1, Req: last.Req + 1, Op: o})
	return s
}

// mustShut does what was told: the session is gone, and holds nothing any more.
func mustShut(t *testing.T, s impl.State, o impl.Op) impl.State {
	t.Helper()
	last, _ := impl.LastOf(s, 0)
	next, reply := impl.Apply(s, impl.Cmd{Req: last.Req + 1, Op: o})
	if reply.Code != impl.RpWell || len(next.Sess) != len(s.Sess)-1 || len(impl.Held(next, o.N)) > 0 {
		t.Fatalf("%s is answered %v, and left %v of %v", shutTexts([]impl.Op{o}), reply, next.Sess, s.Sess)
	}
	return next
}

// Who is told and not shut is told again in Ttl; who is shut is told no more.
func TestWhoIsToldIsToldAgain(t *testing.T) {
	s := step(t, step(t, impl.State{}, op(impl.OpOpen, "", "", 1), impl.RpWell), op(impl.OpTake, "a", "x", 1), impl.RpWell)
	d, _ := impl.DutyNew(5)
	d, _ = impl.DutySync(d, s)
	for round := range 10 {
		early, none := impl.DutyTick(d, s, 4)
		next, shuts := impl.DutyTick(early, s, 1)
		if len(none) > 0 || shutTexts(shuts) != "1" {
			t.Fatalf("round %d: %s and %s are told", round, shutTexts(none), shutTexts(shuts))
		}
		d = next
	}
	d, shuts := impl.DutyTick(d, s, 7)
	mustBe(t, "told", shutTexts(shuts), "1")
	s = mustShut(t, s, shuts[0])
	mustBe(t, "tombs", tombTexts(s), "a@3")
	for range 10 {
		if d, shuts = impl.DutyTick(d, s, 1); len(shuts) > 0 || len(d.Wheel.Timers) > 0 {
			t.Fatalf("%s is told still, and %s is left", shutTexts(shuts), dutyText(d))
		}
	}
	if _, is := impl.DutyRenew(d, 1); is {
		t.Error("who is shut is renewed")
	}
}

// What is told goes as lines and comes back, and is done by a cluster's servers as by one state.
func TestDutiesByLinesAndServers(t *testing.T) {
	s := mustCallByLines(t, one(), op(impl.OpOpen, "", "", 0), op(impl.OpOpen, "", "", 1), op(impl.OpTake, "a", "x", 2), op(impl.OpTake, "b", "y", 3))
	state, _ := impl.Follow(mustRun(t, s, false).Facts)
	d, _ := impl.DutyNew(3)
	d, _ = impl.DutyTick(d, state, 2)
	d, _ = impl.DutyRenew(d, 2)
	d, shuts := impl.DutyTick(d, state, 1)
	mustBe(t, "told", shutTexts(shuts), "3")
	r := mustRun(t, mustCallByLines(t, s, shuts...), true)
	state, _ = impl.Follow(r.Facts)
	for _, has := range append(r.States, state) {
		mustBe(t, "rows", rowTexts(has), "a=x@4:2")
		mustBe(t, "tombs", tombTexts(has), "b@6")
		next, turned := impl.DutySync(d, has)
		mustBeDuty(t, "behind it", next, "3:3[2@5]")
		if !turned {
			t.Error("nothing turned")
		}
	}
}

func TestDutiesInMemory(t *testing.T) {
	duties := []impl.Duty{
		{}, dutyOf(4, 0), {Ttl: 4, Wheel: impl.Wheel{Timers: []impl.Timer{}}}, dutyOf(4, 9, 3, 10), dutyOf(4, 9, 3, 11, 5, 12, 1, 13), eightTimers(),
		dutyOf(4, impl.MaxNow, 3, impl.MaxNow+1), dutyOf(0, 9, 3, 10), dutyOf(4, 9, 3, 14), dutyOf(4, 9, 3, 11, 5, 10), {Ttl: 50, Wheel: crowd(0, 9)},
	}
	states := []impl.State{{}, having(3), having(1, 3, 5), having(2, 3, 6), having(1, 2, 3, 4, 5, 6, 7, 8), having(11, 12, 13, 14, 15, 16, 17, 18), filled(), having(5, 3), {Index: -1}}
	for ttl := range 4 {
		mustKeep(t, "DutyNew", nil, func() []any { return two(impl.DutyNew(ttl)) })
	}
	for _, plain := range duties {
		d := withRoom(plain)
		what := dutyText(d)
		mustKeep(t, "DutyOk: "+what, []any{d}, func() []any { return []any{impl.DutyOk(d)} })
		for _, id := range []int{-1, 0, 1, 3, 5, 8, 9, impl.MaxNum} {
			mustKeep(t, fmt.Sprintf("DutyRenew of %d: %s", id, what), []any{d}, func() []any { return two(impl.DutyRenew(d, id)) })
		}
		for _, state := range states {
			s := withRoom(state)
			mustKeep(t, "DutySync: "+what, []any{d, s}, func() []any { return two(impl.DutySync(d, s)) })
			for _, n := range []int{-1, 0, 1, 2, 4, 5, 100, impl.MaxNow} {
				mustKeep(t, fmt.Sprintf("DutyTick by %d: %s", n, what), []any{d, s}, func() []any { return two(impl.DutyTick(d, s, n)) })
				mustDutyAs(t, d, s, 3, n)
			}
		}
	}
}

// What lies behind the length of a duty's timers, or of a state's sessions, is not read, nor written.
func TestDutiesThatAreCutOff(t *testing.T) {
	d := impl.Duty{Ttl: 50, Wheel: crowd(0, 9)}
	d.Wheel.Timers = d.Wheel.Timers[:8]
	if !impl.DutyOk(d) {
		t.Errorf("DutyOk of eight: %s", dutyText(d))
	}
	cut := dutyOf(4, 9, 3, 11, 5, 12, 7, 13)
	cut.Wheel.Timers = cut.Wheel.Timers[:1]
	s := having(1, 3, 5, 7)
	s.Sess = s.Sess[:2]
	synced, turned := impl.DutySync(cut, s)
	mustBeDuty(t, "synced", synced, "4:9[3@11 1@13]")
	if _, is := impl.DutyRenew(cut, 5); is || !turned {
		t.Errorf("5 is renewed: %v, turned: %v", is, turned)
	}
	ticked, shuts := impl.DutyTick(cut, s, 4)
	mustBeDuty(t, "ticked", ticked, "4:13[1@17 3@17]")
	mustBe(t, "told", shutTexts(shuts), "3 1")
	if whole := cut.Wheel.Timers[:3]; !slices.Equal(whole, wheelOf(9, 3, 11, 5, 12, 7, 13).Timers) {
		t.Errorf("behind the timers is %v", whole)
	}
	if whole := s.Sess[:4]; !same(whole, having(1, 3, 5, 7).Sess) {
		t.Errorf("behind the sessions is %v", whole)
	}
}

// Arguments and answers may be written over: nothing else shows it.
func TestNothingOfDutiesIsKept(t *testing.T) {
	s := having(1, 3)
	fresh, _ := impl.DutyNew(4)
	first, _ := impl.DutySync(fresh, s)
	s.Sess[0].Id, s.Sess[1].Id = 2, 4
	still, _ := impl.DutyRenew(first, 9)
	kept, _ := impl.DutySync(first, having(1, 3))
	next, _ := impl.DutyRenew(first, 1)
	last, shuts := impl.DutyTick(first, having(1, 3), 4)
	for _, d := range []impl.Duty{still, kept, next, last} {
		d.Wheel.Timers[0], d.Wheel.Timers[1] = impl.Timer{Id: 99, At: 99}, impl.Timer{Id: 98, At: 98}
	}
	shuts[0].N, shuts[1].Key = 77, []byte("x")
	mustBeDuty(t, "the new one", fresh, "4:0[]")
	mustBeDuty(t, "the first answer", first, "4:0[1@4 3@4]")
	again, told := impl.DutyTick(first, having(1, 3), 4)
	mustBeDuty(t, "the same asked again", again, "4:4[1@8 3@8]")
	mustBe(t, "told", shutTexts(told), "1 3")
}
