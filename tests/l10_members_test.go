package tests

import (
	"fmt"
	"math"
	"math/rand"
	"slices"
	"strings"
	"testing"

	"loop.example/g00365/impl"
)

func TestCodesAndLimitsOfMembers(t *testing.T) {
	if impl.MaxMembers != 12 || impl.MaxLives != 1000 {
		t.Errorf("MaxMembers is %d, MaxLives %d", impl.MaxMembers, impl.MaxLives)
	}
	if codes := []int{impl.MbAlive, impl.MbSuspect, impl.MbDead, impl.MbLeft}; !same(codes, []int{0, 1, 2, 3}) {
		t.Errorf("the codes are %v", codes)
	}
}

func TestMemberOk(t *testing.T) {
	type edge struct {
		n  int
		ok bool
	}
	ids := []edge{{math.MinInt, false}, {-1, false}, {0, true}, {5, true}, {impl.MaxMembers - 1, true}, {impl.MaxMembers, false}, {math.MaxInt, false}}
	states := []edge{{math.MinInt, false}, {impl.MbAlive - 1, false}, {impl.MbAlive, true}, {impl.MbSuspect, true}, {impl.MbDead, true}, {impl.MbLeft, true}, {impl.MbLeft + 1, false}, {math.MaxInt, false}}
	lives := []edge{{math.MinInt, false}, {-1, false}, {0, true}, {1, true}, {impl.MaxLives - 1, true}, {impl.MaxLives, true}, {impl.MaxLives + 1, false}, {math.MaxInt, false}}
	for _, id := range ids {
		for _, state := range states {
			for _, life := range lives {
				m := impl.Member{Id: id.n, State: state.n, Life: life.n}
				ok := id.ok && state.ok && life.ok
				if impl.MemberOk(m) != ok || modelMemberOk(m) != ok {
					t.Errorf("MemberOk of %s is not %v", memberText(m), ok)
				}
			}
		}
	}
}

// badMembers answers members that each have one number out of its bounds.
func badMembers() []impl.Member {
	return []impl.Member{
		{Id: -1}, {Id: impl.MaxMembers}, {Id: math.MinInt}, {Id: math.MaxInt},
		{Id: 4, State: -1}, {Id: 4, State: impl.MbLeft + 1}, {Id: 4, State: math.MaxInt},
		{Id: 4, Life: -1}, {Id: 4, Life: impl.MaxLives + 1}, {Id: 4, Life: math.MinInt}, {Id: 4, Life: math.MaxInt},
		{Id: -1, State: 1, Life: 4}, {Id: impl.MaxMembers, State: impl.MbLeft, Life: impl.MaxLives}, {Id: 0, State: 4, Life: 1}, {Id: 11, State: 2, Life: 1001},
	}
}

type tableEdge struct {
	what  string
	ok    bool
	table impl.Table
}

// allAlive answers a table of so many members, from 0 on.
func allAlive(self, members int) impl.Table {
	t := impl.Table{Self: self}
	for id := range members {
		t.Members = append(t.Members, impl.Member{Id: id, Life: id})
	}
	return t
}

func tableEdges() []tableEdge {
	all := allAlive(3, impl.MaxMembers)
	edges := []tableEdge{
		{"zero", false, impl.Table{}},
		{"no members, but not nil", false, impl.Table{Members: []impl.Member{}}},
		{"no members, another Self", false, impl.Table{Self: 5}},
		{"Self alone", true, tableOf(0, "0a0")},
		{"the last Self alone", true, tableOf(11, "11a0")},
		{"Self below 0", false, tableOf(-1, "0a0")},
		{"Self below 0 among them", false, tableOf(-1, "-1a0 0a0")},
		{"Self above all", false, tableOf(12, "11a0")},
		{"Self above all among them", false, tableOf(12, "11a0 12a0")},
		{"Self far below", false, tableOf(math.MinInt, "0a0 1a0")},
		{"Self far above", false, tableOf(math.MaxInt, "0a0 1a0")},
		{"Self is a place, not an Id", false, tableOf(0, "4a0 5a0")},
		{"Self is a Life, not an Id", false, tableOf(7, "4a7 5a7")},
		{"Self ahead of all", false, tableOf(1, "2a0 4a0 6a0")},
		{"Self between two", false, tableOf(3, "2a0 4a0 6a0")},
		{"Self behind all", false, tableOf(7, "2a0 4a0 6a0")},
		{"Self not among them, all in their last life", false, tableOf(3, "2a1000 4l1000 6d1000")},
		{"Self the first one", true, tableOf(2, "2a0 4a0 6a0")},
		{"Self in the middle", true, tableOf(4, "2a0 4a0 6a0")},
		{"Self the last one", true, tableOf(6, "2a0 4a0 6a0")},

		{"two with one Id", false, tableOf(2, "2a0 4a0 4a0")},
		{"two with one Id, the second newer", false, tableOf(2, "2a0 4a0 4a1")},
		{"two with one Id, the second older", false, tableOf(2, "2a0 4s1 4a1")},
		{"two with one Id, at the beginning", false, tableOf(6, "2a0 2s0 6a0")},
		{"two with one Id, apart", false, tableOf(2, "2a0 4a0 6a0 4a0")},
		{"two selves", false, tableOf(2, "2a0 2l0")},
		{"two with Id 0", false, tableOf(0, "0a0 0a0")},
		{"two with the last Id", false, tableOf(0, "0a0 11a0 11a0")},
		{"two that go down", false, tableOf(2, "4a0 2a0")},
		{"the first two go down", false, tableOf(2, "4a0 2a0 6a0")},
		{"the last two go down", false, tableOf(2, "2a0 6a0 4a0")},
		{"the last one goes down to 0", false, tableOf(2, "2a0 6a0 0a0")},
		{"all go down", false, tableOf(2, "6a0 4a0 2a0")},
		{"Ids with gaps, Lives that go down", true, tableOf(5, "0a9 5a8 11a0")},
		{"others in each State and the first Life", true, tableOf(0, "0a0 1a0 2s0 3d0 4l0")},
		{"others in each State and the last Life", true, tableOf(0, "0a0 1a1000 2s1000 3d1000 4l1000")},
		{"others in each State, Self the last one", true, tableOf(9, "1a3 2s1 3d999 4l0 9l7")},

		{"MaxMembers", true, all},
		{"one more, with an Id above all", false, allAlive(3, impl.MaxMembers+1)},
		{"one more, with the last Id again", false, impl.Table{Self: 3, Members: append(slices.Clone(all.Members), impl.Member{Id: 11})}},
		{"one more, with Id -1", false, impl.Table{Self: 3, Members: slices.Concat([]impl.Member{{Id: -1}}, all.Members)}},
		{"one more, alike", false, impl.Table{Self: 3, Members: append(slices.Clone(all.Members), all.Members[11])}},
		{"one more, the first again", false, impl.Table{Self: 3, Members: append(slices.Clone(all.Members), all.Members[0])}},
		{"MaxMembers, one short and one twice", false, impl.Table{Self: 3, Members: append(slices.Clone(all.Members[:11]), all.Members[10])}},
		{"far too many", false, impl.Table{Members: make([]impl.Member, 1000000)}},
	}
	for id := range impl.MaxMembers {
		edges = append(edges, tableEdge{fmt.Sprintf("MaxMembers, Self %d", id), true, allAlive(id, impl.MaxMembers)})
	}
	edges = append(edges, selfEdges()...)
	for _, m := range badMembers() {
		edges = append(edges,
			tableEdge{"a bad one first: " + memberText(m), false, impl.Table{Self: 9, Members: []impl.Member{m, {Id: 7}, {Id: 9}}}},
			tableEdge{"a bad one in the middle: " + memberText(m), false, impl.Table{Self: 9, Members: []impl.Member{{Id: 1}, m, {Id: 9}}}},
			tableEdge{"a bad one last: " + memberText(m), false, impl.Table{Self: 1, Members: []impl.Member{{Id: 0}, {Id: 1}, m}}},
			tableEdge{"a bad one alone: " + memberText(m), false, impl.Table{Self: m.Id, Members: []impl.Member{m}}},
		)
	}
	return edges
}

// selfEdges answers tables with a Self in each State and at the edges of its Life.
func selfEdges() []tableEdge {
	var edges []tableEdge
	for state := -1; state <= 4; state++ {
		for _, life := range []int{-1, 0, 1, 500, 999, 1000, 1001} {
			self := impl.Member{Id: 4, State: state, Life: life}
			ok := isIn(life, 0, 1000) && (state == 0 || state == 3 || isIn(state, 1, 2) && life == 1000)
			edges = append(edges,
				tableEdge{"a Self alone: " + memberText(self), ok, impl.Table{Self: 4, Members: []impl.Member{self}}},
				tableEdge{"a Self among others: " + memberText(self), ok, impl.Table{Self: 4, Members: []impl.Member{{Id: 1, Life: 1000}, self, {Id: 5, State: 3, Life: 1000}}}},
			)
		}
	}
	return edges
}

func TestTableOk(t *testing.T) {
	for _, edge := range tableEdges() {
		if impl.TableOk(edge.table) != edge.ok {
			t.Errorf("TableOk, %s: not %v", edge.what, edge.ok)
		}
		if modelTableOk(edge.table) != edge.ok {
			t.Errorf("the model, %s: not %v", edge.what, edge.ok)
		}
	}
}

func TestTableNew(t *testing.T) {
	for _, self := range []int{math.MinInt, -2, -1, impl.MaxMembers, impl.MaxMembers + 1, math.MaxInt} {
		if got, ok := impl.TableNew(self); ok || !same(got, impl.Table{}) {
			t.Errorf("TableNew(%d) = %s, %v", self, tableText(got), ok)
		}
	}
	for self := range impl.MaxMembers {
		got, ok := impl.TableNew(self)
		if want := fmt.Sprintf("%d[%da0]", self, self); !ok || tableText(got) != want || !impl.TableOk(got) {
			t.Errorf("TableNew(%d) = %s, %v", self, tableText(got), ok)
		}
	}
}

func TestBeats(t *testing.T) {
	// Of one member, from the oldest on: each one beats just those ahead of it.
	order := strings.Fields("3a0 3s0 3d0 3l0 3a1 3s1 3d1 3l1 3a2 3s2 3d2 3l2 3a999 3s999 3d999 3l999 3a1000 3s1000 3d1000 3l1000")
	for i, a := range order {
		for j, b := range order {
			if got := impl.Beats(memberOf(a), memberOf(b)); got != (i > j) {
				t.Errorf("%s beats %s: %v", a, b, got)
			}
			for _, id := range []int{-1, 0, 2, 4, 11} {
				other := memberOf(b)
				other.Id = id
				if impl.Beats(memberOf(a), other) || impl.Beats(other, memberOf(a)) {
					t.Errorf("%s and %s are told apart", a, memberText(other))
				}
			}
		}
	}
	// Whatever the numbers are: Beats wants no MemberOk.
	numbers := []int{math.MinInt, -5, -1, 0, 1, 3, 4, 1000, 1001, math.MaxInt}
	for _, id := range []int{math.MinInt, -1, 0, 12, math.MaxInt} {
		for i, low := range numbers {
			for j, high := range numbers {
				young, old := impl.Member{Id: id, State: low, Life: high}, impl.Member{Id: id, State: high, Life: low}
				if impl.Beats(young, old) != (j > i) || impl.Beats(old, young) != (i > j) {
					t.Errorf("Lives %d and %d of %d", high, low, id)
				}
				young, old = impl.Member{Id: id, State: high, Life: low}, impl.Member{Id: id, State: low, Life: low}
				if impl.Beats(young, old) != (j > i) || impl.Beats(old, young) != (i > j) {
					t.Errorf("States %d and %d of %d", high, low, id)
				}
			}
		}
	}
}

type heardCase struct {
	what string
	self int
	have string
	said string
	want string // as it was, where it is empty
}

func mustHave(t *testing.T, c heardCase) {
	t.Helper()
	was := tableOf(c.self, c.have)
	if !modelTableOk(was) {
		t.Fatalf("%s: %s is no table", c.what, tableText(was))
	}
	want := was
	if c.want != "" {
		want = tableOf(c.self, c.want)
	}
	got, turned := impl.Heard(was, memberOf(c.said))
	if !same(got, want) || turned != (c.want != "") {
		t.Errorf("%s: %s heard %s: %s, %v, not %s", c.what, tableText(was), c.said, tableText(got), turned, tableText(want))
	}
	// What is said twice is said once.
	if again, turned := impl.Heard(got, memberOf(c.said)); turned || !same(again, got) {
		t.Errorf("%s: %s heard %s twice: %s, %v", c.what, tableText(was), c.said, tableText(again), turned)
	}
}

func TestHeardOfOthers(t *testing.T) {
	for _, c := range []heardCase{
		{"new at the beginning", 4, "2a1 4a2 6s3", "0a0", "0a0 2a1 4a2 6s3"},
		{"new between the first two", 4, "2a1 4a2 6s3", "3s7", "2a1 3s7 4a2 6s3"},
		{"new between the last two", 4, "2a1 4a2 6s3", "5d1000", "2a1 4a2 5d1000 6s3"},
		{"new at the end", 4, "2a1 4a2 6s3", "11l9", "2a1 4a2 6s3 11l9"},
		{"new just behind the end", 4, "2a1 4a2 6s3", "7a0", "2a1 4a2 6s3 7a0"},
		{"the second one, ahead of Self", 4, "4a0", "3a0", "3a0 4a0"},
		{"the second one, behind Self", 4, "4a0", "5a0", "4a0 5a0"},
		{"new in each State: suspect", 0, "0a0", "1s0", "0a0 1s0"},
		{"new in each State: dead", 0, "0a0", "1d0", "0a0 1d0"},
		{"new in each State: left", 0, "0a0", "1l0", "0a0 1l0"},
		{"new in the last life", 0, "0a0", "1a1000", "0a0 1a1000"},
		{"the twelfth", 0, "0a0 1a0 2a0 3a0 4a0 5a0 6a0 7a0 8a0 9a0 11a0", "10s2", "0a0 1a0 2a0 3a0 4a0 5a0 6a0 7a0 8a0 9a0 10s2 11a0"},
		{"the same", 0, "0a0 1s5", "1s5", ""},
		{"a lower State", 0, "0a0 1s5", "1a5", ""},
		{"a greater State", 0, "0a0 1s5", "1d5", "0a0 1d5"},
		{"the greatest State", 0, "0a0 1s5", "1l5", "0a0 1l5"},
		{"suspect", 0, "0a0 1a5", "1s5", "0a0 1s5"},
		{"a life below, alive", 0, "0a0 1s5", "1a4", ""},
		{"a life below, left", 0, "0a0 1s5", "1l4", ""},
		{"a life above, alive", 0, "0a0 1s5", "1a6", "0a0 1a6"},
		{"a life above, suspect", 0, "0a0 1a5", "1s6", "0a0 1s6"},
		{"a life above, of who was dead", 0, "0a0 1d5", "1a6", "0a0 1a6"},
		{"a life above, of who had left", 0, "0a0 1l5", "1a6", "0a0 1a6"},
		{"the same life, of who was dead", 0, "0a0 1d5", "1a5", ""},
		{"the same life, of who had left", 0, "0a0 1l5", "1d5", ""},
		{"left, of who was dead", 0, "0a0 1d5", "1l5", "0a0 1l5"},
		{"the last life", 0, "0a0 1l999", "1a1000", "0a0 1a1000"},
		{"dead in the last life", 0, "0a0 1a1000", "1d1000", "0a0 1d1000"},
		{"alive in the last life, of who was dead in it", 0, "0a0 1d1000", "1a1000", ""},
		{"another one than Self in its last life", 0, "0a1000 1a5 2a6", "1d5", "0a1000 1d5 2a6"},
		{"the first one", 4, "2a1 4a2 6s3", "2s1", "2s1 4a2 6s3"},
		{"the last one", 4, "2a1 4a2 6s3", "6a4", "2a1 4a2 6a4"},
	} {
		mustHave(t, c)
	}
}

// heardOfSelf: what a table with Self alone in this State and Life makes of what is said of it; - where nothing turns.
var heardOfSelf = []struct{ have, answers string }{
	{"4a0", "a0:- s0:a1 d0:a1 l0:a1 a1:a1 s1:a2 d1:a2 l1:a2 a998:a998 s998:a999 a999:a999 s999:a1000 d999:a1000 l999:a1000 a1000:a1000 s1000:s1000 d1000:d1000 l1000:l1000"},
	{"4a7", "a6:- s6:- d6:- l6:- a7:- s7:a8 d7:a8 l7:a8 a8:a8 s8:a9 d8:a9 l8:a9 a0:- l0:- s999:a1000 a1000:a1000 s1000:s1000 d1000:d1000 l1000:l1000"},
	{"4a998", "a997:- l997:- a998:- s998:a999 d998:a999 l998:a999 a999:a999 s999:a1000 d999:a1000 l999:a1000 a1000:a1000 s1000:s1000 d1000:d1000 l1000:l1000"},
	{"4a999", "l998:- a999:- s999:a1000 d999:a1000 l999:a1000 a1000:a1000 s1000:s1000 d1000:d1000 l1000:l1000"},
	{"4a1000", "a999:- s999:- d999:- l999:- a1000:- s1000:s1000 d1000:d1000 l1000:l1000"},
	{"4s1000", "l999:- a1000:- s1000:- d1000:d1000 l1000:l1000"},
	{"4d1000", "l999:- a1000:- s1000:- d1000:- l1000:l1000"},
	{"4l0", "a0:- s0:- d0:- l0:- a1:l1 s1:l1 d1:l1 l1:l1 a7:l7 a999:l999 s999:l999 d999:l999 l999:l999 a1000:a1000 s1000:s1000 d1000:d1000 l1000:l1000"},
	{"4l7", "a6:- s6:- d6:- l6:- a7:- s7:- d7:- l7:- a8:l8 s8:l8 d8:l8 l8:l8 s999:l999 a1000:a1000 s1000:s1000 d1000:d1000 l1000:l1000"},
	{"4l998", "l998:- a999:l999 s999:l999 d999:l999 l999:l999 a1000:a1000 s1000:s1000 d1000:d1000 l1000:l1000"},
	{"4l999", "a999:- s999:- d999:- l999:- a1000:a1000 s1000:s1000 d1000:d1000 l1000:l1000"},
	{"4l1000", "a999:- l999:- a1000:- s1000:- d1000:- l1000:-"},
}

func TestHeardOfSelf(t *testing.T) {
	for _, c := range heardOfSelf {
		for _, answer := range strings.Fields(c.answers) {
			said, want, _ := strings.Cut(answer, ":")
			alone, among := heardCase{"alone", 4, c.have, "4" + said, ""}, heardCase{"among others", 4, "1s3 " + c.have + " 5d1000", "4" + said, ""}
			if want != "-" {
				alone.want, among.want = "4"+want, "1s3 4"+want+" 5d1000"
			}
			mustHave(t, alone)
			mustHave(t, among)
		}
	}
}

// allSaid answers what each function tells of a table, a member, an Id and another table.
func allSaid(x impl.Table, m impl.Member, o impl.Table) []any {
	return slices.Concat(
		[]any{impl.TableOk(x), impl.Live(x), impl.Agree(x, o)},
		two(impl.Heard(x, m)), two(impl.Suspect(x, m.Id)), two(impl.Bury(x, m.Id)),
		two(impl.Leave(x)), two(impl.MemberOf(x, m.Id)), two(impl.Merge(x, o)),
	)
}

func modelSaid(x impl.Table, m impl.Member, o impl.Table) []any {
	return slices.Concat(
		[]any{modelTableOk(x), modelLive(x), modelAgree(x, o)},
		two(modelHeard(x, m)), two(modelDoubt(x, m.Id, 1, 0)), two(modelDoubt(x, m.Id, 2, 0, 1)),
		two(modelLeave(x)), two(modelMemberOf(x, m.Id)), two(modelMerge(x, o)),
	)
}

func mustSayAs(t *testing.T, x impl.Table, m impl.Member, o impl.Table) {
	t.Helper()
	if got, want := allSaid(x, m, o), modelSaid(x, m, o); !same(got, want) {
		t.Fatalf("%s, %s, %s:\n%v, not\n%v", tableText(x), memberText(m), tableText(o), got, want)
	}
}

// Each function at each table of the list, good or bad, with good and bad members and tables beside it.
func TestTablesAtEdges(t *testing.T) {
	t.Parallel()
	members := badMembers()
	for _, text := range strings.Fields("0a0 1s0 2a1 3d5 4a0 4s0 4l999 4s1000 4d1000 4l1000 5a1000 6l2 9a0 10s999 11a0 11l1000") {
		members = append(members, memberOf(text))
	}
	others := []impl.Table{{}, tableOf(0, "0a0"), tableOf(4, "1a0 4l999 9s1000"), tableOf(9, "2d4 4s1000 9l3"), tableOf(4, "4s999"), tableOf(3, "4a0"), allAlive(3, 12), allAlive(3, 13)}
	for _, edge := range tableEdges() {
		for _, m := range members {
			for _, o := range others {
				mustSayAs(t, edge.table, m, o)
			}
		}
	}
}

func TestBadTablesAndMembersAreRefused(t *testing.T) {
	good := tableOf(4, "2a1 4a2 6s3")
	none := []any{impl.Table{}, false}
	for _, m := range badMembers() {
		if got := two(impl.Heard(good, m)); !same(got, none) {
			t.Errorf("%s was heard: %v", memberText(m), got)
		}
	}
	for _, edge := range tableEdges() {
		if edge.ok {
			continue
		}
		for _, m := range append(badMembers(), impl.Member{Id: 2}, impl.Member{Id: 4, State: 2, Life: 5}, impl.Member{Id: 6, Life: 1000}) {
			for _, got := range [][]any{
				two(impl.Heard(edge.table, m)), two(impl.Suspect(edge.table, m.Id)), two(impl.Bury(edge.table, m.Id)),
				two(impl.Leave(edge.table)), two(impl.Merge(edge.table, good)), two(impl.Merge(good, edge.table)), two(impl.Merge(edge.table, edge.table)),
			} {
				if !same(got, none) {
					t.Errorf("%s, %s: answered %v", edge.what, memberText(m), got)
				}
			}
			if got, is := impl.MemberOf(edge.table, m.Id); is || got != (impl.Member{}) {
				t.Errorf("%s: MemberOf(%d) = %v, %v", edge.what, m.Id, got, is)
			}
		}
		if live := impl.Live(edge.table); len(live) > 0 {
			t.Errorf("%s: %v live", edge.what, live)
		}
		if impl.Agree(edge.table, edge.table) || impl.Agree(edge.table, good) || impl.Agree(good, edge.table) {
			t.Errorf("%s: agrees", edge.what)
		}
	}
}

func TestSuspectAndBury(t *testing.T) {
	x := tableOf(4, "0a3 1s0 2d7 3l9 4a2 6a1000 7s1000 11a0")
	whole := tableText(x)
	for _, c := range []struct {
		what            string
		id              int
		suspect, buried string
	}{
		{"alive", 0, "0s3", "0d3"},
		{"suspect", 1, "", "1d0"},
		{"dead", 2, "", ""},
		{"left", 3, "", ""},
		{"Self", 4, "", ""},
		{"not there", 5, "", ""},
		{"alive in the last life", 6, "6s1000", "6d1000"},
		{"suspect in the last life", 7, "", "7d1000"},
		{"the last one", 11, "11s0", "11d0"},
		{"not there, at the end", 10, "", ""},
		{"below 0", -1, "", ""},
		{"above all", 12, "", ""},
		{"far below", math.MinInt, "", ""},
		{"far above", math.MaxInt, "", ""},
	} {
		for _, done := range []struct {
			name, becomes string
			call          func(impl.Table, int) (impl.Table, bool)
		}{{"Suspect", c.suspect, impl.Suspect}, {"Bury", c.buried, impl.Bury}} {
			want := whole
			if was, is := membersOf(x)[c.id]; is && done.becomes != "" {
				want = strings.Replace(whole, memberText(was), done.becomes, 1)
			}
			got, turned := done.call(x, c.id)
			if tableText(got) != want || turned != (done.becomes != "") {
				t.Errorf("%s, %s: %s, %v, not %s", done.name, c.what, tableText(got), turned, want)
			}
			if again, turned := done.call(got, c.id); turned || !same(again, got) {
				t.Errorf("%s, %s, twice: %s, %v", done.name, c.what, tableText(again), turned)
			}
		}
	}
	// A Self in its last life may be doubted by others, never by itself.
	for _, self := range []string{"4a1000", "4s1000", "4d1000", "4l1000", "4a0", "4l0"} {
		x := tableOf(4, "0a0 "+self)
		for _, got := range [][]any{two(impl.Suspect(x, 4)), two(impl.Bury(x, 4))} {
			if !same(got, []any{x, false}) {
				t.Errorf("Self as %s: %v", self, got)
			}
		}
	}
}

func TestLeave(t *testing.T) {
	for _, c := range []struct{ have, want string }{
		{"4a0", "4l0"}, {"4a7", "4l7"}, {"4a999", "4l999"}, {"4a1000", "4l1000"}, {"4s1000", "4l1000"}, {"4d1000", "4l1000"},
		{"4l0", ""}, {"4l7", ""}, {"4l1000", ""},
	} {
		for _, form := range []string{"%s", "1a0 %s", "%s 5s3", "1d9 %s 5l3"} {
			x := tableOf(4, fmt.Sprintf(form, c.have))
			want := x
			if c.want != "" {
				want = tableOf(4, fmt.Sprintf(form, c.want))
			}
			got, turned := impl.Leave(x)
			if !same(got, want) || turned != (c.want != "") {
				t.Errorf("Leave of %s: %s, %v", tableText(x), tableText(got), turned)
			}
			if again, turned := impl.Leave(got); turned || !same(again, got) {
				t.Errorf("Leave of %s twice: %s, %v", tableText(x), tableText(again), turned)
			}
		}
	}
}

func TestMemberOfAndLive(t *testing.T) {
	x := tableOf(4, "0a3 1s5 2d7 3l9 4a2 6a1000 7s1000 8d1000 11l0")
	for _, id := range []int{math.MinInt, -1, 0, 1, 2, 3, 4, 5, 6, 7, 8, 9, 10, 11, 12, math.MaxInt} {
		want, there := membersOf(x)[id]
		if got, is := impl.MemberOf(x, id); got != want || is != there {
			t.Errorf("MemberOf(%d) = %v, %v", id, got, is)
		}
	}
	for _, c := range []struct {
		self int
		have string
		live []int
	}{
		{4, "0a3 1s5 2d7 3l9 4a2 6a1000 7s1000 8d1000 11l0", []int{0, 1, 4, 6, 7}},
		{0, "0a0", []int{0}}, {0, "0l0", nil}, {0, "0d1000", nil}, {0, "0s1000", []int{0}}, {11, "11a0", []int{11}},
		{5, "1d0 2l0 5l0 9d3", nil}, {5, "1d0 2l0 5l0 9s3", []int{9}}, {5, "1s0 2l0 5l0 9d3", []int{1}},
		{0, "0a0 1a0 2a0 3a0 4a0 5a0 6a0 7a0 8a0 9a0 10a0 11a0", []int{0, 1, 2, 3, 4, 5, 6, 7, 8, 9, 10, 11}},
	} {
		if got := impl.Live(tableOf(c.self, c.have)); !same(got, c.live) {
			t.Errorf("Live of %s is %v", c.have, got)
		}
	}
}

func TestMerge(t *testing.T) {
	for _, c := range []struct {
		what  string
		self  int
		have  string
		other int
		says  string
		want  string
	}{
		{"the same members, one newer", 1, "1a0 3s2", 3, "1a0 3a5", "1a0 3a5"},
		{"the same members, nothing newer", 1, "1a0 3a2", 3, "1a0 3a2", ""},
		{"the same table", 1, "1a0 3s2", 1, "1a0 3s2", ""},
		{"fewer, all older", 1, "1a4 3a2 5d1", 3, "3a1", ""},
		{"fewer, newer", 1, "1a4 3a2 5d1", 3, "3l2", "1a4 3l2 5d1"},
		{"more", 3, "3a1", 1, "1a4 3a0 5d1", "1a4 3a1 5d1"},
		{"more on all sides", 3, "3a1 6s0", 4, "0a0 4a0 8l3", "0a0 3a1 4a0 6s0 8l3"},
		{"others", 3, "3a1", 4, "4a1", "3a1 4a1"},
		{"each one's newer ones", 3, "1a5 2s4 3a0 4d3", 1, "1a6 2a4 3a0 4a4", "1a6 2s4 3a0 4a4"},
		{"just the last one is newer", 3, "1a5 2s4 3a0 4d3", 1, "1a5 2a4 3a0 4l3", "1a5 2s4 3a0 4l3"},
		{"just the first one is newer", 3, "1a5 2s4 3a0 4d3", 1, "1a6 2a4 3a0 4a3", "1a6 2s4 3a0 4d3"},
		{"Self is dead to it", 3, "3a1", 4, "3d1 4a0", "3a2 4a0"},
		{"Self is suspect to it, in a later life", 3, "3a1 4a0", 4, "3s7 4a0", "3a8 4a0"},
		{"Self is alive to it, in a later life", 3, "3a1 4a0", 4, "3a7 4a0", "3a7 4a0"},
		{"Self has left to it", 3, "3a1 4a0", 4, "3l1 4a0", "3a2 4a0"},
		{"Self is dead to it in an earlier life", 3, "3a1 4a0", 4, "3d0 4a0", ""},
		{"Self has left, and is alive to it", 3, "3l1 4a0", 4, "3a1 4a0", ""},
		{"Self has left, and is alive to it in a later life", 3, "3l1 4a0", 4, "3a2 4a0", "3l2 4a0"},
		{"Self is dead to it in the last life but one", 3, "3a1 4a0", 4, "3d999 4a0", "3a1000 4a0"},
		{"Self is dead to it in the last life", 3, "3a1000 4a0", 4, "3d1000 4a0", "3d1000 4a0"},
		{"a life that would be one too many", 3, "3a1 4a0", 4, "3d1000 4a0", "3d1000 4a0"},
		{"its Self is dead to it", 3, "3a1 4a0", 4, "3a1 4d1000", "3a1 4d1000"},
		{"its Self has left", 3, "3a1 4s6", 4, "3a1 4l6", "3a1 4l6"},
		{"two tables of one Self", 3, "3a1", 3, "3a5", "3a5"},
		{"two tables of one Self, one left", 3, "3a1", 3, "3l1", "3a2"},
	} {
		x, o := tableOf(c.self, c.have), tableOf(c.other, c.says)
		if !modelTableOk(x) || !modelTableOk(o) {
			t.Fatalf("%s: no tables", c.what)
		}
		want := x
		if c.want != "" {
			want = tableOf(c.self, c.want)
		}
		got, turned := impl.Merge(x, o)
		if !same(got, want) || turned != (c.want != "") {
			t.Errorf("%s: %s with %s: %s, %v", c.what, tableText(x), tableText(o), tableText(got), turned)
		}
		mustTakeNoMore(t, got, o)
	}
}

// mustTakeNoMore fails if merged, which merged o, has still something to take of it.
func mustTakeNoMore(t *testing.T, merged, o impl.Table) {
	t.Helper()
	if again, turned := impl.Merge(merged, o); turned || !same(again, merged) {
		t.Fatalf("%s with %s once more: %s, %v", tableText(merged), tableText(o), tableText(again), turned)
	}
	if again, turned := impl.Merge(merged, merged); turned || !same(again, merged) {
		t.Fatalf("%s with itself: %s, %v", tableText(merged), tableText(again), turned)
	}
	for _, m := range o.Members {
		if known, is := impl.MemberOf(merged, m.Id); !is || impl.Beats(m, known) {
			t.Fatalf("%s has %s, and is to have %s", tableText(merged), memberText(known), memberText(m))
		}
	}
}

func TestAgree(t *testing.T) {
	x := tableOf(3, "1a5 3a2 4s1000 9d0")
	for _, c := range []struct {
		what  string
		agree bool
		o     impl.Table
	}{
		{"itself", true, x},
		{"another Self", true, tableOf(1, "1a5 3a2 4s1000 9d0")},
		{"another Self in its last life", true, tableOf(4, "1a5 3a2 4s1000 9d0")},
		{"another Self that may not be", false, tableOf(9, "1a5 3a2 4s1000 9d0")},
		{"a Self that is not there", false, tableOf(2, "1a5 3a2 4s1000 9d0")},
		{"the first one's State", false, tableOf(3, "1s5 3a2 4s1000 9d0")},
		{"the last one's State", false, tableOf(3, "1a5 3a2 4s1000 9l0")},
		{"Self's State", false, tableOf(3, "1a5 3l2 4s1000 9d0")},
		{"the first one's Life", false, tableOf(3, "1a6 3a2 4s1000 9d0")},
		{"the last one's Life", false, tableOf(3, "1a5 3a2 4s1000 9d1")},
		{"Self's Life", false, tableOf(3, "1a5 3a3 4s1000 9d0")},
		{"one Id", false, tableOf(3, "0a5 3a2 4s1000 9d0")},
		{"the last one lacks", false, tableOf(3, "1a5 3a2 4s1000")},
		{"the first one lacks", false, tableOf(3, "3a2 4s1000 9d0")},
		{"one more at the end", false, tableOf(3, "1a5 3a2 4s1000 9d0 10a0")},
		{"one more at the beginning", false, tableOf(3, "0a0 1a5 3a2 4s1000 9d0")},
		{"not in order", false, tableOf(3, "3a2 1a5 4s1000 9d0")},
		{"none", false, impl.Table{}},
	} {
		if impl.Agree(x, c.o) != c.agree || impl.Agree(c.o, x) != c.agree {
			t.Errorf("%s: not %v", c.what, c.agree)
		}
	}
	if impl.Agree(impl.Table{}, impl.Table{}) {
		t.Error("two that are no tables agree")
	}
}

// smallTables answers all good tables of the Ids below, each not there or in each State with one of the lives.
func smallTables(ids int, lives ...int) []impl.Table {
	lists := []impl.Table{{}}
	for id := range ids {
		for _, list := range lists {
			for state := range 4 {
				for _, life := range lives {
					more := append(slices.Clone(list.Members), impl.Member{Id: id, State: state, Life: life})
					lists = append(lists, impl.Table{Members: more})
				}
			}
		}
	}
	var tables []impl.Table
	for _, list := range lists {
		for self := range ids {
			list.Self = self
			if modelTableOk(list) {
				tables = append(tables, list)
			}
		}
	}
	return tables
}

// Promise 16, in all small tables: whatever is heard is heard once, and nothing that was newer goes.
func TestAllSmallTablesHear(t *testing.T) {
	t.Parallel()
	lives := []int{0, 1, 998, 999, 1000}
	tables := smallTables(2, lives...)
	// A Self is alive or left in each life, or in doubt in the last one; the other one is in each State and life, or not there.
	if want := 2 * (2*5 + 2) * (4*5 + 1); len(tables) != want {
		t.Fatalf("%d tables, not %d", len(tables), want)
	}
	for _, x := range tables {
		for id := range 3 {
			for state := range 4 {
				for _, life := range lives {
					m := impl.Member{Id: id, State: state, Life: life}
					mustSayAs(t, x, m, x)
					got, turned := impl.Heard(x, m)
					mustBeNewer(t, x, got, turned)
					mustStandBySelf(t, x, got, m.Id == x.Self && m.Life == impl.MaxLives)
					if again, turned := impl.Heard(got, m); turned || !same(again, got) {
						t.Fatalf("%s heard %s twice: %s", tableText(x), memberText(m), tableText(again))
					}
					if known, is := impl.MemberOf(got, id); !is || impl.Beats(m, known) {
						t.Fatalf("%s heard %s, and has %s", tableText(x), memberText(m), memberText(known))
					}
				}
			}
		}
	}
}

// mustBeNewer fails if is, which came of was, is no table, lacks or has an older one of was's members, or turned is wrong.
func mustBeNewer(t *testing.T, was, is impl.Table, turned bool) {
	t.Helper()
	if !impl.TableOk(is) || is.Self != was.Self || turned == same(was, is) {
		t.Fatalf("%s became %s, turned %v", tableText(was), tableText(is), turned)
	}
	for _, m := range was.Members {
		if known, there := impl.MemberOf(is, m.Id); !there || impl.Beats(m, known) {
			t.Fatalf("%s became %s: %s is forgotten", tableText(was), tableText(is), memberText(m))
		}
	}
}

// mustStandBySelf fails if a Self that was alive, or had left, is not so any more, though what was said left it a life to say so in.
func mustStandBySelf(t *testing.T, was, is impl.Table, lastLife bool) {
	t.Helper()
	before, _ := impl.MemberOf(was, was.Self)
	after, _ := impl.MemberOf(is, is.Self)
	if !lastLife && before.State != after.State {
		t.Fatalf("%s became %s: Self was %s", tableText(was), tableText(is), memberText(before))
	}
}

// Promise 16, in all pairs of small tables: who merged has nothing more to take, and who merged back and forth agrees.
func TestAllSmallTablesMerge(t *testing.T) {
	t.Parallel()
	tables := smallTables(2, 0, 999, 1000)
	for _, x := range tables {
		for _, o := range tables {
			got, turned := impl.Merge(x, o)
			if want, model := modelMerge(x, o); !same(got, want) || turned != model {
				t.Fatalf("%s with %s: %s, %v, not %s", tableText(x), tableText(o), tableText(got), turned, tableText(want))
			}
			mustBeNewer(t, x, got, turned)
			mustTakeNoMore(t, got, o)
			if impl.Agree(x, o) != modelAgree(x, o) {
				t.Fatalf("%s and %s: not %v", tableText(x), tableText(o), modelAgree(x, o))
			}
			if x.Self != o.Self {
				mustComeToAgree(t, got, o)
			}
		}
	}
}

// mustComeToAgree merges to and fro, first into o: merged has merged o already.
func mustComeToAgree(t *testing.T, merged, o impl.Table) {
	t.Helper()
	back, _ := impl.Merge(o, merged)
	last, _ := impl.Merge(merged, back)
	if !impl.Agree(last, back) {
		t.Fatalf("%s and %s came to %s and %s", tableText(merged), tableText(o), tableText(last), tableText(back))
	}
}

// drawMember draws one whose Life is near that of what is known, or at the end of all lives.
func drawMember(r *rand.Rand, x impl.Table, most int) impl.Member {
	m := impl.Member{Id: r.Intn(impl.MaxMembers), State: r.Intn(4), Life: r.Intn(4)}
	if known, is := impl.MemberOf(x, m.Id); is && r.Intn(4) > 0 {
		m.Life = known.Life + r.Intn(4) - 1
	}
	m.Life = min(max(m.Life, 0), most)
	return m
}

// Promise 16, in drawn turns of tables that speak of one another, held against the model at each.
func TestDrawnTurnsOfTables(t *testing.T) {
	t.Parallel()
	turns, answered, doubted, largest := 0, 0, 0, 0
	for seed := range int64(60) {
		r := rand.New(rand.NewSource(1000 + seed))
		most := []int{3, 20, impl.MaxLives}[seed%3]
		tables := drawTables(r, seed%2 == 1)
		for range 400 {
			i, j := r.Intn(len(tables)), r.Intn(len(tables))
			was, o := tables[i], tables[j]
			m := drawMember(r, was, most)
			mustSayAs(t, was, m, o)
			is, turned, lastLife := was, false, false
			switch kind := r.Intn(20); {
			case kind < 9:
				is, turned = impl.Heard(was, m)
				lastLife = m.Id == was.Self && m.Life == impl.MaxLives
			case kind < 13:
				is, turned = impl.Merge(was, o)
				mustTakeNoMore(t, is, o)
				said, _ := impl.MemberOf(o, was.Self)
				lastLife = said.Life == impl.MaxLives
			case kind < 16:
				is, turned = impl.Suspect(was, m.Id)
			case kind < 19:
				is, turned = impl.Bury(was, m.Id)
			default:
				lastLife = true
				if r.Intn(10) == 0 {
					is, turned = impl.Leave(was)
				}
			}
			mustBeNewer(t, was, is, turned)
			mustStandBySelf(t, was, is, lastLife)
			before, _ := impl.MemberOf(was, was.Self)
			after, _ := impl.MemberOf(is, is.Self)
			switch {
			case after.State == impl.MbAlive && after.Life > before.Life:
				answered++
			case after.State == impl.MbSuspect || after.State == impl.MbDead:
				doubted++
			}
			if turned {
				turns++
			}
			tables[i] = is
			largest = max(largest, len(is.Members))
		}
	}
	if turns < 5000 || answered < 300 || doubted < 100 || largest != impl.MaxMembers {
		t.Errorf("%d turned, %d answered for themselves, %d were in doubt of themselves, %d members at most", turns, answered, doubted, largest)
	}
}

// drawTables answers tables of some members, in their first lives or near their last.
func drawTables(r *rand.Rand, late bool) []impl.Table {
	var tables []impl.Table
	for _, id := range r.Perm(impl.MaxMembers)[:2+r.Intn(4)] {
		x, _ := impl.TableNew(id)
		if late {
			x, _ = impl.Heard(x, impl.Member{Id: id, Life: impl.MaxLives - r.Intn(5)})
		}
		tables = append(tables, x)
	}
	return tables
}

// Tables that merge round and round, each with the next one, come to say the same, and then nothing turns.
func TestTablesThatMergeRoundAgree(t *testing.T) {
	t.Parallel()
	for seed := range int64(200) {
		r := rand.New(rand.NewSource(2000 + seed))
		tables := drawTables(r, seed%2 == 1)
		for i := range tables {
			for range 20 {
				tables[i], _ = impl.Heard(tables[i], drawMember(r, tables[i], impl.MaxLives))
			}
		}
		for range 3 * len(tables) {
			for i := range tables {
				tables[i], _ = impl.Merge(tables[i], tables[(i+1)%len(tables)])
			}
		}
		for _, x := range tables {
			if !impl.Agree(x, tables[0]) {
				t.Fatalf("%s and %s do not agree", tableText(x), tableText(tables[0]))
			}
			mustTakeNoMore(t, x, tables[0])
		}
	}
}

// Lives end: who is said to be dead in each of its lives is alive to itself up to the last, and dead in that.
func TestAllLives(t *testing.T) {
	x, _ := impl.TableNew(7)
	for life := range impl.MaxLives {
		next, turned := impl.Heard(x, impl.Member{Id: 7, State: 1 + life%3, Life: life})
		if want := fmt.Sprintf("7[7a%d]", life+1); !turned || tableText(next) != want {
			t.Fatalf("%s became %s, %v", tableText(x), tableText(next), turned)
		}
		x = next
	}
	for _, state := range []int{impl.MbSuspect, impl.MbDead, impl.MbLeft} {
		next, turned := impl.Heard(x, impl.Member{Id: 7, State: state, Life: impl.MaxLives})
		if m, _ := impl.MemberOf(next, 7); !turned || m.State != state || m.Life != impl.MaxLives {
			t.Fatalf("%s became %s, %v", tableText(x), tableText(next), turned)
		}
		x = next
	}
}

func TestTablesInMemory(t *testing.T) {
	plains := []impl.Table{
		{}, {Members: []impl.Member{}}, tableOf(0, "0a0"), tableOf(4, "2a1 4a2 6s3"), tableOf(4, "2d1 4l2 6l3"), tableOf(4, "4s1000 9a0"),
		allAlive(3, 11), allAlive(3, 12), allAlive(3, 13), tableOf(4, "4a0 2a0"), tableOf(3, "2a1 4a2 6s3"),
	}
	members := append(badMembers()[:6], memberOf("0a0"), memberOf("2s9"), memberOf("3a0"), memberOf("4d8"), memberOf("6a0"), memberOf("11s1000"))
	for _, one := range plains {
		x := withRoom(one)
		for _, m := range members {
			what := fmt.Sprintf("%s, %s", tableText(x), memberText(m))
			mustKeep(t, "Heard: "+what, []any{x}, func() []any { return two(impl.Heard(x, m)) })
			mustKeep(t, "Suspect: "+what, []any{x}, func() []any { return two(impl.Suspect(x, m.Id)) })
			mustKeep(t, "Bury: "+what, []any{x}, func() []any { return two(impl.Bury(x, m.Id)) })
			mustKeep(t, "MemberOf: "+what, []any{x}, func() []any { return two(impl.MemberOf(x, m.Id)) })
			if !same(allSaid(x, m, x), modelSaid(one, m, one)) {
				t.Errorf("%s: told otherwise with room behind members", what)
			}
		}
		what := tableText(x)
		mustKeep(t, "Leave: "+what, []any{x}, func() []any { return two(impl.Leave(x)) })
		mustKeep(t, "Live: "+what, []any{x}, func() []any { return two(impl.Live(x), impl.TableOk(x)) })
		mustKeep(t, "Merge with itself: "+what, []any{x}, func() []any { return two(impl.Merge(x, x)) })
		for _, other := range plains {
			o := withRoom(other)
			mustKeep(t, "Merge: "+what+" with "+tableText(o), []any{x, o}, func() []any { return two(impl.Merge(x, o)) })
			mustKeep(t, "Agree: "+what+" and "+tableText(o), []any{x, o}, func() []any { return []any{impl.Agree(x, o)} })
		}
	}
}

// Two tables may lie in one piece of memory: what one hears of the other is not written there.
func TestTablesThatShareMemory(t *testing.T) {
	all := tableOf(2, "2a1 4a2 6s3 7a0 9l4").Members
	x, o := impl.Table{Self: 2, Members: all[:2]}, impl.Table{Self: 9, Members: all[1:]}
	mustKeep(t, "Merge", []any{x, o}, func() []any { return two(impl.Merge(x, o)) })
	mustKeep(t, "Merge the other way", []any{x, o}, func() []any { return two(impl.Merge(o, x)) })
	got, turned := impl.Merge(x, o)
	if tableText(got) != "2[2a1 4a2 6s3 7a0 9l4]" || !turned {
		t.Errorf("%s, %v", tableText(got), turned)
	}
	if heard, _ := impl.Heard(x, memberOf("3a0")); tableText(heard) != "2[2a1 3a0 4a2]" || tableText(o) != "9[4a2 6s3 7a0 9l4]" {
		t.Errorf("%s, %s", tableText(heard), tableText(o))
	}
}

// Nothing is kept: an earlier answer stays as it was when others are asked for and written over.
func TestNothingOfMembersIsKept(t *testing.T) {
	x := tableOf(4, "2a1 4a2 6s3")
	first, _ := impl.Heard(x, memberOf("5a0"))
	fresh, _ := impl.TableNew(4)
	left, _ := impl.Leave(first)
	live := impl.Live(first)
	again, _ := impl.Heard(x, memberOf("5a0"))
	again.Members[0], again.Members[2] = memberOf("11d11"), memberOf("11d11")
	other, _ := impl.TableNew(4)
	other.Members[0] = memberOf("11d11")
	impl.Live(first)[0] = 77
	third, _ := impl.Heard(x, memberOf("5a0"))
	newest, _ := impl.TableNew(4)
	for _, c := range []struct {
		got  impl.Table
		want string
	}{{x, "4[2a1 4a2 6s3]"}, {first, "4[2a1 4a2 5a0 6s3]"}, {third, "4[2a1 4a2 5a0 6s3]"}, {left, "4[2a1 4l2 5a0 6s3]"}, {fresh, "4[4a0]"}, {newest, "4[4a0]"}} {
		if tableText(c.got) != c.want {
			t.Errorf("%s, not %s", tableText(c.got), c.want)
		}
	}
	if !same(live, []int{2, 4, 5, 6}) {
		t.Errorf("%v live", live)
	}
}
