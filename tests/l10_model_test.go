package tests

import (
	"fmt"
	"slices"
	"strings"

	"loop.example/g00365/impl"
)

// Members told a second time: a table is a map from Ids to members, from which the one list is made at once.

func modelMemberOk(m impl.Member) bool {
	return isIn(m.Id, 0, 11) && isIn(m.State, 0, 3) && isIn(m.Life, 0, 1000)
}

func modelTableOk(t impl.Table) bool {
	selves := 0
	for i, m := range t.Members {
		if i > 11 || !modelMemberOk(m) {
			return false
		}
		for _, ahead := range t.Members[:i] {
			if ahead.Id >= m.Id {
				return false
			}
		}
		if m.Id == t.Self && (m.State == 0 || m.State == 3 || m.Life == 1000) {
			selves++
		}
	}
	return selves == 1
}

func modelBeats(a, b impl.Member) bool {
	return a.Id == b.Id && slices.Compare([]int{a.Life, a.State}, []int{b.Life, b.State}) > 0
}

func membersOf(t impl.Table) map[int]impl.Member {
	all := make(map[int]impl.Member)
	for _, m := range t.Members {
		all[m.Id] = m
	}
	return all
}

// tableWith answers the one table with these members.
func tableWith(self int, all map[int]impl.Member) impl.Table {
	t := impl.Table{Self: self}
	for id := range 12 {
		if m, is := all[id]; is {
			t.Members = append(t.Members, m)
		}
	}
	return t
}

func modelHeard(t impl.Table, m impl.Member) (impl.Table, bool) {
	if !modelTableOk(t) || !modelMemberOk(m) {
		return impl.Table{}, false
	}
	all := membersOf(t)
	was, is := all[m.Id]
	if is && !modelBeats(m, was) {
		return t, false
	}
	ofSelf := m.Id == t.Self && m.Life < 1000
	switch {
	case ofSelf && was.State == 0 && m.State != 0:
		all[m.Id] = impl.Member{Id: m.Id, State: 0, Life: m.Life + 1}
	case ofSelf && was.State == 3:
		all[m.Id] = impl.Member{Id: m.Id, State: 3, Life: m.Life}
	default:
		all[m.Id] = m
	}
	return tableWith(t.Self, all), true
}

// modelDoubt answers t with the member id in state to, if it is in one of those that may go there.
func modelDoubt(t impl.Table, id, to int, from ...int) (impl.Table, bool) {
	if !modelTableOk(t) {
		return impl.Table{}, false
	}
	all := membersOf(t)
	m, is := all[id]
	if !is || id == t.Self || !slices.Contains(from, m.State) {
		return t, false
	}
	all[id] = impl.Member{Id: id, State: to, Life: m.Life}
	return tableWith(t.Self, all), true
}

func modelLeave(t impl.Table) (impl.Table, bool) {
	if !modelTableOk(t) {
		return impl.Table{}, false
	}
	all := membersOf(t)
	m := all[t.Self]
	all[t.Self] = impl.Member{Id: m.Id, State: 3, Life: m.Life}
	return tableWith(t.Self, all), m.State != 3
}

func modelMemberOf(t impl.Table, id int) (impl.Member, bool) {
	if !modelTableOk(t) {
		return impl.Member{}, false
	}
	m, is := membersOf(t)[id]
	return m, is
}

func modelLive(t impl.Table) []int {
	var ids []int
	for id := range 12 {
		if m, is := modelMemberOf(t, id); is && m.State < 2 {
			ids = append(ids, id)
		}
	}
	return ids
}

func modelMerge(t, o impl.Table) (impl.Table, bool) {
	if !modelTableOk(t) || !modelTableOk(o) {
		return impl.Table{}, false
	}
	times := 0
	for _, m := range o.Members {
		next, turned := modelHeard(t, m)
		if t = next; turned {
			times++
		}
	}
	return t, times > 0
}

func modelAgree(a, b impl.Table) bool {
	return modelTableOk(a) && modelTableOk(b) && same(a.Members, b.Members)
}

const stateSigns = "asdl"

// memberText writes a member down: Id, the first letter of its State, Life.
func memberText(m impl.Member) string {
	sign := fmt.Sprintf("(%d)", m.State)
	if isIn(m.State, 0, 3) {
		sign = stateSigns[m.State : m.State+1]
	}
	return fmt.Sprintf("%d%s%d", m.Id, sign, m.Life)
}

// tableText writes a table down: Self, and its members.
func tableText(t impl.Table) string {
	var all []string
	for _, m := range t.Members[:min(len(t.Members), 20)] {
		all = append(all, memberText(m))
	}
	return fmt.Sprintf("%d[%s]", t.Self, strings.Join(all, " "))
}

// memberOf answers the member that memberText writes so.
func memberOf(text string) impl.Member {
	var m impl.Member
	var sign rune
	if _, err := fmt.Sscanf(text, "%d%c%d", &m.Id, &sign, &m.Life); err != nil {
		panic(text)
	}
	m.State = strings.IndexRune(stateSigns, sign)
	return m
}

// tableOf answers a table with these members, written as memberText does, in that order.
func tableOf(self int, text string) impl.Table {
	t := impl.Table{Self: self}
	for _, word := range strings.Fields(text) {
		t.Members = append(t.Members, memberOf(word))
	}
	return t
}
