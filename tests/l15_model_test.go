package tests

import (
	"fmt"
	"slices"
	"strings"

	"loop.example/g00365/impl"
)

// Duties told a second time: timers as a map from sessions to moments, from which the one wheel is made at once.

func modelDutyOk(d impl.Duty) bool {
	if !modelWheelOk(d.Wheel) || len(d.Wheel.Timers) > 8 {
		return false
	}
	for _, timer := range d.Wheel.Timers {
		if !isIn(timer.At, d.Wheel.Now+1, d.Wheel.Now+min(d.Ttl, 1000)) {
			return false
		}
	}
	return isIn(d.Ttl, 1, 1000)
}

func modelDutyNew(ttl int) (impl.Duty, bool) {
	if !isIn(ttl, 1, 1000) {
		return impl.Duty{}, false
	}
	return impl.Duty{Ttl: ttl}, true
}

func modelDutySync(d impl.Duty, s impl.State) (impl.Duty, bool) {
	if !modelDutyOk(d) || !modelState(s) {
		return impl.Duty{}, false
	}
	was, is := momentsOf(d.Wheel), map[int]int{}
	turned := len(was) != len(s.Sess)
	for _, session := range s.Sess {
		at, has := was[session.Id]
		if !has {
			at, turned = d.Wheel.Now+d.Ttl, true
		}
		is[session.Id] = at
	}
	return impl.Duty{Ttl: d.Ttl, Wheel: wheelAt(d.Wheel.Now, is)}, turned
}

func modelDutyRenew(d impl.Duty, id int) (impl.Duty, bool) {
	if !modelDutyOk(d) {
		return impl.Duty{}, false
	}
	when := momentsOf(d.Wheel)
	if _, has := when[id]; !has {
		return d, false
	}
	when[id] = d.Wheel.Now + d.Ttl
	return impl.Duty{Ttl: d.Ttl, Wheel: wheelAt(d.Wheel.Now, when)}, true
}

func modelDutyTick(d impl.Duty, s impl.State, n int) (impl.Duty, []impl.Op) {
	if !modelDutyOk(d) || !modelState(s) || n < 0 || n > 1000000-d.Wheel.Now {
		return impl.Duty{}, nil
	}
	synced, _ := modelDutySync(d, s)
	now, when := d.Wheel.Now+n, momentsOf(synced.Wheel)
	var shuts []impl.Op
	for _, timer := range synced.Wheel.Timers {
		if timer.At <= now {
			shuts = append(shuts, impl.Op{Kind: 5, N: timer.Id})
			when[timer.Id] = now + d.Ttl
		}
	}
	return impl.Duty{Ttl: d.Ttl, Wheel: wheelAt(now, when)}, shuts
}

// sameDuty is same for duties, of which sweeps hold many against each other.
func sameDuty(a, b impl.Duty) bool {
	return a.Ttl == b.Ttl && a.Wheel.Now == b.Wheel.Now && slices.Equal(a.Wheel.Timers, b.Wheel.Timers)
}

// dutyText writes a duty down: Ttl, and its wheel.
func dutyText(d impl.Duty) string {
	return fmt.Sprintf("%d:%s", d.Ttl, wheelText(d.Wheel))
}

// shutTexts writes down whom operations shut; what is not OpShut alone is written whole.
func shutTexts(l []impl.Op) string {
	var all []string
	for _, o := range l {
		if sameOps([]impl.Op{o}, []impl.Op{{Kind: impl.OpShut, N: o.N}}) {
			all = append(all, fmt.Sprint(o.N))
		} else {
			all = append(all, fmt.Sprintf("%+v", o))
		}
	}
	return strings.Join(all, " ")
}

// dutyOf answers a duty, whose timers are given by session and moment, one behind the other.
func dutyOf(ttl, now int, timers ...int) impl.Duty {
	return impl.Duty{Ttl: ttl, Wheel: wheelOf(now, timers...)}
}

// having answers a state with these sessions, every other one Delete.
func having(ids ...int) impl.State {
	s := impl.State{Index: impl.MaxIndex}
	for i, id := range ids {
		s.Sess = append(s.Sess, impl.Session{Id: id, Delete: i%2 == 1})
	}
	return s
}
