package tests

import (
	"fmt"
	"maps"
	"slices"
	"strings"

	"loop.example/g00365/impl"
)

// Timers told a second time: a wheel is a map from Ids to moments, from which the one list of timers is made at once.

func modelWheelOk(w impl.Wheel) bool {
	if w.Now < 0 || w.Now > 1000000 || len(w.Timers) > 40 {
		return false
	}
	ok := true
	for i, a := range w.Timers {
		ok = ok && a.Id >= 0 && a.Id <= 2147483647 && a.At > w.Now && a.At <= 2000000
		for _, b := range w.Timers[:i] {
			ok = ok && a.Id != b.Id && (b.At < a.At || b.At == a.At && b.Id < a.Id)
		}
	}
	return ok
}

func momentsOf(w impl.Wheel) map[int]int {
	when := make(map[int]int)
	for _, timer := range w.Timers {
		when[timer.Id] = timer.At
	}
	return when
}

// wheelAt answers the one wheel with these timers.
func wheelAt(now int, when map[int]int) impl.Wheel {
	w := impl.Wheel{Now: now}
	for _, at := range slices.Compact(slices.Sorted(maps.Values(when))) {
		for _, id := range slices.Sorted(maps.Keys(when)) {
			if when[id] == at {
				w.Timers = append(w.Timers, impl.Timer{Id: id, At: at})
			}
		}
	}
	return w
}

func modelSet(w impl.Wheel, id, after int) (impl.Wheel, bool) {
	if !modelWheelOk(w) {
		return impl.Wheel{}, false
	}
	when := momentsOf(w)
	_, has := when[id]
	if id < 0 || id > 2147483647 || after < 1 || after > 1000000 || !has && len(when) == 40 {
		return w, false
	}
	when[id] = w.Now + after
	return wheelAt(w.Now, when), true
}

func modelStop(w impl.Wheel, id int) (impl.Wheel, bool) {
	if !modelWheelOk(w) {
		return impl.Wheel{}, false
	}
	when := momentsOf(w)
	_, has := when[id]
	delete(when, id)
	return wheelAt(w.Now, when), has
}

func modelLeft(w impl.Wheel, id int) (int, bool) {
	if !modelWheelOk(w) {
		return 0, false
	}
	at, has := momentsOf(w)[id]
	if !has {
		return 0, false
	}
	return at - w.Now, true
}

func modelFirst(w impl.Wheel) (int, bool) {
	if !modelWheelOk(w) || len(w.Timers) == 0 {
		return 0, false
	}
	return slices.Min(slices.Collect(maps.Values(momentsOf(w)))) - w.Now, true
}

func modelWheelTick(w impl.Wheel, n int) (impl.Wheel, []int) {
	if !modelWheelOk(w) {
		return impl.Wheel{}, nil
	}
	if n < 0 || n > 1000000-w.Now {
		return w, nil
	}
	rings, stays := make(map[int]int), make(map[int]int)
	for id, at := range momentsOf(w) {
		if at <= w.Now+n {
			rings[id] = at
		} else {
			stays[id] = at
		}
	}
	var rung []int
	for _, timer := range wheelAt(w.Now, rings).Timers {
		rung = append(rung, timer.Id)
	}
	return wheelAt(w.Now+n, stays), rung
}

// wheelText writes a wheel down: Now, and Id@At of each timer.
func wheelText(w impl.Wheel) string {
	var all []string
	for _, timer := range w.Timers[:min(len(w.Timers), 50)] {
		all = append(all, fmt.Sprintf("%d@%d", timer.Id, timer.At))
	}
	return fmt.Sprintf("%d[%s]", w.Now, strings.Join(all, " "))
}
