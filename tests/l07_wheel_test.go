package tests

import (
	"fmt"
	"math"
	"math/rand"
	"slices"
	"testing"

	"loop.example/g00365/impl"
)

func TestLimitsOfTimers(t *testing.T) {
	if impl.MaxTimers != 40 || impl.MaxNow != 1000000 {
		t.Fatalf("MaxTimers is %d, MaxNow %d", impl.MaxTimers, impl.MaxNow)
	}
}

// wheelOf answers a wheel, whose timers are given by Id and At, one behind the other.
func wheelOf(now int, timers ...int) impl.Wheel {
	w := impl.Wheel{Now: now}
	for i := 0; i < len(timers); i += 2 {
		w.Timers = append(w.Timers, impl.Timer{Id: timers[i], At: timers[i+1]})
	}
	return w
}

// crowd answers a wheel with so many timers, two and two of one moment, their Ids going down from moment to moment.
func crowd(now, timers int) impl.Wheel {
	w := impl.Wheel{Now: now}
	for i := range timers {
		w.Timers = append(w.Timers, impl.Timer{Id: 1000000 - i/2*2 + i%2, At: now + 1 + i/2})
	}
	return w
}

type wheelEdge struct {
	what  string
	ok    bool
	wheel impl.Wheel
}

const lastAt = 2 * impl.MaxNow

func wheelEdges() []wheelEdge {
	return []wheelEdge{
		{"zero", true, impl.Wheel{}},
		{"no timers, but not nil", true, impl.Wheel{Timers: []impl.Timer{}}},
		{"Now at its most", true, wheelOf(impl.MaxNow)},
		{"Now one more", false, wheelOf(impl.MaxNow + 1)},
		{"Now below 0", false, wheelOf(-1)},
		{"Now far below", false, wheelOf(math.MinInt)},
		{"Now far above", false, wheelOf(math.MaxInt)},
		{"Now far above, with a timer", false, wheelOf(math.MaxInt, 1, 5)},
		{"Now below 0, with a timer", false, wheelOf(-1, 1, 5)},
		{"Now below 0, with a timer at 0", false, wheelOf(-1, 1, 0)},
		{"Now at its most, with timers", true, wheelOf(impl.MaxNow, 1, impl.MaxNow+1, 2, lastAt)},
		{"Now one more, with a timer", false, wheelOf(impl.MaxNow+1, 1, impl.MaxNow+2)},
		{"Now just below its most", true, wheelOf(impl.MaxNow-1, 1, impl.MaxNow, 2, lastAt)},

		{"At just above Now at 0", true, wheelOf(0, 1, 1)},
		{"At is Now at 0", false, wheelOf(0, 1, 0)},
		{"At just above Now", true, wheelOf(7, 1, 8)},
		{"At is Now", false, wheelOf(7, 1, 7)},
		{"At below Now", false, wheelOf(7, 1, 6)},
		{"At below 0", false, wheelOf(0, 1, -1)},
		{"At far below", false, wheelOf(0, 1, math.MinInt)},
		{"At is Now at its most", false, wheelOf(impl.MaxNow, 1, impl.MaxNow)},
		{"At is 2 MaxNow", true, wheelOf(0, 1, lastAt)},
		{"At is one more", false, wheelOf(0, 1, lastAt+1)},
		{"At is 2 MaxNow, Now at its most", true, wheelOf(impl.MaxNow, 1, lastAt)},
		{"At is one more, Now at its most", false, wheelOf(impl.MaxNow, 1, lastAt+1)},
		{"At is more than MaxNow away", true, wheelOf(5, 1, impl.MaxNow+6)},
		{"At far above", false, wheelOf(0, 1, math.MaxInt)},
		{"the last At is one more", false, wheelOf(0, 1, 1, 2, 2, 3, lastAt+1)},
		{"the first At is Now", false, wheelOf(3, 1, 3, 2, 4, 3, 5)},

		{"Id 0", true, wheelOf(0, 0, 1)},
		{"Id below 0", false, wheelOf(0, -1, 1)},
		{"Id at its most", true, wheelOf(0, impl.MaxNum, 1)},
		{"Id one more", false, wheelOf(0, impl.MaxNum+1, 1)},
		{"Id far below", false, wheelOf(0, math.MinInt, 1)},
		{"Id far above", false, wheelOf(0, math.MaxInt, 1)},
		{"Ids 0 and at its most, of one At", true, wheelOf(0, 0, 1, impl.MaxNum, 1)},
		{"Ids at its most and 0, of two", true, wheelOf(0, impl.MaxNum, 1, 0, 2)},
		{"the last Id one more", false, wheelOf(0, 1, 1, 2, 2, impl.MaxNum+1, 3)},
		{"the last Id below 0", false, wheelOf(0, 1, 1, 2, 2, -1, 3)},

		{"Ids alike", false, wheelOf(0, 1, 1, 1, 2)},
		{"timers alike", false, wheelOf(0, 1, 1, 1, 1)},
		{"Ids alike, apart", false, wheelOf(0, 1, 1, 2, 2, 1, 3)},
		{"last Ids alike", false, wheelOf(0, 1, 1, 2, 2, 2, 3)},
		{"Ids 0 alike", false, wheelOf(0, 0, 1, 0, 2)},
		{"Ids alike among those of one At", false, wheelOf(0, 1, 1, 2, 1, 2, 1)},

		{"by At", true, wheelOf(0, 1, 1, 2, 2, 3, 5)},
		{"Ids go down, At goes up", true, wheelOf(0, 9, 1, 8, 2, 7, 3)},
		{"At goes down", false, wheelOf(0, 1, 2, 2, 1)},
		{"the last At goes down", false, wheelOf(0, 1, 1, 2, 3, 3, 2)},
		{"those of one At by Id", true, wheelOf(0, 3, 4, 5, 4, 7, 4)},
		{"those of one At not by Id", false, wheelOf(0, 5, 4, 3, 4)},
		{"the last ones of one At not by Id", false, wheelOf(0, 3, 4, 7, 4, 5, 4)},
		{"those of one At by Id, between others", true, wheelOf(0, 9, 3, 1, 4, 2, 4, 0, 5)},
		{"those of one At not by Id, between others", false, wheelOf(0, 9, 3, 2, 4, 1, 4, 0, 5)},
		{"a heap that is not in order", false, wheelOf(0, 1, 1, 2, 3, 3, 2, 4, 4)},

		{"MaxTimers timers", true, crowd(0, 40)},
		{"one timer more", false, crowd(0, 41)},
		{"MaxTimers timers, Now at its most", true, crowd(impl.MaxNow, 40)},
		{"one timer more, Now at its most", false, crowd(impl.MaxNow, 41)},
		{"far too many timers", false, impl.Wheel{Timers: make([]impl.Timer, 1000000)}},
	}
}

func TestWheelOk(t *testing.T) {
	for _, edge := range wheelEdges() {
		if impl.WheelOk(edge.wheel) != edge.ok {
			t.Errorf("WheelOk, %s: not %v", edge.what, edge.ok)
		}
		if modelWheelOk(edge.wheel) != edge.ok {
			t.Errorf("the model, %s: not %v", edge.what, edge.ok)
		}
	}
}

// mustGoAs holds what each function answers of a wheel, an Id and a number against the model.
func mustGoAs(t *testing.T, w impl.Wheel, id, n int) {
	t.Helper()
	for _, asked := range []struct {
		what      string
		got, want []any
	}{
		{"WheelOk", []any{impl.WheelOk(w)}, []any{modelWheelOk(w)}},
		{"WheelSet", two(impl.WheelSet(w, id, n)), two(modelSet(w, id, n))},
		{"WheelStop", two(impl.WheelStop(w, id)), two(modelStop(w, id))},
		{"WheelLeft", two(impl.WheelLeft(w, id)), two(modelLeft(w, id))},
		{"WheelNext", two(impl.WheelNext(w)), two(modelFirst(w))},
		{"WheelTick", two(impl.WheelTick(w, n)), two(modelWheelTick(w, n))},
	} {
		if !same(asked.got, asked.want) {
			t.Fatalf("%s of %s, id %d, n %d, is %v, not %v", asked.what, wheelText(w), id, n, asked.got, asked.want)
		}
	}
}

// Each function at each wheel of the table, good or bad, with each edge of its numbers.
func TestWheelsAtEdges(t *testing.T) {
	t.Parallel()
	ids := []int{math.MinInt, -1, 0, 1, 2, 3, 5, 1000000, impl.MaxNum, impl.MaxNum + 1, math.MaxInt}
	for _, edge := range wheelEdges() {
		w := edge.wheel
		numbers := []int{math.MinInt, -1, 0, 1, 2, 3, 20, 1000, impl.MaxNow, impl.MaxNow + 1, lastAt, math.MaxInt}
		if edge.ok {
			numbers = append(numbers, impl.MaxNow-w.Now-1, impl.MaxNow-w.Now, impl.MaxNow-w.Now+1)
		}
		for _, n := range numbers {
			for _, id := range ids {
				mustGoAs(t, w, id, n)
			}
		}
	}
}

func TestBadWheelsAreRefused(t *testing.T) {
	for _, edge := range wheelEdges() {
		if edge.ok {
			continue
		}
		for _, id := range []int{-1, 0, 1, 2, impl.MaxNum + 1} {
			for _, n := range []int{-1, 0, 1, 5, impl.MaxNow, impl.MaxNow + 1} {
				zero := []any{impl.Wheel{}, false, impl.Wheel{}, false, 0, false, 0, false, impl.Wheel{}, []int(nil)}
				if got := allRung(edge.wheel, id, n); !same(got, zero) {
					t.Errorf("%s, id %d, n %d: answered %v", edge.what, id, n, got)
				}
			}
		}
	}
}

// allRung answers what each function tells of a wheel, an Id and a number.
func allRung(w impl.Wheel, id, n int) []any {
	return slices.Concat(
		two(impl.WheelSet(w, id, n)), two(impl.WheelStop(w, id)),
		two(impl.WheelLeft(w, id)), two(impl.WheelNext(w)), two(impl.WheelTick(w, n)),
	)
}

// All wheels with up to three timers of a few Ids and moments, most of them bad.
func TestSmallWheels(t *testing.T) {
	t.Parallel()
	var timers []impl.Timer
	for id := -1; id <= 2; id++ {
		for at := range 5 {
			timers = append(timers, impl.Timer{Id: id, At: at})
		}
	}
	lists := [][]impl.Timer{nil}
	for from, size := 0, 0; size < 3; size++ {
		end := len(lists)
		for _, list := range lists[from:end] {
			for _, timer := range timers {
				lists = append(lists, append(slices.Clone(list), timer))
			}
		}
		from = end
	}
	good := 0
	for _, list := range lists {
		for now := -1; now <= 2; now++ {
			w := impl.Wheel{Now: now, Timers: list}
			if !modelWheelOk(w) {
				mustGoAs(t, w, 1, 1)
				continue
			}
			good++
			for id := -1; id <= 3; id++ {
				for n := -1; n <= 5; n++ {
					mustGoAs(t, w, id, n)
				}
			}
		}
	}
	// Each of three Ids has no timer or one of the moments behind Now: 4, 3 or 2 of them.
	if good != 5*5*5+4*4*4+3*3*3 {
		t.Errorf("%d are good", good)
	}
}

func mustBeWheel(t *testing.T, what string, got impl.Wheel, want string) {
	t.Helper()
	if wheelText(got) != want {
		t.Errorf("%s: %s, not %s", what, wheelText(got), want)
	}
}

func TestWheelSet(t *testing.T) {
	w := wheelOf(10, 4, 12, 7, 12, 1, 20)
	for _, c := range []struct {
		what      string
		id, after int
		ok        bool
		is        string
	}{
		{"a new one ahead of all", 5, 1, true, "10[5@11 4@12 7@12 1@20]"},
		{"a new one behind all", 5, 11, true, "10[4@12 7@12 1@20 5@21]"},
		{"a new one between those of one At", 5, 2, true, "10[4@12 5@12 7@12 1@20]"},
		{"a new one ahead of those of one At", 3, 2, true, "10[3@12 4@12 7@12 1@20]"},
		{"a new one behind those of one At", 8, 2, true, "10[4@12 7@12 8@12 1@20]"},
		{"set again, earlier", 1, 1, true, "10[1@11 4@12 7@12]"},
		{"set again, earlier, among those of one At", 1, 2, true, "10[1@12 4@12 7@12]"},
		{"set again, later", 4, 5, true, "10[7@12 4@15 1@20]"},
		{"set again, later, behind all", 4, 100, true, "10[7@12 1@20 4@110]"},
		{"set again, later, with another one", 7, 10, true, "10[4@12 1@20 7@20]"},
		{"set again, at the same moment", 7, 2, true, "10[4@12 7@12 1@20]"},
		{"the last one set again, at the same moment", 1, 10, true, "10[4@12 7@12 1@20]"},
		{"Id 0", 0, 2, true, "10[0@12 4@12 7@12 1@20]"},
		{"Id at its most", impl.MaxNum, 2, true, "10[4@12 7@12 2147483647@12 1@20]"},
		{"Id below 0", -1, 2, false, "10[4@12 7@12 1@20]"},
		{"Id one more", impl.MaxNum + 1, 2, false, "10[4@12 7@12 1@20]"},
		{"after 0", 5, 0, false, "10[4@12 7@12 1@20]"},
		{"after 0 of one that there is", 4, 0, false, "10[4@12 7@12 1@20]"},
		{"after below 0", 4, -1, false, "10[4@12 7@12 1@20]"},
		{"after at its most", 5, impl.MaxNow, true, "10[4@12 7@12 1@20 5@1000010]"},
		{"after at its most, set again", 4, impl.MaxNow, true, "10[7@12 1@20 4@1000010]"},
		{"after one more", 5, impl.MaxNow + 1, false, "10[4@12 7@12 1@20]"},
		{"after one more, set again", 4, impl.MaxNow + 1, false, "10[4@12 7@12 1@20]"},
		{"after far above", 4, math.MaxInt, false, "10[4@12 7@12 1@20]"},
		{"after far below", 4, math.MinInt, false, "10[4@12 7@12 1@20]"},
	} {
		got, ok := impl.WheelSet(w, c.id, c.after)
		if ok != c.ok {
			t.Errorf("%s: %v", c.what, ok)
		}
		mustBeWheel(t, c.what, got, c.is)
	}
	last, ok := impl.WheelSet(wheelOf(impl.MaxNow), 3, impl.MaxNow)
	if !ok || !impl.WheelOk(last) {
		t.Error("the last moment of all is refused")
	}
	mustBeWheel(t, "the last moment of all", last, "1000000[3@2000000]")
}

func TestFullWheels(t *testing.T) {
	for _, now := range []int{0, 77, impl.MaxNow} {
		full := crowd(now, impl.MaxTimers)
		for _, after := range []int{1, 2, 10, 30, impl.MaxNow} {
			for _, id := range []int{0, 999, 1000002, impl.MaxNum} {
				if got, ok := impl.WheelSet(full, id, after); ok || !same(got, full) {
					t.Errorf("one more is set: %s", wheelText(got))
				}
				mustGoAs(t, full, id, after)
			}
			for _, timer := range full.Timers {
				got, ok := impl.WheelSet(full, timer.Id, after)
				if left, is := impl.WheelLeft(got, timer.Id); !ok || !is || left != after || len(got.Timers) != impl.MaxTimers || !impl.WheelOk(got) {
					t.Errorf("%d set again, in %d: %s", timer.Id, after, wheelText(got))
				}
				mustGoAs(t, full, timer.Id, after)
				less, _ := impl.WheelStop(full, timer.Id)
				if got, ok := impl.WheelSet(less, 999, after); !ok || len(got.Timers) != impl.MaxTimers {
					t.Errorf("no room for what %d left", timer.Id)
				}
			}
		}
	}
	rung, _ := impl.WheelTick(crowd(0, impl.MaxTimers), 1)
	for id := range 3 {
		next, ok := impl.WheelSet(rung, id, 5)
		if ok != (id < 2) {
			t.Errorf("timer %d behind two that rang: %v", id, ok)
		}
		rung = next
	}
}

func TestWheelStop(t *testing.T) {
	w := wheelOf(10, 4, 12, 7, 12, 1, 20)
	for _, c := range []struct {
		what string
		id   int
		had  bool
		is   string
	}{
		{"the first one", 4, true, "10[7@12 1@20]"},
		{"one between", 7, true, "10[4@12 1@20]"},
		{"the last one", 1, true, "10[4@12 7@12]"},
		{"one that is not there", 5, false, "10[4@12 7@12 1@20]"},
		{"a moment that is no Id", 12, false, "10[4@12 7@12 1@20]"},
		{"Id 0, which is not there", 0, false, "10[4@12 7@12 1@20]"},
		{"Id below 0", -1, false, "10[4@12 7@12 1@20]"},
		{"Id one more than its most", impl.MaxNum + 1, false, "10[4@12 7@12 1@20]"},
		{"Id far above", math.MaxInt, false, "10[4@12 7@12 1@20]"},
	} {
		got, had := impl.WheelStop(w, c.id)
		if had != c.had {
			t.Errorf("%s: %v", c.what, had)
		}
		mustBeWheel(t, c.what, got, c.is)
		if again, had := impl.WheelStop(got, c.id); had || !same(again, got) {
			t.Errorf("%s, twice: %s, %v", c.what, wheelText(again), had)
		}
	}
	if got, had := impl.WheelStop(impl.Wheel{}, 0); had || !same(got, impl.Wheel{}) {
		t.Errorf("a stop at no timers: %s, %v", wheelText(got), had)
	}
	if got, had := impl.WheelStop(wheelOf(0, 0, 1), 0); !had || !same(got, impl.Wheel{}) {
		t.Errorf("a stop of the only one: %s, %v", wheelText(got), had)
	}
	// Who is stopped does not ring.
	left, _ := impl.WheelStop(w, 7)
	if _, rung := impl.WheelTick(left, 1000); !same(rung, []int{4, 1}) {
		t.Errorf("%v rang", rung)
	}
}

func TestWheelLeftAndNext(t *testing.T) {
	w := wheelOf(10, 4, 12, 7, 12, 1, lastAt)
	for _, c := range []struct {
		id, left int
		is       bool
	}{{4, 2, true}, {7, 2, true}, {1, lastAt - 10, true}, {0, 0, false}, {5, 0, false}, {12, 0, false}, {-1, 0, false}, {impl.MaxNum, 0, false}, {impl.MaxNum + 1, 0, false}} {
		if left, is := impl.WheelLeft(w, c.id); left != c.left || is != c.is {
			t.Errorf("WheelLeft of %d is %d, %v", c.id, left, is)
		}
	}
	for _, c := range []struct {
		w    impl.Wheel
		next int
		is   bool
	}{
		{w, 2, true}, {impl.Wheel{}, 0, false}, {wheelOf(impl.MaxNow), 0, false}, {wheelOf(0, 0, 1), 1, true},
		{wheelOf(0, 3, lastAt), lastAt, true}, {wheelOf(impl.MaxNow, 3, lastAt), impl.MaxNow, true}, {wheelOf(impl.MaxNow, 9, impl.MaxNow+1, 1, lastAt), 1, true},
	} {
		if next, is := impl.WheelNext(c.w); next != c.next || is != c.is {
			t.Errorf("WheelNext of %s is %d, %v", wheelText(c.w), next, is)
		}
	}
}

func TestWheelTick(t *testing.T) {
	w := wheelOf(10, 4, 12, 7, 12, 1, 20, 2, impl.MaxNow, 9, impl.MaxNow+1, 3, lastAt)
	whole := wheelText(w)
	late := " 9@1000001 3@2000000]"
	for _, c := range []struct {
		what string
		n    int
		is   string
		rung []int
	}{
		{"no moment", 0, whole, nil},
		{"just ahead of two", 1, "11[4@12 7@12 1@20 2@1000000" + late, nil},
		{"just at two", 2, "12[1@20 2@1000000" + late, []int{4, 7}},
		{"just behind two", 3, "13[1@20 2@1000000" + late, []int{4, 7}},
		{"just at a third one", 10, "20[2@1000000" + late, []int{4, 7, 1}},
		{"one short of all moments", impl.MaxNow - 11, "999999[2@1000000" + late, []int{4, 7, 1}},
		{"all moments", impl.MaxNow - 10, "1000000[9@1000001 3@2000000]", []int{4, 7, 1, 2}},
		{"one more", impl.MaxNow - 9, whole, nil},
		{"MaxNow", impl.MaxNow, whole, nil},
		{"below 0", -1, whole, nil},
		{"far below", math.MinInt, whole, nil},
		{"far above", math.MaxInt, whole, nil},
	} {
		got, rung := impl.WheelTick(w, c.n)
		mustBeWheel(t, c.what, got, c.is)
		if !same(rung, c.rung) {
			t.Errorf("%s: %v rang, not %v", c.what, rung, c.rung)
		}
	}
	// At MaxNow no moment comes any more; what is set stays set.
	end := wheelOf(impl.MaxNow, 9, impl.MaxNow+1)
	for _, n := range []int{0, 1, -1} {
		if got, rung := impl.WheelTick(end, n); len(rung) != 0 || !same(got, end) {
			t.Errorf("a tick of %d at MaxNow: %s, %v", n, wheelText(got), rung)
		}
	}
}

// Promise 14 for one timer: it rings just when it was set for, not a moment earlier.
func TestATimerRingsWhenItWasSetFor(t *testing.T) {
	for _, now := range []int{0, 1, 500, impl.MaxNow - 1000, impl.MaxNow - 2, impl.MaxNow - 1} {
		for _, after := range []int{1, 2, 3, 999, 1000, impl.MaxNow - 1, impl.MaxNow} {
			for _, id := range []int{0, 1, 20, impl.MaxNum} {
				if now+after > impl.MaxNow {
					continue
				}
				w, ok := impl.WheelSet(wheelOf(now, 7, now+1, 8, now+after, 9, lastAt), id, after)
				early, rung := impl.WheelTick(w, after-1)
				if left, is := impl.WheelLeft(early, id); !ok || slices.Contains(rung, id) || !is || left != 1 {
					t.Errorf("%d set at %d for %d: %v rang, %s is left", id, now, after, rung, wheelText(early))
				}
				just, rung := impl.WheelTick(early, 1)
				if _, is := impl.WheelLeft(just, id); is || !slices.Contains(rung, id) || just.Now != now+after {
					t.Errorf("%d set at %d for %d: %v rang at %d", id, now, after, rung, just.Now)
				}
				if _, rung := impl.WheelTick(w, after); !slices.Contains(rung, id) || !slices.Contains(rung, 8) || slices.Contains(rung, 9) {
					t.Errorf("%d set at %d for %d: %v rang at once", id, now, after, rung)
				}
			}
		}
	}
}

// drawWheel answers a wheel with up to MaxTimers timers, of many moments or of few.
func drawWheel(r *rand.Rand) impl.Wheel {
	now := []int{0, r.Intn(impl.MaxNow), impl.MaxNow - r.Intn(100), impl.MaxNow}[r.Intn(4)]
	far := []int{1, 5, 30, 200, lastAt - now}[r.Intn(5)]
	when := make(map[int]int)
	for range r.Intn(impl.MaxTimers + 1) {
		when[r.Intn([]int{50, impl.MaxNum}[r.Intn(2)])] = now + 1 + r.Intn(far)
	}
	return wheelAt(now, when)
}

// tickOneByOne lets so many moments go by, each by a tick of its own.
func tickOneByOne(w impl.Wheel, n int) (impl.Wheel, []int) {
	var all []int
	for range n {
		next, rung := impl.WheelTick(w, 1)
		w, all = next, append(all, rung...)
	}
	return w, all
}

// Promise 14: moments one by one, or in any parts, ring like many at once.
func TestMomentsOneByOneRingLikeManyAtOnce(t *testing.T) {
	t.Parallel()
	r := rand.New(rand.NewSource(714))
	rang, some := 0, 0
	for range 400 {
		w := drawWheel(r)
		n := min(r.Intn(260), impl.MaxNow-w.Now)
		want, told := modelWheelTick(w, n)
		whole, atOnce := impl.WheelTick(w, n)
		if !same(whole, want) || !same(atOnce, told) {
			t.Fatalf("%s, %d moments at once: %s, %v", wheelText(w), n, wheelText(whole), atOnce)
		}
		last, single := tickOneByOne(w, n)
		if !same(last, whole) || !same(single, atOnce) {
			t.Fatalf("%s, %d moments one by one: %s, %v", wheelText(w), n, wheelText(last), single)
		}
		for part := 0; part <= n; part += 1 + r.Intn(9) {
			half, first := impl.WheelTick(w, part)
			rest, second := impl.WheelTick(half, n-part)
			if !same(rest, whole) || !same(slices.Concat(first, second), atOnce) || !impl.WheelOk(half) {
				t.Fatalf("%s, %d moments, cut at %d: %s, %v and %v", wheelText(w), n, part, wheelText(rest), first, second)
			}
		}
		if rang += len(atOnce); len(whole.Timers) > 0 && len(atOnce) > 0 {
			some++
		}
	}
	if rang < 1000 || some < 50 {
		t.Errorf("%d rang, some of a wheel in %d cases", rang, some)
	}
}

// All moments that there are, one by one: each timer rings once, at its own.
func TestAllMoments(t *testing.T) {
	t.Parallel()
	w := wheelOf(0, 5, 1, 3, 500000, 4, 500000, 1, impl.MaxNow, 2, impl.MaxNow+1)
	_, atOnce := impl.WheelTick(w, impl.MaxNow)
	when := momentsOf(w)
	var all []int
	for moment := 1; moment <= impl.MaxNow; moment++ {
		next, rung := impl.WheelTick(w, 1)
		if next.Now != moment {
			t.Fatalf("Now is %d, not %d", next.Now, moment)
		}
		for _, id := range rung {
			if when[id] != moment {
				t.Fatalf("%d rang at %d", id, moment)
			}
		}
		w, all = next, append(all, rung...)
	}
	if !same(all, atOnce) || !same(all, []int{5, 3, 4, 1}) {
		t.Errorf("%v rang one by one, %v at once", all, atOnce)
	}
	mustBeWheel(t, "behind all moments", w, "1000000[2@1000001]")
}

// In which order timers are set plays no part.
func TestAllOrdersOfTimers(t *testing.T) {
	after := map[string]int{"0": 3, "1": 1, "2": 3, "3": 2, "4": 3, "5": 9, "6": 1}
	eachOrder([]string{"0", "1", "2", "3", "4", "5", "6"}, 0, func(order []string) {
		w := wheelOf(6)
		for _, name := range order {
			next, ok := impl.WheelSet(w, int(name[0]-'0'), after[name])
			if !ok || !impl.WheelOk(next) {
				t.Fatalf("%s is not set in %s", name, wheelText(w))
			}
			w = next
		}
		if wheelText(w) != "6[1@7 6@7 3@8 0@9 2@9 4@9 5@15]" {
			t.Fatalf("set as %v: %s", order, wheelText(w))
		}
	})
}

// Timers that are set, set again, stopped and rung in drawn turns, held against the model at each.
func TestDrawnTurnsOfWheels(t *testing.T) {
	t.Parallel()
	refused, again, rang, largest := 0, 0, 0, 0
	for seed := range int64(40) {
		r := rand.New(rand.NewSource(700 + seed))
		ids := []int{6, 45, 60}[seed%3]
		w := drawWheel(r)
		for range 300 {
			id, n := r.Intn(ids), 1+r.Intn(30)
			mustGoAs(t, w, id, n)
			switch kind := r.Intn(20); {
			case kind < 14:
				_, had := impl.WheelLeft(w, id)
				next, ok := impl.WheelSet(w, id, n)
				if w = next; !ok {
					refused++
				} else if had {
					again++
				}
			case kind < 16:
				w, _ = impl.WheelStop(w, id)
			default:
				next, rung := impl.WheelTick(w, n/4)
				w, rang = next, rang+len(rung)
			}
			if !impl.WheelOk(w) {
				t.Fatalf("not WheelOk: %s", wheelText(w))
			}
			largest = max(largest, len(w.Timers))
		}
	}
	if refused < 100 || again < 1000 || rang < 1000 || largest != impl.MaxTimers {
		t.Errorf("%d were refused, %d set again, %d rang, %d timers at most", refused, again, rang, largest)
	}
}

func TestWheelsInMemory(t *testing.T) {
	wheels := []impl.Wheel{
		{}, {Timers: []impl.Timer{}}, wheelOf(impl.MaxNow), wheelOf(0, 0, 1), wheelOf(10, 4, 12, 7, 12, 1, 20),
		crowd(0, 8), crowd(0, 39), crowd(0, 40), crowd(impl.MaxNow, 40), crowd(0, 41), wheelOf(0, 1, 2, 2, 1), wheelOf(-1, 1, 5),
	}
	for _, plain := range wheels {
		for _, id := range []int{-1, 0, 1, 4, 7, 9, 999990, 1000000, impl.MaxNum + 1} {
			for _, n := range []int{-1, 0, 1, 2, 8, 20, impl.MaxNow, impl.MaxNow + 1} {
				w := withRoom(plain)
				what := fmt.Sprintf("%s, id %d, n %d", wheelText(w), id, n)
				mustKeep(t, "WheelSet of "+what, []any{w}, func() []any { return two(impl.WheelSet(w, id, n)) })
				mustKeep(t, "WheelStop of "+what, []any{w}, func() []any { return two(impl.WheelStop(w, id)) })
				mustKeep(t, "WheelTick of "+what, []any{w}, func() []any { return two(impl.WheelTick(w, n)) })
				mustKeep(t, "numbers of "+what, []any{w}, func() []any {
					return append(two(impl.WheelLeft(w, id)), append(two(impl.WheelNext(w)), impl.WheelOk(w))...)
				})
				if !same(allRung(w, id, n), allRung(plain, id, n)) {
					t.Errorf("%s: told otherwise with room behind timers", what)
				}
			}
		}
	}
}

// Nothing is kept: an earlier answer stays as it was when others are asked for and written over.
func TestNothingOfTimersIsKept(t *testing.T) {
	w := wheelOf(0, 5, 1, 6, 2, 7, 3)
	first, _ := impl.WheelSet(w, 8, 2)
	rest, rung := impl.WheelTick(first, 2)
	again, _ := impl.WheelSet(w, 8, 2)
	again.Timers[0], again.Timers[2] = impl.Timer{Id: 99, At: 99}, impl.Timer{Id: 98, At: 98}
	other, told := impl.WheelTick(first, 2)
	other.Timers[0].Id, told[0], told[1] = 77, 77, 77
	third, _ := impl.WheelSet(w, 8, 2)
	mustBeWheel(t, "the wheel that was given", w, "0[5@1 6@2 7@3]")
	mustBeWheel(t, "the first answer", first, "0[5@1 6@2 8@2 7@3]")
	mustBeWheel(t, "the same asked again", third, "0[5@1 6@2 8@2 7@3]")
	mustBeWheel(t, "what was left", rest, "2[7@3]")
	if !same(rung, []int{5, 6, 8}) {
		t.Errorf("what rang is %v", rung)
	}
}
