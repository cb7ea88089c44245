package tests

import (
	"fmt"
	"math"
	"math/rand"
	"slices"
	"strings"
	"testing"

	"loop.example/g00365/impl"
)

func TestCodesAndLimitsOfChecks(t *testing.T) {
	if impl.MaxTtl != 1000 || impl.MaxFails != 5 {
		t.Errorf("MaxTtl is %d, MaxFails %d", impl.MaxTtl, impl.MaxFails)
	}
	if codes := []int{impl.ChPassing, impl.ChWarning, impl.ChCritical}; !same(codes, []int{0, 1, 2}) {
		t.Errorf("the codes are %v", codes)
	}
}

var (
	goodNames = []string{"c", "a", "z", "/", "//", "web/a", "abcdefghijklmnopqrst", "////////////////////"}
	badNames  = []string{"", "A", "Z", "`", "{", ".", "0", "-", " ", "c ", " c", "a b", "c\x00", "\x00", "\xff", "a\n", "ä", "webA", "Aweb", "we.b", "abcdefghijklmnopqrstu", strings.Repeat("a", 1000000)}
)

type checkEdge struct {
	what  string
	ok    bool
	check impl.Check
}

func checkEdges() []checkEdge {
	edges := []checkEdge{
		{"zero", false, impl.Check{}},
		{"zero but for Name", false, impl.Check{Name: []byte("c")}},
		{"zero but for Name and Most", true, impl.Check{Name: []byte("c"), Most: 1}},
		{"zero but for Most", false, impl.Check{Most: 1}},
		{"no Name, but not nil", false, impl.Check{Name: []byte{}, Most: 1}},
		{"new", true, checked(5, 2, impl.ChCritical, 0, 0)},
		{"all at their greatest", true, checked(impl.MaxTtl, impl.MaxFails, impl.ChCritical, impl.MaxTtl, impl.MaxFails)},
	}
	for i, name := range append(slices.Clone(goodNames), badNames...) {
		for status := range 3 {
			edges = append(edges, checkEdge{fmt.Sprintf("Name %.30q, Status %d", name, status), i < len(goodNames), named(name, checked(5, 2, status, 0, 0))})
		}
	}
	edges = append(edges, numberEdges()...)
	return append(edges, overEdges()...)
}

// numberEdges answers checks each of which has one number at an edge, with all others so that it alone decides.
func numberEdges() []checkEdge {
	var edges []checkEdge
	for _, c := range []struct {
		what string
		good []int
		bad  []int
		set  func(n int) impl.Check
	}{
		{"Ttl of one that is critical", []int{0, 1, 5, impl.MaxTtl - 1, impl.MaxTtl}, []int{math.MinInt, -2, -1, impl.MaxTtl + 1, math.MaxInt}, func(n int) impl.Check { return checked(n, 2, 2, 0, 0) }},
		{"Ttl of one that passes", []int{0, 1, 5, impl.MaxTtl}, []int{math.MinInt, -1, impl.MaxTtl + 1, math.MaxInt}, func(n int) impl.Check { return checked(n, 2, 0, 0, 0) }},
		{"Ttl of one that warns", []int{0, 1, 5, impl.MaxTtl}, []int{math.MinInt, -1, impl.MaxTtl + 1, math.MaxInt}, func(n int) impl.Check { return checked(n, 2, 1, 0, 1) }},
		{"Age of one that is critical", []int{0, 1, 4, 5, 6, impl.MaxTtl - 1, impl.MaxTtl}, []int{math.MinInt, -2, -1, impl.MaxTtl + 1, math.MaxInt}, func(n int) impl.Check { return checked(5, 2, 2, n, 0) }},
		{"Age without Ttl, critical", []int{0, 1, impl.MaxTtl}, []int{math.MinInt, -1, impl.MaxTtl + 1, math.MaxInt}, func(n int) impl.Check { return checked(0, 2, 2, n, 0) }},
		{"Age without Ttl, passing", []int{0, 1, impl.MaxTtl - 1, impl.MaxTtl}, []int{math.MinInt, -1, impl.MaxTtl + 1, math.MaxInt}, func(n int) impl.Check { return checked(0, 2, 0, n, 0) }},
		{"Age without Ttl, warning", []int{0, 1, impl.MaxTtl - 1, impl.MaxTtl}, []int{math.MinInt, -1, impl.MaxTtl + 1, math.MaxInt}, func(n int) impl.Check { return checked(0, 2, 1, n, 1) }},
		{"Age of one that passes", []int{0, 1, impl.MaxTtl - 1}, []int{math.MinInt, -1, impl.MaxTtl, impl.MaxTtl + 1, math.MaxInt}, func(n int) impl.Check { return checked(impl.MaxTtl, 2, 0, n, 0) }},
		{"Most", []int{1, 2, impl.MaxFails - 1, impl.MaxFails}, []int{math.MinInt, -1, 0, impl.MaxFails + 1, math.MaxInt}, func(n int) impl.Check { return checked(5, n, 2, 0, 0) }},
		{"Most of one that passes", []int{1, 2, impl.MaxFails}, []int{math.MinInt, -1, 0, impl.MaxFails + 1, math.MaxInt}, func(n int) impl.Check { return checked(5, n, 0, 0, 0) }},
		{"Most and as many Fails", []int{1, 2, impl.MaxFails}, []int{math.MinInt, -1, 0, impl.MaxFails + 1, math.MaxInt}, func(n int) impl.Check { return checked(5, n, 2, 0, n) }},
		{"Status", []int{impl.ChPassing, impl.ChWarning, impl.ChCritical}, []int{math.MinInt, -2, impl.ChPassing - 1, impl.ChCritical + 1, math.MaxInt}, func(n int) impl.Check { return checked(5, 2, n, 0, 0) }},
		{"Status with a fail", []int{impl.ChWarning, impl.ChCritical}, []int{math.MinInt, impl.ChPassing - 1, impl.ChPassing, impl.ChCritical + 1, math.MaxInt}, func(n int) impl.Check { return checked(5, 2, n, 0, 1) }},
		{"Fails of one that is critical", []int{0, 1, 2, 3}, []int{math.MinInt, -1, 4, 5, 6, math.MaxInt}, func(n int) impl.Check { return checked(5, 3, 2, 0, n) }},
		{"Fails of one that warns", []int{0, 1, 2, 3}, []int{math.MinInt, -1, 4, 5, 6, math.MaxInt}, func(n int) impl.Check { return checked(5, 3, 1, 0, n) }},
		{"Fails of one that passes", []int{0}, []int{math.MinInt, -1, 1, 2, 3, 4, math.MaxInt}, func(n int) impl.Check { return checked(5, 3, 0, 0, n) }},
		{"Fails of one that passes without Ttl", []int{0}, []int{math.MinInt, -1, 1, 3, 4, math.MaxInt}, func(n int) impl.Check { return checked(0, 3, 0, 0, n) }},
		{"Fails where one is most", []int{0, 1}, []int{-1, 2, impl.MaxFails}, func(n int) impl.Check { return checked(5, 1, 2, 0, n) }},
		{"Fails where MaxFails are most", []int{0, 1, impl.MaxFails}, []int{-1, impl.MaxFails + 1}, func(n int) impl.Check { return checked(5, impl.MaxFails, 2, 0, n) }},
	} {
		for i, n := range append(slices.Clone(c.good), c.bad...) {
			edges = append(edges, checkEdge{fmt.Sprintf("%s %d", c.what, n), i < len(c.good), c.set(n)})
		}
	}
	return edges
}

// overEdges answers checks with Ages around their Ttl, in each Status.
func overEdges() []checkEdge {
	var edges []checkEdge
	for _, ttl := range []int{1, 2, 5, 500, impl.MaxTtl - 1, impl.MaxTtl} {
		for _, age := range []int{ttl - 1, ttl, ttl + 1, impl.MaxTtl} {
			for status := impl.ChPassing; status <= impl.ChCritical; status++ {
				ok := age <= impl.MaxTtl && (age < ttl || status == impl.ChCritical)
				edges = append(edges, checkEdge{fmt.Sprintf("Age %d of Ttl %d, Status %d", age, ttl, status), ok, checked(ttl, 2, status, age, 0)})
			}
		}
	}
	return edges
}

func badChecks() []checkEdge {
	return slices.DeleteFunc(checkEdges(), func(edge checkEdge) bool { return edge.ok })
}

func TestCheckOk(t *testing.T) {
	for _, edge := range checkEdges() {
		if impl.CheckOk(edge.check) != edge.ok {
			t.Errorf("CheckOk, %s: not %v", edge.what, edge.ok)
		}
		if modelCheckOk(edge.check) != edge.ok {
			t.Errorf("the model, %s: not %v", edge.what, edge.ok)
		}
	}
}

func TestCheckNew(t *testing.T) {
	names := append(slices.Clone(goodNames), badNames...)
	for i, name := range names {
		for _, ttl := range []int{math.MinInt, -1, 0, 1, 5, impl.MaxTtl - 1, impl.MaxTtl, impl.MaxTtl + 1, math.MaxInt} {
			for _, most := range []int{math.MinInt, -1, 0, 1, 2, impl.MaxFails, impl.MaxFails + 1, math.MaxInt} {
				ok := i < len(goodNames) && ttl >= 0 && ttl <= 1000 && most >= 1 && most <= 5
				var want impl.Check
				if ok {
					want = impl.Check{Name: []byte(name), Ttl: ttl, Most: most, Status: impl.ChCritical}
				}
				got, is := impl.CheckNew([]byte(name), ttl, most)
				if is != ok || !sameCheck(got, want) || impl.CheckOk(got) != ok {
					t.Errorf("CheckNew(%.30q, %d, %d) = %s, %v", name, ttl, most, checkText(got), is)
				}
				if got, is := modelCheckNew([]byte(name), ttl, most); is != ok || !sameCheck(got, want) {
					t.Errorf("the model: CheckNew(%.30q, %d, %d) = %s, %v", name, ttl, most, checkText(got), is)
				}
			}
		}
	}
	if got, ok := impl.CheckNew(nil, 5, 2); ok || !same(got, impl.Check{}) {
		t.Errorf("without a name: %s, %v", checkText(got), ok)
	}
}

type checkCase struct {
	what   string
	have   impl.Check
	want   impl.Check
	turned bool
}

func mustTurnChecks(t *testing.T, name string, cases []checkCase, call, model func(c impl.Check) (impl.Check, bool)) {
	t.Helper()
	for _, c := range cases {
		if !impl.CheckOk(c.have) || !impl.CheckOk(c.want) {
			t.Errorf("%s, %s: %s, %s", name, c.what, checkText(c.have), checkText(c.want))
		}
		if got, turned := call(c.have); !same(got, c.want) || turned != c.turned {
			t.Errorf("%s, %s: %s became %s, %v, not %s, %v", name, c.what, checkText(c.have), checkText(got), turned, checkText(c.want), c.turned)
		}
		if got, turned := model(c.have); !same(got, c.want) || turned != c.turned {
			t.Errorf("the model: %s, %s: %s became %s, %v", name, c.what, checkText(c.have), checkText(got), turned)
		}
	}
}

func TestCheckPass(t *testing.T) {
	mustTurnChecks(t, "CheckPass", []checkCase{
		{"new", checked(5, 2, 2, 0, 0), checked(5, 2, 0, 0, 0), true},
		{"new, without Ttl", checked(0, 1, 2, 0, 0), checked(0, 1, 0, 0, 0), true},
		{"new, all at their greatest", checked(1000, 5, 2, 0, 0), checked(1000, 5, 0, 0, 0), true},
		{"it passes", checked(5, 2, 0, 0, 0), checked(5, 2, 0, 0, 0), false},
		{"it passes, and is older", checked(5, 2, 0, 4, 0), checked(5, 2, 0, 0, 0), false},
		{"it passes without Ttl, with an Age", checked(0, 2, 0, 1000, 0), checked(0, 2, 0, 0, 0), false},
		{"it warns without fails", checked(5, 2, 1, 0, 0), checked(5, 2, 0, 0, 0), true},
		{"it warns with a fail", checked(5, 2, 1, 3, 1), checked(5, 2, 0, 0, 0), true},
		{"it warns with Most", checked(5, 5, 1, 4, 5), checked(5, 5, 0, 0, 0), true},
		{"it is critical by fails", checked(5, 5, 2, 2, 5), checked(5, 5, 0, 0, 0), true},
		{"it is critical with some fails", checked(5, 5, 2, 2, 3), checked(5, 5, 0, 0, 0), true},
		{"it is critical by age", checked(5, 2, 2, 5, 0), checked(5, 2, 0, 0, 0), true},
		{"it is critical, as old as may be", checked(1, 1, 2, 1000, 1), checked(1, 1, 0, 0, 0), true},
		{"another name", named("web/a", checked(7, 3, 1, 1, 1)), named("web/a", checked(7, 3, 0, 0, 0)), true},
		{"the longest name", named("abcdefghijklmnopqrst", checked(7, 3, 2, 1, 1)), named("abcdefghijklmnopqrst", checked(7, 3, 0, 0, 0)), true},
	}, impl.CheckPass, modelCheckPass)
}

func TestCheckFail(t *testing.T) {
	mustTurnChecks(t, "CheckFail", []checkCase{
		{"new, one is most", checked(5, 1, 2, 0, 0), checked(5, 1, 2, 0, 1), false},
		{"new, two are most", checked(5, 2, 2, 0, 0), checked(5, 2, 2, 0, 1), false},
		{"new, five are most", checked(5, 5, 2, 0, 0), checked(5, 5, 2, 0, 1), false},
		{"it passes, one is most", checked(5, 1, 0, 0, 0), checked(5, 1, 2, 0, 1), true},
		{"it passes, two are most", checked(5, 2, 0, 0, 0), checked(5, 2, 1, 0, 1), true},
		{"it passes, five are most", checked(5, 5, 0, 0, 0), checked(5, 5, 1, 0, 1), true},
		{"it passes, and keeps its Age", checked(5, 2, 0, 4, 0), checked(5, 2, 1, 4, 1), true},
		{"it passes without Ttl, with an Age", checked(0, 2, 0, 1000, 0), checked(0, 2, 1, 1000, 1), true},
		{"it warns without fails, one is most", checked(5, 1, 1, 0, 0), checked(5, 1, 2, 0, 1), true},
		{"it warns without fails, two are most", checked(5, 2, 1, 0, 0), checked(5, 2, 1, 0, 1), false},
		{"it warns, two to go", checked(5, 4, 1, 3, 2), checked(5, 4, 1, 3, 3), false},
		{"it warns, one to go", checked(5, 4, 1, 3, 3), checked(5, 4, 2, 3, 4), true},
		{"it warns with Most", checked(5, 4, 1, 3, 4), checked(5, 4, 2, 3, 4), true},
		{"it warns with one of one", checked(0, 1, 1, 0, 1), checked(0, 1, 2, 0, 1), true},
		{"it warns with five of five", checked(0, 5, 1, 0, 5), checked(0, 5, 2, 0, 5), true},
		{"it warns, four of five", checked(0, 5, 1, 0, 4), checked(0, 5, 2, 0, 5), true},
		{"it warns, three of five", checked(0, 5, 1, 0, 3), checked(0, 5, 1, 0, 4), false},
		{"it is critical, with some fails", checked(5, 4, 2, 3, 1), checked(5, 4, 2, 3, 2), false},
		{"it is critical, one to go", checked(5, 4, 2, 3, 3), checked(5, 4, 2, 3, 4), false},
		{"it is critical with Most", checked(5, 4, 2, 3, 4), checked(5, 4, 2, 3, 4), false},
		{"it is critical with five of five", checked(5, 5, 2, 3, 5), checked(5, 5, 2, 3, 5), false},
		{"it is critical by age", checked(5, 3, 2, 5, 0), checked(5, 3, 2, 5, 1), false},
		{"it is critical, as old as may be", checked(1, 3, 2, 1000, 1), checked(1, 3, 2, 1000, 2), false},
		{"another name", named("web/a", checked(7, 3, 0, 1, 0)), named("web/a", checked(7, 3, 1, 1, 1)), true},
	}, impl.CheckFail, modelCheckFail)
}

func TestCheckTick(t *testing.T) {
	for _, c := range []struct {
		n     int
		cases []checkCase
	}{
		{0, []checkCase{
			{"new", checked(5, 2, 2, 0, 0), checked(5, 2, 2, 0, 0), false},
			{"it passes", checked(5, 2, 0, 0, 0), checked(5, 2, 0, 0, 0), false},
			{"it passes, one below Ttl", checked(5, 2, 0, 4, 0), checked(5, 2, 0, 4, 0), false},
			{"it warns, one below Ttl", checked(5, 2, 1, 4, 1), checked(5, 2, 1, 4, 1), false},
			{"it is over", checked(5, 2, 2, 5, 1), checked(5, 2, 2, 5, 1), false},
			{"as old as may be", checked(5, 2, 2, 1000, 1), checked(5, 2, 2, 1000, 1), false},
			{"without Ttl", checked(0, 2, 0, 7, 0), checked(0, 2, 0, 7, 0), false},
		}},
		{1, []checkCase{
			{"new", checked(5, 2, 2, 0, 0), checked(5, 2, 2, 1, 0), false},
			{"it passes", checked(5, 2, 0, 0, 0), checked(5, 2, 0, 1, 0), false},
			{"it passes, two below Ttl", checked(5, 2, 0, 3, 0), checked(5, 2, 0, 4, 0), false},
			{"it passes, one below Ttl", checked(5, 2, 0, 4, 0), checked(5, 2, 2, 5, 0), true},
			{"it passes, Ttl 1", checked(1, 2, 0, 0, 0), checked(1, 2, 2, 1, 0), true},
			{"it passes, Ttl 2", checked(2, 2, 0, 0, 0), checked(2, 2, 0, 1, 0), false},
			{"it passes, the greatest Ttl", checked(1000, 2, 0, 998, 0), checked(1000, 2, 0, 999, 0), false},
			{"it passes, the greatest Ttl is over", checked(1000, 2, 0, 999, 0), checked(1000, 2, 2, 1000, 0), true},
			{"it warns, two below Ttl", checked(5, 2, 1, 3, 1), checked(5, 2, 1, 4, 1), false},
			{"it warns, one below Ttl", checked(5, 2, 1, 4, 1), checked(5, 2, 2, 5, 1), true},
			{"it warns without fails", checked(5, 2, 1, 4, 0), checked(5, 2, 2, 5, 0), true},
			{"it is critical, one below Ttl", checked(5, 2, 2, 4, 2), checked(5, 2, 2, 5, 2), false},
			{"it is critical, at Ttl", checked(5, 2, 2, 5, 1), checked(5, 2, 2, 6, 1), false},
			{"one below the greatest Age", checked(5, 2, 2, 999, 1), checked(5, 2, 2, 1000, 1), false},
			{"the greatest Age", checked(5, 2, 2, 1000, 1), checked(5, 2, 2, 1000, 1), false},
			{"the greatest Age and Ttl", checked(1000, 2, 2, 1000, 1), checked(1000, 2, 2, 1000, 1), false},
			{"without Ttl", checked(0, 2, 0, 0, 0), checked(0, 2, 0, 0, 0), false},
			{"without Ttl, with an Age", checked(0, 2, 1, 7, 1), checked(0, 2, 1, 7, 1), false},
			{"without Ttl, critical", checked(0, 2, 2, 7, 1), checked(0, 2, 2, 7, 1), false},
			{"another name", named("web/a", checked(1, 2, 1, 0, 1)), named("web/a", checked(1, 2, 2, 1, 1)), true},
		}},
		{4, []checkCase{
			{"it passes, one short", checked(5, 2, 0, 0, 0), checked(5, 2, 0, 4, 0), false},
			{"it passes, just over", checked(5, 2, 0, 1, 0), checked(5, 2, 2, 5, 0), true},
			{"it passes, well over", checked(5, 2, 0, 4, 0), checked(5, 2, 2, 8, 0), true},
			{"it warns, one short", checked(5, 3, 1, 0, 2), checked(5, 3, 1, 4, 2), false},
			{"it warns, just over", checked(5, 3, 1, 1, 2), checked(5, 3, 2, 5, 2), true},
		}},
		{999, []checkCase{
			{"it passes, one short", checked(1000, 2, 0, 0, 0), checked(1000, 2, 0, 999, 0), false},
			{"it passes, just over", checked(1000, 2, 0, 1, 0), checked(1000, 2, 2, 1000, 0), true},
			{"it passes, well over", checked(1000, 2, 0, 2, 0), checked(1000, 2, 2, 1000, 0), true},
		}},
	} {
		mustTurnChecks(t, fmt.Sprintf("CheckTick by %d", c.n), c.cases,
			func(x impl.Check) (impl.Check, bool) { return impl.CheckTick(x, c.n) },
			func(x impl.Check) (impl.Check, bool) { return modelCheckTick(x, c.n) })
	}
}

// Past what a check's Age may be, and past what a number holds beside it.
var farMoments = []int{1000, 1001, 1002, 2000, 1 << 31, 1 << 32, 1<<32 + 3, 1 << 62, math.MaxInt - 1001, math.MaxInt - 1000, math.MaxInt - 999, math.MaxInt - 1, math.MaxInt}

func TestCheckTickFar(t *testing.T) {
	for _, n := range farMoments {
		mustTurnChecks(t, fmt.Sprintf("CheckTick by %d", n), []checkCase{
			{"new", checked(5, 2, 2, 0, 0), checked(5, 2, 2, 1000, 0), false},
			{"it passes", checked(5, 2, 0, 0, 0), checked(5, 2, 2, 1000, 0), true},
			{"it passes, one below Ttl", checked(5, 2, 0, 4, 0), checked(5, 2, 2, 1000, 0), true},
			{"it passes, the greatest Ttl", checked(1000, 2, 0, 0, 0), checked(1000, 2, 2, 1000, 0), true},
			{"it passes, one below the greatest Ttl", checked(1000, 2, 0, 999, 0), checked(1000, 2, 2, 1000, 0), true},
			{"it warns", checked(5, 2, 1, 1, 1), checked(5, 2, 2, 1000, 1), true},
			{"it is critical", checked(5, 2, 2, 6, 2), checked(5, 2, 2, 1000, 2), false},
			{"the greatest Age", checked(1, 2, 2, 1000, 0), checked(1, 2, 2, 1000, 0), false},
			{"without Ttl", checked(0, 2, 0, 0, 0), checked(0, 2, 0, 0, 0), false},
			{"without Ttl, with an Age", checked(0, 2, 1, 1000, 1), checked(0, 2, 1, 1000, 1), false},
		}, func(x impl.Check) (impl.Check, bool) { return impl.CheckTick(x, n) },
			func(x impl.Check) (impl.Check, bool) { return modelCheckTick(x, n) })
	}
}

func TestMomentsThatGoBack(t *testing.T) {
	for _, c := range []impl.Check{checked(5, 2, 2, 0, 0), checked(5, 2, 0, 4, 0), checked(5, 2, 1, 4, 1), checked(5, 2, 2, 1000, 2), checked(0, 1, 0, 0, 0), checked(0, 1, 2, 7, 1)} {
		for _, n := range []int{math.MinInt, math.MinInt + 1, -1000, -5, -2, -1} {
			if got, turned := impl.CheckTick(c, n); turned || !same(got, impl.Check{}) {
				t.Errorf("%s by %d: %s, %v", checkText(c), n, checkText(got), turned)
			}
		}
	}
}

func TestChecksThatMayNotBe(t *testing.T) {
	for _, edge := range badChecks() {
		if got, turned := impl.CheckPass(edge.check); turned || !same(got, impl.Check{}) {
			t.Errorf("CheckPass, %s: %s, %v", edge.what, checkText(got), turned)
		}
		if got, turned := impl.CheckFail(edge.check); turned || !same(got, impl.Check{}) {
			t.Errorf("CheckFail, %s: %s, %v", edge.what, checkText(got), turned)
		}
		for _, n := range []int{math.MinInt, -1, 0, 1, 5, 1000, math.MaxInt} {
			if got, turned := impl.CheckTick(edge.check, n); turned || !same(got, impl.Check{}) {
				t.Errorf("CheckTick by %d, %s: %s, %v", n, edge.what, checkText(got), turned)
			}
		}
	}
}

func TestWorst(t *testing.T) {
	passing, warning, critical := checked(5, 2, 0, 4, 0), checked(5, 2, 1, 0, 1), checked(5, 2, 2, 0, 0)
	bad := impl.Check{}
	for _, c := range []struct {
		what string
		list []impl.Check
		want int
	}{
		{"none", nil, impl.ChPassing},
		{"none, but not nil", []impl.Check{}, impl.ChPassing},
		{"one that passes", []impl.Check{passing}, impl.ChPassing},
		{"one that warns", []impl.Check{warning}, impl.ChWarning},
		{"one that warns without fails", []impl.Check{checked(0, 1, 1, 0, 0)}, impl.ChWarning},
		{"one that warns with Most", []impl.Check{checked(0, 1, 1, 0, 1)}, impl.ChWarning},
		{"one that is critical", []impl.Check{critical}, impl.ChCritical},
		{"one that may not be", []impl.Check{bad}, impl.ChCritical},
		{"all pass", []impl.Check{passing, passing, passing}, impl.ChPassing},
		{"the first one warns", []impl.Check{warning, passing, passing}, impl.ChWarning},
		{"one in the middle warns", []impl.Check{passing, warning, passing}, impl.ChWarning},
		{"the last one warns", []impl.Check{passing, passing, warning}, impl.ChWarning},
		{"the first one is critical", []impl.Check{critical, warning, passing}, impl.ChCritical},
		{"one in the middle is critical", []impl.Check{passing, critical, warning}, impl.ChCritical},
		{"the last one is critical", []impl.Check{passing, warning, critical}, impl.ChCritical},
		{"the first one may not be", []impl.Check{bad, passing, passing}, impl.ChCritical},
		{"one in the middle may not be", []impl.Check{passing, bad, warning}, impl.ChCritical},
		{"the last one may not be", []impl.Check{passing, passing, bad}, impl.ChCritical},
		{"names that do not ascend", []impl.Check{named("b", passing), named("a", warning), named("b", passing)}, impl.ChWarning},
		{"many that pass", slices.Repeat([]impl.Check{passing}, 100000), impl.ChPassing},
		{"many, the last one may not be", append(slices.Repeat([]impl.Check{passing}, 100000), bad), impl.ChCritical},
	} {
		if got := impl.Worst(c.list); got != c.want || modelWorst(c.list) != c.want {
			t.Errorf("%s: %d, not %d", c.what, got, c.want)
		}
	}
	for _, edge := range checkEdges() {
		want := impl.ChCritical
		if edge.ok {
			want = edge.check.Status
		}
		for _, list := range [][]impl.Check{{edge.check}, {edge.check, passing}, {passing, edge.check}} {
			if got := impl.Worst(list); got != want {
				t.Errorf("%s, one of %d: %d, not %d", edge.what, len(list), got, want)
			}
		}
	}
}

// All lists of up to four of the three statuses and one that may not be.
func TestWorstOfAllShortLists(t *testing.T) {
	kinds := []impl.Check{checked(5, 2, 0, 0, 0), checked(5, 2, 1, 0, 1), checked(5, 2, 2, 5, 0), checked(5, 2, 3, 0, 0)}
	eachOver([]byte{0, 1, 2, 3}, 4, func(b []byte) {
		var list []impl.Check
		want := 0
		for _, kind := range b {
			list = append(list, kinds[kind])
			want = max(want, min(int(kind), 2))
		}
		if got := impl.Worst(list); got != want || modelWorst(list) != want {
			t.Errorf("Worst of %v: %d, not %d", b, got, want)
		}
	})
}

func TestStatusText(t *testing.T) {
	for _, c := range []struct {
		status int
		want   string
	}{
		{impl.ChPassing, "passing"}, {impl.ChWarning, "warning"}, {impl.ChCritical, "critical"},
		{impl.ChPassing - 1, ""}, {impl.ChCritical + 1, ""}, {4, ""}, {1 << 8, ""}, {1<<8 + 1, ""}, {1 << 32, ""}, {1<<32 + 2, ""},
		{math.MinInt, ""}, {math.MinInt + 1, ""}, {math.MaxInt, ""},
	} {
		if got := impl.StatusText(c.status); string(got) != c.want {
			t.Errorf("StatusText(%d) = %q", c.status, got)
		}
	}
}

// Promise 19: who passed stays so for Ttl - 1 moments, at once, one by one and in parts, and is critical from Ttl on.
func TestWhoPassedIsSoUntilTtl(t *testing.T) {
	t.Parallel()
	r := rand.New(rand.NewSource(19))
	for ttl := 1; ttl <= impl.MaxTtl; ttl++ {
		had := checked(ttl, 1+ttl%impl.MaxFails, 2, r.Intn(impl.MaxTtl+1), r.Intn(2))
		fresh, turned := impl.CheckPass(had)
		if !turned || fresh.Status != impl.ChPassing {
			t.Fatalf("%s passed: %s, %v", checkText(had), checkText(fresh), turned)
		}
		c := fresh
		for gone := 0; gone < ttl; {
			n := r.Intn(ttl + 1)
			if ttl%2 == 0 {
				n = 1
			}
			is, turned := impl.CheckTick(c, n)
			atOnce, turnedAtOnce := impl.CheckTick(fresh, gone+n)
			gone += n
			over := gone >= ttl
			want := checked(ttl, fresh.Most, 0, min(gone, impl.MaxTtl), 0)
			if over {
				want.Status = impl.ChCritical
			}
			if !sameCheck(is, want) || turned != over || !sameCheck(atOnce, want) || turnedAtOnce != over {
				t.Fatalf("%s, %d moments behind its passing: %s, %v, at once %s, %v", checkText(c), gone, checkText(is), turned, checkText(atOnce), turnedAtOnce)
			}
			c = is
		}
		if again, turned := impl.CheckPass(c); !turned || !sameCheck(again, fresh) {
			t.Fatalf("%s passed again: %s, %v", checkText(c), checkText(again), turned)
		}
	}
}

// Promise 19: who is never heard of again, but has no Ttl, passes for ever.
func TestWhoHasNoTtlIsNotWaitedFor(t *testing.T) {
	for most := 1; most <= impl.MaxFails; most++ {
		c, _ := impl.CheckNew([]byte("c"), 0, most)
		c, _ = impl.CheckPass(c)
		for _, n := range append([]int{0, 1, 999}, farMoments...) {
			is, turned := impl.CheckTick(c, n)
			if turned || !sameCheck(is, checked(0, most, 0, 0, 0)) {
				t.Errorf("%s, %d moments later: %s, %v", checkText(c), n, checkText(is), turned)
			}
		}
	}
}

// Promise 19: of one that passed, the fails one behind the other warn, but the one that makes them Most; a pass begins anew.
func TestWhoFailedMostTimesIsCritical(t *testing.T) {
	for most := 1; most <= impl.MaxFails; most++ {
		for _, ttl := range []int{0, 1, 7, impl.MaxTtl} {
			fresh, _ := impl.CheckPass(checked(ttl, most, 2, 3, 0))
			c := fresh
			for fail := 1; fail <= most+2; fail++ {
				is, turned := impl.CheckFail(c)
				want := checked(ttl, most, impl.ChWarning, 0, min(fail, most))
				if fail >= most {
					want.Status = impl.ChCritical
				}
				if !sameCheck(is, want) || turned != (fail == 1 || fail == most) {
					t.Errorf("%s, fail %d: %s, %v", checkText(c), fail, checkText(is), turned)
				}
				if again, turned := impl.CheckPass(is); !turned || !sameCheck(again, fresh) {
					t.Errorf("%s passed: %s, %v", checkText(is), checkText(again), turned)
				}
				c = is
			}
		}
	}
}

// Promise 19: moments between fails count for the Ttl alone, and fails do not make who is not heard younger.
func TestFailsAndMomentsDoNotMix(t *testing.T) {
	c, _ := impl.CheckPass(checked(10, 4, 2, 0, 0))
	for _, step := range []struct {
		n    int // 0 fails
		want impl.Check
		turn bool
	}{
		{3, checked(10, 4, 0, 3, 0), false},
		{0, checked(10, 4, 1, 3, 1), true},
		{3, checked(10, 4, 1, 6, 1), false},
		{0, checked(10, 4, 1, 6, 2), false},
		{3, checked(10, 4, 1, 9, 2), false},
		{0, checked(10, 4, 1, 9, 3), false},
		{1, checked(10, 4, 2, 10, 3), true},
		{0, checked(10, 4, 2, 10, 4), false},
		{5, checked(10, 4, 2, 15, 4), false},
		{0, checked(10, 4, 2, 15, 4), false},
	} {
		was, is, turned := c, impl.Check{}, false
		if step.n == 0 {
			is, turned = impl.CheckFail(c)
		} else {
			is, turned = impl.CheckTick(c, step.n)
		}
		if !sameCheck(is, step.want) || turned != step.turn {
			t.Fatalf("%s, step %d: %s, %v", checkText(was), step.n, checkText(is), turned)
		}
		c = is
	}
}

// mustCheckAs holds all that becomes of c against the model, and what became against CheckOk.
func mustCheckAs(t *testing.T, c impl.Check, moments []int) {
	t.Helper()
	ok := modelCheckOk(c)
	if impl.CheckOk(c) != ok {
		t.Fatalf("CheckOk of %s is not %v", checkText(c), ok)
	}
	must := func(what string, got impl.Check, turned bool, want impl.Check, wanted bool) {
		t.Helper()
		if !sameCheck(got, want) || turned != wanted || impl.CheckOk(got) != !sameCheck(want, impl.Check{}) {
			t.Fatalf("%s: %s became %s, %v, not %s, %v", what, checkText(c), checkText(got), turned, checkText(want), wanted)
		}
	}
	got, turned := impl.CheckPass(c)
	want, wanted := modelCheckPass(c)
	must("CheckPass", got, turned, want, wanted)
	got, turned = impl.CheckFail(c)
	want, wanted = modelCheckFail(c)
	must("CheckFail", got, turned, want, wanted)
	for _, n := range moments {
		got, turned = impl.CheckTick(c, n)
		want, wanted = modelCheckTick(c, n)
		must(fmt.Sprintf("CheckTick by %d", n), got, turned, want, wanted)
	}
	if impl.Worst([]impl.Check{c}) != modelWorst([]impl.Check{c}) {
		t.Fatalf("Worst of %s", checkText(c))
	}
}

// All checks with each number at an edge or beside one, those that may not be among them.
func TestChecksAtAllEdges(t *testing.T) {
	t.Parallel()
	far := []int{math.MinInt, -1, 0, 1, 2, 3, 4, 5, 6, math.MaxInt}
	long := []int{math.MinInt, -1, 0, 1, 2, 3, 500, 998, 999, 1000, 1001, math.MaxInt}
	moments := []int{math.MinInt, -1, 0, 1, 2, 499, 1000, math.MaxInt}
	good := 0
	for _, ttl := range long {
		for _, age := range long {
			for _, most := range far {
				for _, fails := range far {
					for _, status := range []int{math.MinInt, -1, 0, 1, 2, 3, math.MaxInt} {
						c := checked(ttl, most, status, age, fails)
						if modelCheckOk(c) {
							good++
						}
						mustCheckAs(t, c, moments)
					}
				}
			}
		}
	}
	if good < 2000 {
		t.Errorf("%d that may be", good)
	}
}

// Checks that live for a while, by what is drawn, against the model; and how moments may be parted.
func TestDrawnChecks(t *testing.T) {
	t.Parallel()
	var turns [3][3]int
	for seed := range int64(200) {
		r := rand.New(rand.NewSource(1300 + seed))
		ttl := []int{0, 1, 2, 1 + r.Intn(20), 1 + r.Intn(20), impl.MaxTtl}[r.Intn(6)]
		c, ok := impl.CheckNew([]byte(goodNames[r.Intn(len(goodNames))]), ttl, 1+r.Intn(impl.MaxFails))
		if !ok {
			t.Fatal(checkText(c))
		}
		for range 200 {
			n, m := r.Intn(ttl/2+2), r.Intn(ttl+2)
			mustCheckAs(t, c, []int{n, m})
			first, _ := impl.CheckTick(c, n)
			parts, _ := impl.CheckTick(first, m)
			if whole, _ := impl.CheckTick(c, n+m); !sameCheck(parts, whole) {
				t.Fatalf("%s by %d and %d: %s, at once %s", checkText(c), n, m, checkText(parts), checkText(whole))
			}
			was, turned := c, false
			switch kind := r.Intn(10); {
			case kind < 3:
				c, turned = impl.CheckPass(c)
			case kind < 6:
				c, turned = impl.CheckFail(c)
			default:
				c, turned = impl.CheckTick(c, n)
			}
			if turned != (c.Status != was.Status) {
				t.Fatalf("%s became %s, %v", checkText(was), checkText(c), turned)
			}
			turns[was.Status][c.Status]++
		}
	}
	for was, row := range turns {
		for is, count := range row {
			// Who is critical warns no more: it fails on, or passes.
			if never := was == 2 && is == 1; never != (count == 0) {
				t.Errorf("from %d to %d: %d times", was, is, count)
			}
		}
	}
}

func TestChecksInMemory(t *testing.T) {
	checks := []impl.Check{
		{}, {Name: []byte{}}, checked(5, 2, 2, 0, 0), checked(5, 2, 0, 4, 0), checked(5, 2, 1, 4, 1), checked(5, 2, 2, 5, 2), checked(0, 2, 0, 7, 0), checked(5, 2, 0, 5, 0), checked(5, 0, 2, 0, 0),
		named("abcdefghijklmnopqrst", checked(5, 2, 1, 4, 1)), named("abcdefghijklmnopqrstu", checked(5, 2, 1, 4, 1)), named("A", checked(5, 2, 0, 0, 0)),
	}
	for _, one := range checks {
		c := withRoom(one)
		what := checkText(c)
		mustKeep(t, "CheckOk: "+what, []any{c}, func() []any { return []any{impl.CheckOk(c)} })
		mustKeep(t, "CheckNew: "+what, []any{c}, func() []any { return two(impl.CheckNew(c.Name, c.Ttl, c.Most)) })
		mustKeep(t, "CheckPass: "+what, []any{c}, func() []any { return two(impl.CheckPass(c)) })
		mustKeep(t, "CheckFail: "+what, []any{c}, func() []any { return two(impl.CheckFail(c)) })
		for _, n := range []int{-1, 0, 1, 5, math.MaxInt} {
			mustKeep(t, fmt.Sprintf("CheckTick by %d: %s", n, what), []any{c}, func() []any { return two(impl.CheckTick(c, n)) })
		}
		mustCheckAs(t, c, []int{-1, 0, 1, 5, math.MaxInt})
	}
	for size := range len(checks) + 1 {
		list := withRoom(checks[:size])
		mustKeep(t, fmt.Sprintf("Worst of %d", size), []any{list}, func() []any { return []any{impl.Worst(list)} })
	}
	// What lies behind a list's length is not read: the marked one there may not be.
	if list := withRoom([]impl.Check{checked(5, 2, 1, 0, 1)}); impl.Worst(list) != impl.ChWarning || impl.Worst(list[:0]) != impl.ChPassing {
		t.Errorf("Worst of one is %d, of none %d", impl.Worst(list), impl.Worst(list[:0]))
	}
}

// An argument's name and an answer's text may be written over: nothing else shows it.
func TestNothingOfChecksIsKept(t *testing.T) {
	name := []byte("web")
	first, _ := impl.CheckNew(name, 5, 2)
	copy(name, "xyz")
	passed, _ := impl.CheckPass(first)
	failed, _ := impl.CheckFail(first)
	ticked, _ := impl.CheckTick(first, 1)
	still, _ := impl.CheckTick(named("web", checked(0, 2, 0, 0, 0)), 1)
	for _, c := range []impl.Check{passed, failed, ticked, still} {
		if string(c.Name) != "web" {
			t.Errorf("%s is no web", checkText(c))
		}
		c.Name[0] = 'x'
	}
	if string(first.Name) != "web" {
		t.Errorf("%s is no web", checkText(first))
	}
	for status, want := range []string{"passing", "warning", "critical"} {
		text := impl.StatusText(status)
		copy(text, "written over")
		if got := impl.StatusText(status); string(got) != want {
			t.Errorf("StatusText(%d) = %q", status, got)
		}
	}
}
