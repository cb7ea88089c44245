package tests

import (
	"bytes"
	"fmt"
	"math"
	"math/rand"
	"slices"
	"strings"
	"testing"

	"loop.example/g00365/impl"
)

func TestLimitsOfAgents(t *testing.T) {
	if impl.MaxServices != 6 || impl.MaxChecks != 4 {
		t.Errorf("MaxServices is %d, MaxChecks %d", impl.MaxServices, impl.MaxChecks)
	}
}

type localEdge struct {
	what  string
	ok    bool
	local impl.Local
}

var (
	// With the node na and with a service of this name there would be no agent.
	badServiceNames = []string{"", "/", "//", "c/", "/c", "c/c", "C", "`", "{", "a`", "a{", ".", "c.", "c c", " c", "c ", "0", "c0", "c\x00", "\x00", "\xff", "ä", "abcdefghijklmn", "abcdefghijklmnopqrst", "abcdefghijklmnopqrstu", strings.Repeat("a", 1000000)}
	// These names are keys and have no /, but their places are too long beside the node na.
	longServiceNames = []string{"abcdefghijklmn", "abcdefghijklmno", "zzzzzzzzzzzzzzzzzzzz"}
)

func localEdges() []localEdge {
	return slices.Concat(nodeNameEdges(), serviceEdges(), placeEdges(), checkListEdges())
}

func nodeNameEdges() []localEdge {
	edges := []localEdge{
		{"zero", false, impl.Local{}},
		{"zero but for Services", false, impl.Local{Services: []impl.Service{service("a")}}},
		{"Node empty, but not nil", false, impl.Local{Node: []byte{}}},
		{"Node alone", true, agentOf("na")},
		{"no Services, but not nil", true, impl.Local{Node: []byte("na"), Services: []impl.Service{}}},
	}
	for _, node := range []string{"a", "z", "na", "nodes", "abcdefghijklmnopqrst", "zzzzzzzzzzzzzzzzzzzz"} {
		edges = append(edges, localEdge{"Node " + node, true, agentOf(node)})
	}
	for _, node := range []string{"", "/", "//", "a/", "/a", "a/b", "abcdefghij/lmnopqrst", "A", "aB", "`", "{", ".", "a.", "0", "a0", "-", " ", "a ", " a", "a\x00", "\x00", "\xff", "a\n", "ä", "abcdefghijklmnopqrstu", strings.Repeat("a", 1000000)} {
		edges = append(edges,
			localEdge{fmt.Sprintf("Node %.30q", node), false, agentOf(node)},
			localEdge{fmt.Sprintf("Node %.30q with a service", node), false, agentOf(node, "web")},
		)
	}
	return edges
}

func serviceEdges() []localEdge {
	six := agentOf("na", "a", "b", "c", "d", "e", "f")
	edges := []localEdge{
		{"one", true, agentOf("na", "web")},
		{"one like the node", true, agentOf("na", "na")},
		{"one like what is ahead of all", true, agentOf("svc", "svc")},
		{"two", true, agentOf("na", "api", "web")},
		{"three, of which each begins with the one ahead", true, agentOf("na", "a", "aa", "aab")},
		{"five", true, agentOf("na", "a", "b", "c", "d", "e")},
		{"MaxServices", true, six},
		{"one more", false, agentOf("na", "a", "b", "c", "d", "e", "f", "g")},
		{"one more, the last again", false, agentOf("na", "a", "b", "c", "d", "e", "f", "f")},
		{"one more, that may not be", false, impl.Local{Node: []byte("na"), Services: append(slices.Clone(six.Services), service(""))}},
		{"far too many", false, impl.Local{Node: []byte("na"), Services: make([]impl.Service, 1000000)}},
		{"two alike", false, agentOf("na", "web", "web")},
		{"two alike but for a check", false, agentOf("na", "web", "web c0")},
		{"the first two alike", false, agentOf("na", "a", "a", "b")},
		{"the last two alike", false, agentOf("na", "a", "b", "b")},
		{"the last of MaxServices twice", false, agentOf("na", "a", "b", "c", "d", "e", "e")},
		{"two alike, apart", false, agentOf("na", "a", "b", "a")},
		{"two that go down", false, agentOf("na", "web", "api")},
		{"the first two go down", false, agentOf("na", "b", "a", "c")},
		{"the last two go down", false, agentOf("na", "a", "c", "b")},
		{"the last of MaxServices goes down", false, agentOf("na", "a", "b", "c", "d", "f", "e")},
		{"one behind another that begins with it", false, agentOf("na", "aa", "a")},
		{"by how long they are, not by their bytes", false, agentOf("na", "b", "aa")},
	}
	for _, name := range badServiceNames {
		bad := service(name)
		what := fmt.Sprintf("a service %.30q", name)
		edges = append(edges,
			localEdge{what + " alone", false, impl.Local{Node: []byte("na"), Services: []impl.Service{bad}}},
			localEdge{what + " first", false, impl.Local{Node: []byte("na"), Services: []impl.Service{bad, service("b"), service("c")}}},
			localEdge{what + " in the middle", false, impl.Local{Node: []byte("na"), Services: []impl.Service{service("a"), bad, service("z")}}},
			localEdge{what + " last", false, impl.Local{Node: []byte("na"), Services: []impl.Service{service("a"), service("aa"), bad}}},
		)
	}
	return edges
}

// placeEdges answers agents whose services' places are just keys, or one byte too long for one.
func placeEdges() []localEdge {
	var edges []localEdge
	for node := 1; node <= 20; node++ {
		for name := 1; name <= 21; name++ {
			l := agentOf(strings.Repeat("n", node), strings.Repeat("s", name))
			edges = append(edges, localEdge{fmt.Sprintf("a Node of %d bytes, a Name of %d", node, name), 4+node+1+name <= 20, l})
		}
	}
	return append(edges,
		localEdge{"the first place too long", false, agentOf("na", "aaaaaaaaaaaaaa", "b", "c")},
		localEdge{"the second place too long", false, agentOf("na", "a", "bbbbbbbbbbbbbb", "c")},
		localEdge{"the last place too long", false, agentOf("na", "a", "b", "cccccccccccccc")},
		localEdge{"all places just keys", true, agentOf("na", "aaaaaaaaaaaaa", "bbbbbbbbbbbbb", "ccccccccccccc")},
	)
}

func checkListEdges() []localEdge {
	edges := []localEdge{
		{"no Checks, but not nil", true, impl.Local{Node: []byte("na"), Services: []impl.Service{{Name: []byte("web"), Checks: []impl.Check{}}}}},
		{"a check", true, agentOf("na", "web c0")},
		{"checks in each Status", true, agentOf("na", "web a0 b1 c2")},
		{"MaxChecks", true, agentOf("na", "web a0 b1 c2 d0")},
		{"MaxChecks of the first and the last one", true, agentOf("na", "a a0 b1 c2 d0", "b", "c a0 b1 c2 d0")},
		{"MaxChecks of MaxServices", true, fullAgent()},
		{"a check too many", false, agentOf("na", "web a0 b1 c2 d0 e0")},
		{"a check too many of the first one", false, agentOf("na", "a a0 b1 c2 d0 e0", "b", "c")},
		{"a check too many of the one in the middle", false, agentOf("na", "a", "b a0 b1 c2 d0 e0", "c")},
		{"a check too many of the last one", false, agentOf("na", "a", "b", "c a0 b1 c2 d0 e0")},
		{"far too many checks", false, impl.Local{Node: []byte("na"), Services: []impl.Service{service("web", make([]impl.Check, 1000000)...)}}},
		{"names with /", true, agentOf("na", "web /0 //0 a/b1")},
		{"the longest name", true, agentOf("na", "web abcdefghijklmnopqrst0")},
		{"the names of services", true, agentOf("na", "api api0 web1", "web api0 web1")},
		{"checks alike of two services", true, agentOf("na", "api c0", "web c0")},
		{"checks that go down from one service to the next", true, agentOf("na", "api d0", "web c0")},
		{"checks alike", false, agentOf("na", "web c0 c0")},
		{"checks of one name", false, agentOf("na", "web c0 c2")},
		{"the last checks of one name", false, agentOf("na", "web a0 b0 c0 c1")},
		{"checks of one name, apart", false, agentOf("na", "web c0 d0 c0")},
		{"checks that go down", false, agentOf("na", "web b0 a0")},
		{"the first checks go down", false, agentOf("na", "web b0 a0 c0")},
		{"the last checks go down", false, agentOf("na", "web a0 b0 d0 c0")},
		{"a check behind another that begins with it", false, agentOf("na", "web cc0 c0")},
		{"checks that go down, of the last one", false, agentOf("na", "a", "b", "c b0 a0")},
	}
	for _, edge := range checkEdges() {
		l := agentOf("na", "a", "b", "c")
		l.Services[1].Checks = []impl.Check{edge.check}
		edges = append(edges, localEdge{"with a check, " + edge.what, edge.ok, l})
	}
	for place := range 4 {
		for _, bad := range []impl.Check{{}, checked(5, 2, 3, 0, 0), checked(5, 2, 0, 5, 0), checked(5, 2, 0, 0, 1), checked(1001, 2, 2, 0, 0), checked(5, 0, 2, 0, 0)} {
			for at := range 3 {
				l := agentOf("na", "a a0 b1 c2 d0", "b a0 b1 c2 d0", "c a0 b1 c2 d0")
				l.Services[at].Checks[place] = named(string("abcd"[place]), bad)
				edges = append(edges, localEdge{fmt.Sprintf("at %d of service %d a bad check, %s", place, at, checkText(bad)), false, l})
			}
		}
	}
	return edges
}

// fullAgent answers an agent whose lists are all at their most.
func fullAgent() impl.Local {
	l := agentOf("na")
	for _, name := range "abcdef" {
		l.Services = append(l.Services, agentOf("na", string(name)+" a0 b1 c2 d0").Services...)
	}
	return l
}

func badLocals() []localEdge {
	return slices.DeleteFunc(localEdges(), func(edge localEdge) bool { return edge.ok })
}

func TestLocalOk(t *testing.T) {
	for _, edge := range localEdges() {
		if impl.LocalOk(edge.local) != edge.ok {
			t.Errorf("LocalOk, %s: not %v", edge.what, edge.ok)
		}
		if modelLocalOk(edge.local) != edge.ok {
			t.Errorf("the model, %s: not %v", edge.what, edge.ok)
		}
	}
}

func TestEachByteOfNodesAndServices(t *testing.T) {
	for c := range 256 {
		want := c >= 'a' && c <= 'z'
		for _, text := range [][]byte{{byte(c)}, {byte(c), 'n'}, {'n', byte(c)}, {'n', byte(c), 'n'}} {
			if impl.LocalOk(impl.Local{Node: text}) != want {
				t.Errorf("LocalOk with Node %q is not %v", text, want)
			}
			if impl.LocalOk(impl.Local{Node: []byte("n"), Services: []impl.Service{{Name: text}}}) != want {
				t.Errorf("LocalOk with a service %q is not %v", text, want)
			}
			if _, ok := impl.LocalAdd(agentOf("n"), text); ok != want {
				t.Errorf("LocalAdd of %q is %v", text, ok)
			}
		}
	}
}

type localCase struct {
	what string
	have impl.Local
	name string
	want impl.Local // as it was, where Node is empty
}

func mustTurnLocals(t *testing.T, call string, cases []localCase, real, model func(l impl.Local, name []byte) (impl.Local, bool)) {
	t.Helper()
	for _, c := range cases {
		want, turns := c.want, len(c.want.Node) > 0
		if !turns {
			want = c.have
		}
		if !impl.LocalOk(c.have) || !impl.LocalOk(want) {
			t.Errorf("%s, %s: %s, %s", call, c.what, localText(c.have), localText(want))
		}
		if got, turned := real(c.have, []byte(c.name)); !same(got, want) || turned != turns {
			t.Errorf("%s %.30q, %s: %s became %s, %v, not %s, %v", call, c.name, c.what, localText(c.have), localText(got), turned, localText(want), turns)
		}
		if got, turned := model(c.have, []byte(c.name)); !same(got, want) || turned != turns {
			t.Errorf("the model: %s %.30q, %s: %s became %s, %v", call, c.name, c.what, localText(c.have), localText(got), turned)
		}
	}
}

func TestLocalAdd(t *testing.T) {
	three := agentOf("na", "cc a0 b1", "ff", "mm c2")
	six := agentOf("na", "b", "d", "f a1", "h", "j", "l")
	no := impl.Local{}
	cases := []localCase{
		{"the first one", agentOf("na"), "web", agentOf("na", "web")},
		{"ahead of one", agentOf("na", "web a0"), "api", agentOf("na", "api", "web a0")},
		{"behind one", agentOf("na", "api a0"), "web", agentOf("na", "api a0", "web")},
		{"at the first place", three, "aa", agentOf("na", "aa", "cc a0 b1", "ff", "mm c2")},
		{"just ahead of the first", three, "cb", agentOf("na", "cb", "cc a0 b1", "ff", "mm c2")},
		{"what the first begins with", three, "c", agentOf("na", "c", "cc a0 b1", "ff", "mm c2")},
		{"what begins with the first", three, "cca", agentOf("na", "cc a0 b1", "cca", "ff", "mm c2")},
		{"in the middle", three, "ee", agentOf("na", "cc a0 b1", "ee", "ff", "mm c2")},
		{"behind the middle", three, "fg", agentOf("na", "cc a0 b1", "ff", "fg", "mm c2")},
		{"just ahead of the last", three, "ml", agentOf("na", "cc a0 b1", "ff", "ml", "mm c2")},
		{"at the last place", three, "zz", agentOf("na", "cc a0 b1", "ff", "mm c2", "zz")},
		{"like the node", three, "na", agentOf("na", "cc a0 b1", "ff", "mm c2", "na")},
		{"of a check's name", three, "a", agentOf("na", "a", "cc a0 b1", "ff", "mm c2")},
		{"there, the first", three, "cc", no},
		{"there, in the middle", three, "ff", no},
		{"there, the last", three, "mm", no},
		{"there, alone", agentOf("na", "web"), "web", no},
		{"its place just a key", three, "aaaaaaaaaaaaa", agentOf("na", "aaaaaaaaaaaaa", "cc a0 b1", "ff", "mm c2")},
		{"its place just a key, last", three, "zzzzzzzzzzzzz", agentOf("na", "cc a0 b1", "ff", "mm c2", "zzzzzzzzzzzzz")},
		{"its place just a key, of a Node of 14 bytes", agentOf("abcdefghijklmn"), "a", agentOf("abcdefghijklmn", "a")},
		{"its place too long, of a Node of 14 bytes", agentOf("abcdefghijklmn"), "ab", no},
		{"its place too long, of a Node of 15 bytes", agentOf("abcdefghijklmno"), "a", no},
		{"its place too long, of a Node of 20 bytes", agentOf("abcdefghijklmnopqrst"), "a", no},
		{"the sixth at the first place", agentOf("na", "d", "f", "h", "j", "l"), "b", agentOf("na", "b", "d", "f", "h", "j", "l")},
		{"the sixth in the middle", agentOf("na", "b", "d", "f", "j", "l"), "h", agentOf("na", "b", "d", "f", "h", "j", "l")},
		{"the sixth at the last place", agentOf("na", "b", "d", "f", "h", "j"), "l", agentOf("na", "b", "d", "f", "h", "j", "l")},
		{"past MaxServices at the first place", six, "a", no},
		{"past MaxServices in the middle", six, "g", no},
		{"past MaxServices at the last place", six, "m", no},
		{"past MaxServices, there", six, "f", no},
		{"past MaxServices and too long", six, "zzzzzzzzzzzzzz", no},
		{"past MaxServices, no name", six, "", no},
	}
	for _, name := range append(slices.Clone(badServiceNames), longServiceNames...) {
		cases = append(cases, localCase{"a name that may not be", three, name, no}, localCase{"alone, a name that may not be", agentOf("na"), name, no})
	}
	mustTurnLocals(t, "LocalAdd", cases, impl.LocalAdd, modelLocalAdd)
	if got, ok := impl.LocalAdd(three, nil); ok || !same(got, three) {
		t.Errorf("LocalAdd of no name: %s, %v", localText(got), ok)
	}
}

func TestLocalDrop(t *testing.T) {
	three := agentOf("na", "cc a0 b1", "ff", "mm c2")
	no := impl.Local{}
	cases := []localCase{
		{"the first", three, "cc", agentOf("na", "ff", "mm c2")},
		{"in the middle", three, "ff", agentOf("na", "cc a0 b1", "mm c2")},
		{"the last", three, "mm", agentOf("na", "cc a0 b1", "ff")},
		{"the only one", agentOf("na", "web a0"), "web", agentOf("na")},
		{"the first of MaxServices", fullAgent(), "a", impl.Local{Node: []byte("na"), Services: fullAgent().Services[1:]}},
		{"the last of MaxServices", fullAgent(), "f", impl.Local{Node: []byte("na"), Services: fullAgent().Services[:5]}},
		{"of none", agentOf("na"), "web", no},
		{"of none, no name", agentOf("na"), "", no},
		{"ahead of all", three, "aa", no},
		{"what the first begins with", three, "c", no},
		{"what begins with the first", three, "cca", no},
		{"between the first two", three, "dd", no},
		{"between the last two", three, "gg", no},
		{"behind all", three, "zz", no},
		{"what the last begins with", three, "m", no},
		{"what begins with the last", three, "mma", no},
		{"the node", three, "na", no},
		{"a check's name", three, "a", no},
		{"its place", three, "svc/na/cc", no},
	}
	for _, name := range append(slices.Clone(badServiceNames), longServiceNames...) {
		cases = append(cases, localCase{"a name that may not be", three, name, no})
	}
	mustTurnLocals(t, "LocalDrop", cases, impl.LocalDrop, modelLocalDrop)
	if got, ok := impl.LocalDrop(three, nil); ok || !same(got, three) {
		t.Errorf("LocalDrop of no name: %s, %v", localText(got), ok)
	}
}

func TestLocalCheck(t *testing.T) {
	three := agentOf("na", "cc b0 d1", "ff", "mm b2 d0 f1 h0")
	no := impl.Local{}
	for _, c := range []struct {
		check string
		cases []localCase
	}{
		{"a1", []localCase{
			{"new, at the first place", three, "cc", agentOf("na", "cc a1 b0 d1", "ff", "mm b2 d0 f1 h0")},
			{"new, the first one", three, "ff", agentOf("na", "cc b0 d1", "ff a1", "mm b2 d0 f1 h0")},
			{"past MaxChecks, at the first place", three, "mm", no},
			{"of the only service", agentOf("na", "web"), "web", agentOf("na", "web a1")},
			{"of no service", agentOf("na"), "web", no},
			{"of none, ahead of all", three, "aa", no},
			{"of none, what the first begins with", three, "c", no},
			{"of none, between two", three, "dd", no},
			{"of none, behind all", three, "zz", no},
			{"of none, no name", three, "", no},
			{"of none, a name with /", three, "c/c", no},
			{"of none, too long", three, "abcdefghijklmnopqrstu", no},
			{"of none, a check's name", three, "b", no},
		}},
		{"c2", []localCase{
			{"new, in the middle", three, "cc", agentOf("na", "cc b0 c2 d1", "ff", "mm b2 d0 f1 h0")},
			{"past MaxChecks, in the middle", three, "mm", no},
			{"the fourth", agentOf("na", "web b0 d0 f0"), "web", agentOf("na", "web b0 c2 d0 f0")},
		}},
		{"z0", []localCase{
			{"new, at the last place", three, "cc", agentOf("na", "cc b0 d1 z0", "ff", "mm b2 d0 f1 h0")},
			{"past MaxChecks, at the last place", three, "mm", no},
			{"the fourth, last", agentOf("na", "web b0 d0 f0"), "web", agentOf("na", "web b0 d0 f0 z0")},
		}},
		{"b1", []localCase{
			{"there, at the first place", three, "cc", agentOf("na", "cc b1 d1", "ff", "mm b2 d0 f1 h0")},
			{"there, at the first of MaxChecks", three, "mm", agentOf("na", "cc b0 d1", "ff", "mm b1 d0 f1 h0")},
			{"not there, but of another service", three, "ff", agentOf("na", "cc b0 d1", "ff b1", "mm b2 d0 f1 h0")},
		}},
		{"d0", []localCase{
			{"there, at the last place", three, "cc", agentOf("na", "cc b0 d0", "ff", "mm b2 d0 f1 h0")},
			{"the fourth, at the first place", agentOf("na", "web f0 h0 j0"), "web", agentOf("na", "web d0 f0 h0 j0")},
		}},
		{"f2", []localCase{
			{"there, in the middle of MaxChecks", three, "mm", agentOf("na", "cc b0 d1", "ff", "mm b2 d0 f2 h0")},
		}},
		{"h2", []localCase{
			{"there, at the last of MaxChecks", three, "mm", agentOf("na", "cc b0 d1", "ff", "mm b2 d0 f1 h2")},
		}},
		{"bb0", []localCase{
			{"new, begins with one that is there", three, "cc", agentOf("na", "cc b0 bb0 d1", "ff", "mm b2 d0 f1 h0")},
		}},
		{"a/b0", []localCase{
			{"new, with /", three, "cc", agentOf("na", "cc a/b0 b0 d1", "ff", "mm b2 d0 f1 h0")},
		}},
		{"abcdefghijklmnopqrst0", []localCase{
			{"new, with the longest name", three, "ff", agentOf("na", "cc b0 d1", "ff abcdefghijklmnopqrst0", "mm b2 d0 f1 h0")},
		}},
	} {
		check := checkOf(c.check)
		mustTurnLocals(t, "LocalCheck with "+c.check+" of", c.cases,
			func(l impl.Local, name []byte) (impl.Local, bool) { return impl.LocalCheck(l, name, check) },
			func(l impl.Local, name []byte) (impl.Local, bool) { return modelLocalCheck(l, name, check) })
	}
	// The same one again is put, too.
	if got, ok := impl.LocalCheck(three, []byte("cc"), checkOf("b0")); !ok || !same(got, three) {
		t.Errorf("the same check again: %s, %v", localText(got), ok)
	}
}

// In the place of a check is all of the new one, whatever its numbers.
func TestLocalCheckOfEachCheck(t *testing.T) {
	l := agentOf("na", "api a0 c1 e2", "web")
	for _, edge := range checkEdges() {
		for _, name := range []string{"api", "web", "none", ""} {
			got, ok := impl.LocalCheck(l, []byte(name), edge.check)
			want, wanted := modelLocalCheck(l, []byte(name), edge.check)
			if !sameLocal(got, want) || ok != wanted || ok != (edge.ok && len(name) == 3) {
				t.Errorf("LocalCheck of %q, %s: %s, %v", name, edge.what, localText(got), ok)
			}
			if !edge.ok && !same(got, impl.Local{}) {
				t.Errorf("LocalCheck of %q, %s: not the zero value, but %s", name, edge.what, localText(got))
			}
		}
	}
}

func TestAgentsThatMayNotBe(t *testing.T) {
	s := saying("svc/na/a=passing", "svc/na/web=passing")
	for _, edge := range badLocals() {
		l := edge.local
		for _, name := range []string{"", "a", "b", "web", "new", "no/name"} {
			if got, ok := impl.LocalAdd(l, []byte(name)); ok || !same(got, impl.Local{}) {
				t.Errorf("LocalAdd of %q, %s: %s, %v", name, edge.what, localText(got), ok)
			}
			if got, ok := impl.LocalDrop(l, []byte(name)); ok || !same(got, impl.Local{}) {
				t.Errorf("LocalDrop of %q, %s: %s, %v", name, edge.what, localText(got), ok)
			}
			for _, c := range []impl.Check{checkOf("a0"), {}} {
				if got, ok := impl.LocalCheck(l, []byte(name), c); ok || !same(got, impl.Local{}) {
					t.Errorf("LocalCheck of %q, %s: %s, %v", name, edge.what, localText(got), ok)
				}
			}
		}
		for _, n := range []int{-1, 0, 1, 5, math.MaxInt} {
			if got, turns := impl.LocalTick(l, n); turns != 0 || !same(got, impl.Local{}) {
				t.Errorf("LocalTick by %d, %s: %s, %d", n, edge.what, localText(got), turns)
			}
		}
		if got := impl.Want(l); len(got) > 0 {
			t.Errorf("Want, %s: %s", edge.what, pairTexts(got))
		}
		for _, s := range []impl.State{{}, s, {Index: -1}} {
			if got, ok := impl.Plan(l, s); ok || len(got) > 0 || impl.Synced(l, s) {
				t.Errorf("Plan, %s: %s, %v", edge.what, opTexts(got), ok)
			}
		}
	}
}

func TestLocalTick(t *testing.T) {
	agent := func(a, b, c, d impl.Check) impl.Local {
		return impl.Local{Node: []byte("na"), Services: []impl.Service{
			service("api", named("a", a), named("b", b)), service("idle"), service("web", named("a", c), named("z", d)),
		}}
	}
	// One that passes, one that warns, one that is critical already, and one that is not waited for.
	have := agent(checked(5, 2, 0, 0, 0), checked(7, 3, 1, 1, 2), checked(5, 2, 2, 0, 1), checked(0, 2, 0, 9, 0))
	for _, c := range []struct {
		n     int
		want  impl.Local
		turns int
	}{
		{0, have, 0},
		{1, agent(checked(5, 2, 0, 1, 0), checked(7, 3, 1, 2, 2), checked(5, 2, 2, 1, 1), checked(0, 2, 0, 9, 0)), 0},
		{4, agent(checked(5, 2, 0, 4, 0), checked(7, 3, 1, 5, 2), checked(5, 2, 2, 4, 1), checked(0, 2, 0, 9, 0)), 0},
		{5, agent(checked(5, 2, 2, 5, 0), checked(7, 3, 1, 6, 2), checked(5, 2, 2, 5, 1), checked(0, 2, 0, 9, 0)), 1},
		{6, agent(checked(5, 2, 2, 6, 0), checked(7, 3, 2, 7, 2), checked(5, 2, 2, 6, 1), checked(0, 2, 0, 9, 0)), 2},
		{999, agent(checked(5, 2, 2, 999, 0), checked(7, 3, 2, 1000, 2), checked(5, 2, 2, 999, 1), checked(0, 2, 0, 9, 0)), 2},
		{1000, agent(checked(5, 2, 2, 1000, 0), checked(7, 3, 2, 1000, 2), checked(5, 2, 2, 1000, 1), checked(0, 2, 0, 9, 0)), 2},
	} {
		if got, turns := impl.LocalTick(have, c.n); !same(got, c.want) || turns != c.turns {
			t.Errorf("LocalTick by %d: %s, %d, not %s, %d", c.n, localText(got), turns, localText(c.want), c.turns)
		}
		if got, turns := modelLocalTick(have, c.n); !same(got, c.want) || turns != c.turns {
			t.Errorf("the model: LocalTick by %d: %s, %d", c.n, localText(got), turns)
		}
	}
	far := agent(checked(5, 2, 2, 1000, 0), checked(7, 3, 2, 1000, 2), checked(5, 2, 2, 1000, 1), checked(0, 2, 0, 9, 0))
	for _, n := range farMoments {
		if got, turns := impl.LocalTick(have, n); !same(got, far) || turns != 2 {
			t.Errorf("LocalTick by %d: %s, %d", n, localText(got), turns)
		}
	}
	for _, n := range []int{math.MinInt, -1000, -5, -1} {
		for _, l := range []impl.Local{have, agentOf("na"), agentOf("na", "web"), fullAgent()} {
			if got, turns := impl.LocalTick(l, n); turns != 0 || !same(got, impl.Local{}) {
				t.Errorf("LocalTick of %s by %d: %s, %d", localText(l), n, localText(got), turns)
			}
		}
	}
}

// How many turned is told of all services together, wherever those stand that did.
func TestHowManyChecksTurned(t *testing.T) {
	for _, c := range []struct {
		what  string
		l     impl.Local
		n     int
		turns int
	}{
		{"no services", agentOf("na"), 1000, 0},
		{"no checks", agentOf("na", "a", "b"), 1000, 0},
		{"all that are not critical yet", fullAgent(), 5, 18},
		{"one moment short", fullAgent(), 4, 0},
		{"the first one", agentOf("na", "a a0 b2", "b a2"), 5, 1},
		{"the last one", agentOf("na", "a a2 b2", "b a2 z1"), 5, 1},
		{"all", agentOf("na", "a a0 b1 c0 d1"), 5, 4},
		{"none, all are critical", agentOf("na", "a a2 b2", "b a2"), 5, 0},
	} {
		if got, turns := impl.LocalTick(c.l, c.n); turns != c.turns || !impl.LocalOk(got) {
			t.Errorf("%s: %d, not %d", c.what, turns, c.turns)
		}
		if got, turns := impl.LocalTick(c.l, 0); turns != 0 || !same(got, c.l) {
			t.Errorf("%s, by 0: %s, %d", c.what, localText(got), turns)
		}
	}
}

func TestWant(t *testing.T) {
	late, _ := impl.LocalTick(agentOf("na", "api a0", "web"), 5)
	for _, c := range []struct {
		what string
		l    impl.Local
		want string
	}{
		{"none", agentOf("na"), ""},
		{"none of the longest Node", agentOf("abcdefghijklmnopqrst"), ""},
		{"without checks", agentOf("na", "web"), "svc/na/web=passing"},
		{"one that passes", agentOf("na", "web a0"), "svc/na/web=passing"},
		{"one that warns", agentOf("na", "web a1"), "svc/na/web=warning"},
		{"one that is critical", agentOf("na", "web a2"), "svc/na/web=critical"},
		{"all pass", agentOf("na", "web a0 b0 c0 d0"), "svc/na/web=passing"},
		{"the first one warns", agentOf("na", "web a1 b0 c0 d0"), "svc/na/web=warning"},
		{"the last one warns", agentOf("na", "web a0 b0 c0 d1"), "svc/na/web=warning"},
		{"the first one is critical", agentOf("na", "web a2 b1 c0 d0"), "svc/na/web=critical"},
		{"one in the middle is critical", agentOf("na", "web a0 b2 c1 d0"), "svc/na/web=critical"},
		{"the last one is critical", agentOf("na", "web a0 b1 c0 d2"), "svc/na/web=critical"},
		{"several", agentOf("na", "api a1", "db", "web a0 b2"), "svc/na/api=warning svc/na/db=passing svc/na/web=critical"},
		{"each has its own checks", agentOf("na", "a a2", "b a0", "c a1", "d"), "svc/na/a=critical svc/na/b=passing svc/na/c=warning svc/na/d=passing"},
		{"MaxServices", fullAgent(), "svc/na/a=critical svc/na/b=critical svc/na/c=critical svc/na/d=critical svc/na/e=critical svc/na/f=critical"},
		{"a place that is just a key", agentOf("na", "abcdefghijklm"), "svc/na/abcdefghijklm=passing"},
		{"like the node", agentOf("svc", "svc"), "svc/svc/svc=passing"},
		{"not heard for too long", late, "svc/na/api=critical svc/na/web=passing"},
	} {
		got := impl.Want(c.l)
		if pairTexts(got) != c.want || pairTexts(modelWant(c.l)) != c.want {
			t.Errorf("Want, %s: %s, not %s", c.what, pairTexts(got), c.want)
		}
	}
}

var planCases = []struct {
	what string
	l    impl.Local
	s    impl.State
	want string
}{
	{"nothing wanted, nothing there", agentOf("na"), saying(), ""},
	{"nothing there", agentOf("na", "web"), saying(), "set svc/na/web=passing"},
	{"nothing there, several wanted", agentOf("na", "api a2", "db a1", "web"), saying(), "set svc/na/api=critical set svc/na/db=warning set svc/na/web=passing"},
	{"all there", agentOf("na", "api a2", "db a1", "web"), saying("svc/na/api=critical", "svc/na/db=warning", "svc/na/web=passing"), ""},
	{"there with another value", agentOf("na", "web a2"), saying("svc/na/web=passing"), "set svc/na/web=critical"},
	{"there with no value", agentOf("na", "web"), saying("svc/na/web="), "set svc/na/web=passing"},
	{"there with a value that goes on", agentOf("na", "web"), saying("svc/na/web=passing "), "set svc/na/web=passing"},
	{"there with a value cut off", agentOf("na", "web"), saying("svc/na/web=passin"), "set svc/na/web=passing"},
	{"there with great letters", agentOf("na", "web"), saying("svc/na/web=PASSING"), "set svc/na/web=passing"},
	{"there with all other values", agentOf("na", "api a2", "db a1", "web"), saying("svc/na/api=passing", "svc/na/db=critical", "svc/na/web=warning"), "set svc/na/api=critical set svc/na/db=warning set svc/na/web=passing"},
	{"the first one has another value", agentOf("na", "a", "b", "c"), saying("svc/na/a=x", "svc/na/b=passing", "svc/na/c=passing"), "set svc/na/a=passing"},
	{"the one in the middle has another value", agentOf("na", "a", "b", "c"), saying("svc/na/a=passing", "svc/na/b=x", "svc/na/c=passing"), "set svc/na/b=passing"},
	{"the last one has another value", agentOf("na", "a", "b", "c"), saying("svc/na/a=passing", "svc/na/b=passing", "svc/na/c=x"), "set svc/na/c=passing"},
	{"the first one is not there", agentOf("na", "a", "b", "c"), saying("svc/na/b=passing", "svc/na/c=passing"), "set svc/na/a=passing"},
	{"the one in the middle is not there", agentOf("na", "a", "b", "c"), saying("svc/na/a=passing", "svc/na/c=passing"), "set svc/na/b=passing"},
	{"the last one is not there", agentOf("na", "a", "b", "c"), saying("svc/na/a=passing", "svc/na/b=passing"), "set svc/na/c=passing"},

	{"nothing wanted", agentOf("na"), saying("svc/na/a=passing", "svc/na/b=x", "svc/na/c="), "del svc/na/a del svc/na/b del svc/na/c"},
	{"the first one is not wanted", agentOf("na", "b", "c"), saying("svc/na/a=passing", "svc/na/b=passing", "svc/na/c=passing"), "del svc/na/a"},
	{"the one in the middle is not wanted", agentOf("na", "a", "c"), saying("svc/na/a=passing", "svc/na/b=passing", "svc/na/c=passing"), "del svc/na/b"},
	{"the last one is not wanted", agentOf("na", "a", "b"), saying("svc/na/a=passing", "svc/na/b=passing", "svc/na/c=passing"), "del svc/na/c"},
	{"all others are wanted", agentOf("na", "b", "d"), saying("svc/na/a=passing", "svc/na/c=passing", "svc/na/e=passing"), "del svc/na/a del svc/na/c del svc/na/e set svc/na/b=passing set svc/na/d=passing"},
	{"all wanted ones are behind", agentOf("na", "c", "d"), saying("svc/na/a=passing", "svc/na/b=passing"), "del svc/na/a del svc/na/b set svc/na/c=passing set svc/na/d=passing"},
	{"all wanted ones are ahead", agentOf("na", "a", "b"), saying("svc/na/c=passing", "svc/na/d=passing"), "del svc/na/c del svc/na/d set svc/na/a=passing set svc/na/b=passing"},
	{"names that begin alike", agentOf("na", "aa"), saying("svc/na/a=passing", "svc/na/aa=passing", "svc/na/aaa=passing"), "del svc/na/a del svc/na/aaa"},
	{"below a wanted one", agentOf("na", "web"), saying("svc/na/web=passing", "svc/na/web/=passing", "svc/na/web/a=passing"), "del svc/na/web/ del svc/na/web/a"},
	{"a place without a name", agentOf("na", "web"), saying("svc/na/=passing", "svc/na//=passing", "svc/na//web=passing"), "del svc/na/ del svc/na// del svc/na//web set svc/na/web=passing"},
	{"names that no service may have", agentOf("na"), saying("svc/na/a/b=", "svc/na/abcdefghijklm=x"), "del svc/na/a/b del svc/na/abcdefghijklm"},

	{"svc/ and Node without what comes behind", agentOf("na", "web"), saying("svc/na=passing"), "set svc/na/web=passing"},
	{"what is ahead of all nodes", agentOf("na"), saying("/=", "s=", "sv=", "svc=", "svc/=", "svc//=", "svc//na/web=passing"), ""},
	{"nodes that begin alike", agentOf("na"), saying("svc/n/web=passing", "svc/n=x", "svc/naa/web=passing", "svc/nab=x", "svc/nb/web=passing"), ""},
	{"other nodes with what is wanted", agentOf("na", "web"), saying("svc/n/web=passing", "svc/naa/web=passing", "svc/nb/web=passing"), "set svc/na/web=passing"},
	{"nodes around it", agentOf("na", "web"), saying("svc/mz/web=x", "svc/n/web=x", "svc/na/api=x", "svc/na/web=x", "svc/naa/web=x", "svc/nb/web=x"), "del svc/na/api set svc/na/web=passing"},
	{"elsewhere", agentOf("na", "web"), saying("a/svc/na/web=passing", "na/web=passing", "svb/na/web=x", "svd/na/web=x", "web=passing"), "set svc/na/web=passing"},
	{"all of the state is others'", agentOf("zz", "web"), filled(), "set svc/zz/web=passing"},
	{"the node svc", agentOf("svc", "svc"), saying("svc/na/svc=x", "svc/svc=x", "svc/svc/a=x", "svc/svc/svc=passing"), "del svc/svc/a"},
	{"a Node of 14 bytes", agentOf("abcdefghijklmn", "c"), saying("svc/abcdefghijklmn/=x", "svc/abcdefghijklmn/b=x", "svc/abcdefghijklmn/c=x"), "del svc/abcdefghijklmn/ del svc/abcdefghijklmn/b set svc/abcdefghijklmn/c=passing"},
	{"a Node of 15 bytes", agentOf("abcdefghijklmno"), saying("svc/abcdefghijklmno=x", "svc/abcdefghijklmno/=x"), "del svc/abcdefghijklmno/"},
	{"a Node of 16 bytes", agentOf("abcdefghijklmnop"), saying("svc/abcdefghijklmno/=x", "svc/abcdefghijklmnop=x"), ""},
	{"a Node of 20 bytes", agentOf("abcdefghijklmnopqrst"), saying("svc/abcdefghijklmnop=x"), ""},

	{"all together", agentOf("na", "b a1", "d", "f a2", "h"), saying("svc/n/b=x", "svc/na=x", "svc/na/a=x", "svc/na/b=warning", "svc/na/c=x", "svc/na/d=x", "svc/na/g=x", "svc/na/h=passing", "svc/na/i=x", "svc/naa/b=x", "z=x"),
		"del svc/na/a del svc/na/c del svc/na/g del svc/na/i set svc/na/d=passing set svc/na/f=critical"},
	{"all together, the first ones only wanted", agentOf("na", "a", "b", "d a2", "e", "f"), saying("svc/na/c=x", "svc/na/d=x", "svc/na/e=passing", "svc/na/z=x"),
		"del svc/na/c del svc/na/z set svc/na/a=passing set svc/na/b=passing set svc/na/d=critical set svc/na/f=passing"},
}

func TestPlan(t *testing.T) {
	for _, c := range planCases {
		s := sorted(c.s)
		if !impl.LocalOk(c.l) || !impl.StateOk(s) {
			t.Fatalf("%s: %s, %v", c.what, localText(c.l), rowTexts(s))
		}
		got, ok := impl.Plan(c.l, s)
		if opTexts(got) != c.want || !ok {
			t.Errorf("Plan, %s: %s, %v, not %s", c.what, opTexts(got), ok, c.want)
		}
		if model, ok := modelPlan(c.l, s); opTexts(model) != c.want || !ok {
			t.Errorf("the model: Plan, %s: %s, %v", c.what, opTexts(model), ok)
		}
		if impl.Synced(c.l, s) != (c.want == "") {
			t.Errorf("Synced, %s: not %v", c.what, c.want == "")
		}
		mustDoThePlan(t, c.l, s)
	}
}

// sorted answers s with its rows by their keys: cases name them as they read best.
func sorted(s impl.State) impl.State {
	s.Rows = slices.Clone(s.Rows)
	slices.SortFunc(s.Rows, func(a, b impl.Row) int { return bytes.Compare(a.Key, b.Key) })
	return s
}

func TestPlanOfAStateThatMayNotBe(t *testing.T) {
	bad := append(badStates(), saying("svc/na/web=passing", "svc/na/api=passing"), saying("svc/na/web=passing", "svc/na/web=passing"), saying("svc/na/web=a value that is longer"), impl.State{Index: -1})
	for _, s := range bad {
		for _, l := range []impl.Local{agentOf("na"), agentOf("na", "web"), agentOf("k", "a", "b"), agentOf("none"), {}, agentOf("na", "web", "api")} {
			if got, ok := impl.Plan(l, s); ok || len(got) > 0 {
				t.Errorf("Plan of %s in %v: %s, %v", localText(l), s, opTexts(got), ok)
			}
			if impl.Synced(l, s) {
				t.Errorf("%s is synced with %v", localText(l), s)
			}
		}
	}
}

// All that a row has beside its key and value plays no part; nor have tombs, sessions and replies.
func TestPlanLooksAtKeysAndValuesAlone(t *testing.T) {
	l := agentOf("k", "a a2", "b", "v")
	for _, turn := range stateTurns {
		s := filled()
		s.Rows[1].Val, s.Rows[2].Val, s.Rows[19].Key = []byte("passing"), []byte("warning"), []byte("svc/k/b")
		s.Rows[19].Val = []byte("passing")
		turn.do(&s)
		got, ok := impl.Plan(l, s)
		want, wanted := modelPlan(l, s)
		if !sameOps(got, want) || ok != wanted || ok != impl.StateOk(s) || impl.Synced(l, s) {
			t.Errorf("%s: %s, %v, not %s", turn.what, opTexts(got), ok, opTexts(want))
		}
	}
	held := saying("svc/k/a=critical", "svc/k/b=passing", "svc/k/v=passing")
	held.Sess = []impl.Session{{Id: 3}, {Id: 9, Delete: true}}
	held.Rows[0].Holder, held.Rows[1].Holder, held.Rows[2].Turned = 3, 9, 50
	held.Tombs = []impl.Tomb{{Key: []byte("svc/k/c"), Index: 8}, {Key: []byte("svc/k/"), Index: 9}}
	if !impl.Synced(l, held) {
		t.Errorf("%s is not synced with %v", localText(l), rowTexts(held))
	}
}

// mustDoThePlan holds promise 20: it does what is planned one by one, and answers the state behind that.
func mustDoThePlan(t *testing.T, l impl.Local, s impl.State) impl.State {
	t.Helper()
	plan, ok := impl.Plan(l, s)
	if !ok {
		t.Fatalf("no plan of %s in %v", localText(l), s)
	}
	was, room := s, hasRoom(plan, s)
	for i, o := range plan {
		left, ok := impl.Plan(l, s)
		if room && (!ok || !sameOps(left, plan[i:]) || impl.Synced(l, s)) {
			t.Fatalf("%s in %s: behind %s is left %s", localText(l), rowTexts(s), opTexts(plan[:i]), opTexts(left))
		}
		last, _ := impl.LastOf(s, 0)
		next, reply := impl.Apply(s, impl.Cmd{Req: last.Req + 1, Op: o})
		if !impl.OpOk(o) || room && reply.Code != impl.RpWell || reply.Index == 0 {
			t.Fatalf("%s in %s: %s is answered %v", localText(l), rowTexts(s), opTexts([]impl.Op{o}), reply)
		}
		s = next
	}
	if room {
		mustSayWhatIsWanted(t, l, s)
	} else if impl.Synced(l, s) {
		t.Fatalf("%s is synced with %s", localText(l), rowTexts(s))
	}
	mustLeaveTheOthers(t, l, was, s)
	return s
}

// hasRoom tells whether a state has room for what is planned: what is deleted makes room first.
func hasRoom(plan []impl.Op, s impl.State) bool {
	rows := len(s.Rows)
	for _, o := range plan {
		switch {
		case o.Kind == impl.OpDel:
			rows--
		case !impl.Look(s, o.Key).Has:
			rows++
		}
	}
	return rows <= impl.MaxKeys
}

func mustSayWhatIsWanted(t *testing.T, l impl.Local, s impl.State) {
	t.Helper()
	var keys [][]byte
	for _, p := range impl.Want(l) {
		keys = append(keys, p.Key)
		if view := impl.Look(s, p.Key); !view.Has || !bytes.Equal(view.Val, p.Val) {
			t.Fatalf("%s wants %s=%s, not %v", localText(l), p.Key, p.Val, view)
		}
	}
	if said := impl.Keys(s, []byte(modelPlace(l.Node, nil))); texts(said) != texts(keys) {
		t.Fatalf("%s wants %s, not %s", localText(l), texts(keys), texts(said))
	}
	if plan, ok := impl.Plan(l, s); !ok || len(plan) > 0 || !impl.Synced(l, s) {
		t.Fatalf("%s in %s: still %s", localText(l), rowTexts(s), opTexts(plan))
	}
}

// mustLeaveTheOthers holds that no row turned that is not the node's, or said already what is wanted.
func mustLeaveTheOthers(t *testing.T, l impl.Local, was, is impl.State) {
	t.Helper()
	kept := func(s impl.State) string {
		var all []impl.Row
		for _, r := range s.Rows {
			p := impl.Pair{Key: r.Key, Val: r.Val}
			wanted := slices.ContainsFunc(modelWant(l), func(w impl.Pair) bool { return samePairs([]impl.Pair{w}, []impl.Pair{p}) })
			if !strings.HasPrefix(string(r.Key), modelPlace(l.Node, nil)) || wanted && r.Turned <= was.Index {
				all = append(all, r)
			}
		}
		return rowTexts(impl.State{Rows: all})
	}
	if kept(was) != kept(is) || !same(was.Sess, is.Sess) {
		t.Fatalf("%s turned %s to %s", localText(l), kept(was), kept(is))
	}
}

// A state with rows of others up to its last place has room for what is wanted only where something is deleted first.
func TestPlansWithoutRoom(t *testing.T) {
	others := func(n int, more ...string) impl.State {
		s := saying(more...)
		for i := range n {
			s.Rows = append(s.Rows, impl.Row{Key: []byte(numbered(i)), Val: []byte("x"), Turned: 1})
		}
		return sorted(s)
	}
	l := agentOf("na", "api", "web a1")
	for _, c := range []struct {
		what string
		s    impl.State
		left string
	}{
		{"room for both", others(18), ""},
		{"room for one", others(19), "set svc/na/web=warning"},
		{"no room", others(20), "set svc/na/api=passing set svc/na/web=warning"},
		{"two are deleted first", others(18, "svc/na/old=x", "svc/na/zold=x"), ""},
		{"one is deleted first", others(19, "svc/na/old=x"), "set svc/na/web=warning"},
		{"one is deleted first, one is there", others(18, "svc/na/api=x", "svc/na/old=x"), ""},
		{"both are there", others(18, "svc/na/api=x", "svc/na/web=x"), ""},
		{"one is there", others(19, "svc/na/web=x"), "set svc/na/api=passing"},
	} {
		done := mustDoThePlan(t, l, c.s)
		left, ok := impl.Plan(l, done)
		if opTexts(left) != c.left || !ok || impl.Synced(l, done) != (c.left == "") {
			t.Errorf("%s: %s is left, not %s", c.what, opTexts(left), c.left)
		}
	}
}

// A row that a session holds is set and deleted as any other one.
func TestPlansOverRowsThatAreHeld(t *testing.T) {
	l := agentOf("na", "api", "web a2")
	s := saying("svc/na/api=passing", "svc/na/old=x", "svc/na/web=passing", "svc/nb/web=passing")
	s.Sess = []impl.Session{{Id: 5}, {Id: 7, Delete: true}}
	for i, holder := range []int{5, 7, 7, 5} {
		s.Rows[i].Holder = holder
	}
	done := mustDoThePlan(t, l, s)
	mustBe(t, "rows", rowTexts(done), "svc/na/api=passing@1:5 svc/na/web=critical@52:7 svc/nb/web=passing@4:5")
	mustBe(t, "tombs", tombTexts(done), "svc/na/old@51")
}

// mustCallByLines has client 0 ask for operations, one behind the other, as their lines read; each becomes a fact.
func mustCallByLines(t *testing.T, s scene, ops ...impl.Op) scene {
	t.Helper()
	facts := len(mustRun(t, s, false).Facts)
	for i, o := range ops {
		line, _ := impl.OpText(o)
		read, code, _ := impl.OpRead(line)
		if code != impl.LnWell || !same(read, o) {
			t.Fatalf("%q is read as %v, %d", line, read, code)
		}
		s = s.calls(0, 0, read).hears(2)
		if r := mustRun(t, s, false); len(r.Facts) != facts+i+1 {
			t.Fatalf("%d facts behind %q", len(r.Facts), line)
		}
	}
	return s
}

// What is planned goes as lines and comes back, and is done by a cluster's servers as by one state.
func TestPlansByLinesAndServers(t *testing.T) {
	l := agentOf("na", "api a1", "db", "web a2")
	s := mustCallByLines(t, one(), op(impl.OpSet, "svc/na/db", "down", 0), op(impl.OpSet, "svc/na/old", "x", 0), op(impl.OpSet, "svc/nb/web", "x", 0))
	state, _ := impl.Follow(mustRun(t, s, false).Facts)
	plan, _ := impl.Plan(l, state)
	mustBe(t, "the plan", opTexts(plan), "del svc/na/old set svc/na/api=warning set svc/na/db=passing set svc/na/web=critical")
	r := mustRun(t, mustCallByLines(t, s, plan...), true)
	state, _ = impl.Follow(r.Facts)
	for _, has := range append(r.States, state) {
		if !impl.Synced(l, has) {
			t.Errorf("%s is not synced with %s", localText(l), rowTexts(has))
		}
		mustSayWhatIsWanted(t, l, has)
	}
}

// mustAgentAs holds all that is told of l against the model, and what becomes of it against LocalOk.
func mustAgentAs(t *testing.T, l impl.Local, name []byte, c impl.Check, n int, s impl.State) {
	t.Helper()
	ok := modelLocalOk(l)
	if impl.LocalOk(l) != ok {
		t.Fatalf("LocalOk of %s is not %v", localText(l), ok)
	}
	must := func(what string, got impl.Local, told any, want impl.Local, wanted any) {
		t.Helper()
		if !sameLocal(got, want) || told != wanted || impl.LocalOk(got) != (len(want.Node) > 0) {
			t.Fatalf("%s: %s became %s, %v, not %s, %v", what, localText(l), localText(got), told, localText(want), wanted)
		}
	}
	got, turned := impl.LocalAdd(l, name)
	want, wanted := modelLocalAdd(l, name)
	must(fmt.Sprintf("LocalAdd of %q", name), got, turned, want, wanted)
	got, turned = impl.LocalDrop(l, name)
	want, wanted = modelLocalDrop(l, name)
	must(fmt.Sprintf("LocalDrop of %q", name), got, turned, want, wanted)
	got, turned = impl.LocalCheck(l, name, c)
	want, wanted = modelLocalCheck(l, name, c)
	must(fmt.Sprintf("LocalCheck of %q, %s", name, checkText(c)), got, turned, want, wanted)
	got, turns := impl.LocalTick(l, n)
	want, wantedTurns := modelLocalTick(l, n)
	must(fmt.Sprintf("LocalTick by %d", n), got, turns, want, wantedTurns)
	if got, want := impl.Want(l), modelWant(l); !samePairs(got, want) {
		t.Fatalf("Want of %s: %s, not %s", localText(l), pairTexts(got), pairTexts(want))
	}
	plan, ok := impl.Plan(l, s)
	if want, wanted := modelPlan(l, s); !sameOps(plan, want) || ok != wanted || impl.Synced(l, s) != (ok && len(want) == 0) {
		t.Fatalf("Plan of %s in %s: %s, not %s", localText(l), rowTexts(s), opTexts(plan), opTexts(want))
	}
}

func TestAgentsAtAllEdges(t *testing.T) {
	states := []impl.State{{}, filled(), {Index: -1}, saying("svc/na/a=x", "svc/na/b=passing", "svc/na/web=critical")}
	for i, edge := range localEdges() {
		for j, name := range []string{"", "a", "b", "web", "zz", "a/"} {
			mustAgentAs(t, edge.local, []byte(name), []impl.Check{checkOf("a0"), checkOf("cc1"), {}}[(i+j)%3], []int{0, 5, -1, 1, math.MaxInt}[(i+j)%5], states[(i+j)%4])
		}
	}
}

// All ways to want or not, in each Status, and to be there or not, with each value, of three services, with strays around them.
func TestAllSmallPlans(t *testing.T) {
	t.Parallel()
	strays := [][]string{{}, {"svc/n/=x", "svc/n/aa=x"}, {"svc/n/d=passing"}, {"svc/m/a=passing", "svc/n=x", "svc/na/b=passing"}}
	seen := map[int]int{}
	eachOver([]byte{0, 1, 2, 3}, 6, func(b []byte) {
		if len(b) != 6 {
			return
		}
		var services, rows []string
		for i, name := range []string{"a", "b", "c"} {
			if b[i] > 0 {
				services = append(services, fmt.Sprintf("%s c%d", name, b[i]-1))
			}
			if b[i+3] > 0 {
				rows = append(rows, "svc/n/"+name+"="+[]string{"passing", "warning", "x"}[b[i+3]-1])
			}
		}
		l := agentOf("n", services...)
		for _, more := range strays {
			s := sorted(saying(append(slices.Clone(rows), more...)...))
			got, ok := impl.Plan(l, s)
			if want, wanted := modelPlan(l, s); !sameOps(got, want) || ok != wanted {
				t.Fatalf("Plan of %s in %s: %s, not %s", localText(l), rowTexts(s), opTexts(got), opTexts(want))
			}
			seen[len(got)]++
			mustDoThePlan(t, l, s)
		}
	})
	for size := range 9 {
		// Five are deleted at most, and then nothing is there that is wanted.
		if (seen[size] > 0) != (size <= 5) {
			t.Errorf("%d plans of %d", seen[size], size)
		}
	}
}

// All short orders of adding and dropping leave the same services, whichever way they were come by.
func TestAllSmallWaysToAddAndDrop(t *testing.T) {
	names := []string{"a", "b", "bb", "c"}
	eachOver([]byte{0, 1, 2, 3, 4, 5, 6, 7}, 5, func(b []byte) {
		l, have := agentOf("na"), map[string][]impl.Check{}
		for _, turn := range b {
			name := names[turn%4]
			_, had := have[name]
			var turned bool
			if turn < 4 {
				l, turned = impl.LocalAdd(l, []byte(name))
				have[name] = nil
			} else {
				l, turned = impl.LocalDrop(l, []byte(name))
				delete(have, name)
			}
			if turned != (had == (turn >= 4)) {
				t.Fatalf("%v: %s, %v", b, localText(l), turned)
			}
		}
		if want, ok := modelOr(agentOf("na"), have); !ok || !sameLocal(l, want) {
			t.Fatalf("%v: %s, not %s", b, localText(l), localText(want))
		}
	})
}

// drawnName answers a name that mostly makes a service.
func drawnName(r *rand.Rand) []byte {
	if r.Intn(12) == 0 {
		return []byte(badServiceNames[r.Intn(20)])
	}
	return []byte([]string{"a", "aa", "b", "db", "web", "www", "zz", "abcdefghijklm"}[r.Intn(8)])
}

func drawnCheck(r *rand.Rand) impl.Check {
	c, _ := impl.CheckNew([]byte([]string{"a", "b", "c", "d", "e/f"}[r.Intn(5)]), []int{0, 3, 7}[r.Intn(3)], 1+r.Intn(3))
	if r.Intn(4) > 0 {
		c, _ = impl.CheckPass(c)
	}
	if r.Intn(4) == 0 {
		c, _ = impl.CheckFail(c)
	}
	if r.Intn(20) == 0 {
		c.Status = 3
	}
	return c
}

// Nodes whose names begin alike live beside one another in one catalog, by what is drawn, against the model.
func TestDrawnAgents(t *testing.T) {
	t.Parallel()
	var turns, synced, full int
	for seed := range int64(60) {
		r := rand.New(rand.NewSource(1400 + seed))
		agents := []impl.Local{agentOf("n"), agentOf("na"), agentOf("nab")}
		var s impl.State
		for range 150 {
			i := r.Intn(len(agents))
			l, name, c, n := agents[i], drawnName(r), drawnCheck(r), r.Intn(9)-1
			mustAgentAs(t, l, name, c, n, s)
			next, turned := l, 0
			switch kind := r.Intn(12); {
			case kind < 3:
				next, _ = impl.LocalAdd(l, name)
			case kind == 3:
				next, _ = impl.LocalDrop(l, name)
			case kind < 7:
				next, _ = impl.LocalCheck(l, name, c)
			case kind < 9:
				next, turned = impl.LocalTick(l, n)
			case kind == 9:
				s = drawnCommand(r, s)
			default:
				s = mustDoThePlan(t, l, s)
				if impl.Synced(l, s) {
					synced++
				} else {
					full++
				}
			}
			turns += turned
			if impl.LocalOk(next) {
				agents[i] = next
			}
		}
	}
	if turns < 100 || synced < 500 || full < 10 {
		t.Errorf("%d turned, %d were synced, %d found no room", turns, synced, full)
	}
}

// drawnCommand answers s behind something that another client does to rows of the nodes, or beside them.
func drawnCommand(r *rand.Rand, s impl.State) impl.State {
	keys := []string{"svc/n/a", "svc/na/", "svc/na/web", "svc/na", "svc/nab/db", "svc/nab/db/x", "a", "b", "c", "d", "e", "f"}
	last, _ := impl.LastOf(s, 1)
	for range 4 {
		o := op(impl.OpSet, keys[r.Intn(len(keys))], []string{"passing", "critical", "x", ""}[r.Intn(4)], 0)
		switch r.Intn(5) {
		case 0:
			o = op(impl.OpDel, string(o.Key), "", 0)
		case 1:
			o = op(impl.OpOpen, "", "", r.Intn(2))
		case 2:
			if len(s.Sess) > 0 {
				o.Kind, o.N = impl.OpTake, s.Sess[r.Intn(len(s.Sess))].Id
			}
		}
		last.Req++
		s, _ = impl.Apply(s, impl.Cmd{Client: 1, Req: last.Req, Op: o})
	}
	return s
}

func TestAgentsInMemory(t *testing.T) {
	agents := []impl.Local{
		{}, agentOf("na"), {Node: []byte("na"), Services: []impl.Service{}}, agentOf("na", "web"), agentOf("na", "cc a0 b1", "ff", "mm c2"), agentOf("na", "a a0 b1 c2 d0", "web a1"),
		fullAgent(), agentOf("na", "b", "a"), agentOf("na", "web a0 a0"), agentOf("n/a", "web"), agentOf("na", "a", "b", "c", "d", "e", "f", "g"), agentOf("abcdefghijklmno", "a"),
	}
	states := []impl.State{{}, filled(), sorted(saying("svc/na/=x", "svc/na/cc=warning", "svc/na/ff=x", "svc/na/old=y", "svc/nb/a=x")), {Index: -1}}
	for _, one := range agents {
		l := withRoom(one)
		what := localText(l)
		mustKeep(t, "LocalOk: "+what, []any{l}, func() []any { return []any{impl.LocalOk(l)} })
		mustKeep(t, "Want: "+what, []any{l}, func() []any { return []any{impl.Want(l)} })
		for _, text := range []string{"", "a", "aa", "cc", "dd", "mm", "web", "zz", "a/b", "abcdefghijklmn"} {
			name := withRoom([]byte(text))
			mustKeep(t, "LocalAdd "+text+": "+what, []any{l, name}, func() []any { return two(impl.LocalAdd(l, name)) })
			mustKeep(t, "LocalDrop "+text+": "+what, []any{l, name}, func() []any { return two(impl.LocalDrop(l, name)) })
			for _, check := range []impl.Check{checkOf("a0"), checkOf("aa1"), checkOf("z2"), {}} {
				c := withRoom(check)
				mustKeep(t, "LocalCheck "+text+": "+what, []any{l, name, c}, func() []any { return two(impl.LocalCheck(l, name, c)) })
				mustAgentAs(t, l, name, c, 5, states[0])
			}
		}
		for _, n := range []int{-1, 0, 5, math.MaxInt} {
			mustKeep(t, fmt.Sprintf("LocalTick by %d: %s", n, what), []any{l}, func() []any { return two(impl.LocalTick(l, n)) })
		}
		for _, state := range states {
			s := withRoom(state)
			mustKeep(t, "Plan: "+what, []any{l, s}, func() []any { return two(impl.Plan(l, s)) })
			mustKeep(t, "Synced: "+what, []any{l, s}, func() []any { return []any{impl.Synced(l, s)} })
			mustAgentAs(t, l, nil, impl.Check{}, 0, s)
		}
	}
}

// What lies behind the length of an agent's lists is not read, whether it may be or not.
func TestAgentsThatAreCutOff(t *testing.T) {
	l := agentOf("na", "a a0 b1 c2 d0 e0", "b", "c", "d", "e", "f", "g", "a")
	l.Services[0].Checks = l.Services[0].Checks[:4]
	l.Services = l.Services[:6]
	if !impl.LocalOk(l) || len(impl.Want(l)) != 6 {
		t.Errorf("LocalOk of six: %s", pairTexts(impl.Want(l)))
	}
	l.Services = l.Services[:2]
	grown, ok := impl.LocalAdd(l, []byte("aa"))
	if whole := l.Services[:8]; !ok || string(whole[2].Name) != "c" || !same(grown, agentOf("na", "a a0 b1 c2 d0", "aa", "b")) {
		t.Errorf("%s, %v, and behind it %q", localText(grown), ok, whole[2].Name)
	}
	l.Services[0].Checks = l.Services[0].Checks[:2]
	grown, ok = impl.LocalCheck(l, []byte("a"), checkOf("aa0"))
	if whole := l.Services[0].Checks[:5]; !ok || string(whole[2].Name) != "c" || !same(grown, agentOf("na", "a a0 aa0 b1", "b")) {
		t.Errorf("%s, %v, and behind it %q", localText(grown), ok, whole[2].Name)
	}
}

// Texts and lists that stand at several places of an agent are answered with ones that share none.
func TestAgentsOfWhatIsShared(t *testing.T) {
	text := []byte("aaaa")
	checks := []impl.Check{{Name: text[:1], Most: 1}, {Name: text[:2], Most: 1}}
	l := impl.Local{Node: text[:2], Services: []impl.Service{{Name: text[:1], Checks: checks}, {Name: text[:2], Checks: checks}, {Name: text, Checks: checks[:1]}}}
	s := saying("svc/aa/=x", "svc/aa/aa=x")
	mustKeep(t, "LocalAdd", []any{l}, func() []any { return two(impl.LocalAdd(l, text[:3])) })
	mustKeep(t, "LocalAdd of one there", []any{l}, func() []any { return two(impl.LocalAdd(l, text[:2])) })
	mustKeep(t, "LocalDrop", []any{l}, func() []any { return two(impl.LocalDrop(l, text[:2])) })
	mustKeep(t, "LocalDrop of none", []any{l}, func() []any { return two(impl.LocalDrop(l, text[:3])) })
	mustKeep(t, "LocalCheck", []any{l}, func() []any { return two(impl.LocalCheck(l, text[:1], impl.Check{Name: text[:3], Most: 1})) })
	mustKeep(t, "LocalCheck of one there", []any{l}, func() []any { return two(impl.LocalCheck(l, text[:1], checks[1])) })
	mustKeep(t, "LocalTick", []any{l}, func() []any { return two(impl.LocalTick(l, 1)) })
	mustKeep(t, "Want", []any{l}, func() []any { return []any{impl.Want(l)} })
	s.Rows[0].Val, s.Rows[1].Val = text, text
	mustKeep(t, "Plan", []any{l, s}, func() []any { return two(impl.Plan(l, s)) })
	// Of checks that two services share one alone is turned.
	got, _ := impl.LocalCheck(l, text[:1], impl.Check{Name: text[:1], Most: 1, Status: 2})
	if string(impl.Want(got)[0].Val) != "critical" || string(impl.Want(got)[1].Val) != "passing" {
		t.Errorf("%s", pairTexts(impl.Want(got)))
	}
}

// Arguments and answers may be written over: nothing else shows it.
func TestNothingOfAgentsIsKept(t *testing.T) {
	name, c := []byte("web"), checkOf("cc1")
	first, _ := impl.LocalAdd(agentOf("na", "api a0"), name)
	copy(name, "xyz")
	second, _ := impl.LocalCheck(first, []byte("web"), c)
	copy(c.Name, "xx")
	third, _ := impl.LocalTick(second, 1)
	still, _ := impl.LocalDrop(second, []byte("none"))
	pairs := impl.Want(second)
	s := saying("svc/na/old=x")
	plan, _ := impl.Plan(second, s)
	for _, l := range []impl.Local{third, still} {
		l.Node[0], l.Services[0].Name[0], l.Services[1].Checks[0].Name[0], l.Services[1].Checks[0].Status = 'x', 'x', 'x', 9
	}
	for _, p := range pairs {
		copy(p.Key, "written over")
		copy(p.Val, "written over")
	}
	for _, o := range plan {
		copy(o.Key, "written over")
		copy(o.Val, "written over")
	}
	if want := agentOf("na", "api a0", "web cc1"); !same(second, want) {
		t.Errorf("%s, not %s", localText(second), localText(want))
	}
	if want := agentOf("na", "api a0", "web"); !same(first, want) {
		t.Errorf("%s, not %s", localText(first), localText(want))
	}
	mustBe(t, "Want", pairTexts(impl.Want(second)), "svc/na/api=passing svc/na/web=warning")
	again, _ := impl.Plan(second, s)
	mustBe(t, "Plan", opTexts(again), "del svc/na/old set svc/na/api=passing set svc/na/web=warning")
}
