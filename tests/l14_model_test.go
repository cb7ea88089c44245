package tests

import (
	"bytes"
	"fmt"
	"slices"
	"strings"

	"loop.example/g00365/impl"
)

// Agents told a second time: services as a map by their names, what is wanted as a map by its keys.

func modelPart(b []byte) bool {
	for _, c := range string(b) {
		if c < 'a' || c > 'z' {
			return false
		}
	}
	return isIn(len(b), 1, 20)
}

func modelPlace(node, name []byte) string {
	return "svc/" + string(node) + "/" + string(name)
}

func modelLocalOk(l impl.Local) bool {
	if !modelPart(l.Node) || len(l.Services) > 6 {
		return false
	}
	last := ""
	for _, s := range l.Services {
		if !modelPart(s.Name) || string(s.Name) <= last || len(modelPlace(l.Node, s.Name)) > 20 || len(s.Checks) > 4 {
			return false
		}
		last = string(s.Name)
		lastCheck := ""
		for _, c := range s.Checks {
			if !modelCheckOk(c) || string(c.Name) <= lastCheck {
				return false
			}
			lastCheck = string(c.Name)
		}
	}
	return true
}

func modelServices(l impl.Local) map[string][]impl.Check {
	have := map[string][]impl.Check{}
	for _, s := range l.Services {
		have[string(s.Name)] = s.Checks
	}
	return have
}

// modelOr answers what these services of l's node make, and true; l and false where that may not be.
func modelOr(l impl.Local, services map[string][]impl.Check) (impl.Local, bool) {
	made := impl.Local{Node: l.Node}
	for name, checks := range services {
		made.Services = append(made.Services, impl.Service{Name: []byte(name), Checks: checks})
	}
	slices.SortFunc(made.Services, func(a, b impl.Service) int { return strings.Compare(string(a.Name), string(b.Name)) })
	if !modelLocalOk(made) {
		return l, false
	}
	return made, true
}

func modelLocalAdd(l impl.Local, name []byte) (impl.Local, bool) {
	if !modelLocalOk(l) {
		return impl.Local{}, false
	}
	have := modelServices(l)
	if _, is := have[string(name)]; is {
		return l, false
	}
	have[string(name)] = nil
	return modelOr(l, have)
}

func modelLocalDrop(l impl.Local, name []byte) (impl.Local, bool) {
	if !modelLocalOk(l) {
		return impl.Local{}, false
	}
	have := modelServices(l)
	if _, is := have[string(name)]; !is {
		return l, false
	}
	delete(have, string(name))
	return modelOr(l, have)
}

func modelLocalCheck(l impl.Local, name []byte, c impl.Check) (impl.Local, bool) {
	if !modelLocalOk(l) || !modelCheckOk(c) {
		return impl.Local{}, false
	}
	have := modelServices(l)
	checks, is := have[string(name)]
	if !is {
		return l, false
	}
	put := []impl.Check{c}
	for _, other := range checks {
		if string(other.Name) != string(c.Name) {
			put = append(put, other)
		}
	}
	slices.SortFunc(put, func(a, b impl.Check) int { return strings.Compare(string(a.Name), string(b.Name)) })
	have[string(name)] = put
	return modelOr(l, have)
}

func modelLocalTick(l impl.Local, n int) (impl.Local, int) {
	if !modelLocalOk(l) || n < 0 {
		return impl.Local{}, 0
	}
	is, turns := impl.Local{Node: l.Node}, 0
	for _, s := range l.Services {
		ticked := impl.Service{Name: s.Name}
		for _, c := range s.Checks {
			next, turned := modelCheckTick(c, n)
			ticked.Checks = append(ticked.Checks, next)
			if turned {
				turns++
			}
		}
		is.Services = append(is.Services, ticked)
	}
	return is, turns
}

func modelWant(l impl.Local) []impl.Pair {
	if !modelLocalOk(l) {
		return nil
	}
	var pairs []impl.Pair
	for _, s := range l.Services {
		status := []string{"passing", "warning", "critical"}[modelWorst(s.Checks)]
		pairs = append(pairs, impl.Pair{Key: []byte(modelPlace(l.Node, s.Name)), Val: []byte(status)})
	}
	return pairs
}

func modelPlan(l impl.Local, s impl.State) ([]impl.Op, bool) {
	if !modelLocalOk(l) || !modelState(s) {
		return nil, false
	}
	wanted, there := map[string]string{}, map[string]string{}
	for _, p := range modelWant(l) {
		wanted[string(p.Key)] = string(p.Val)
	}
	var plan []impl.Op
	for _, r := range s.Rows {
		there[string(r.Key)] = "=" + string(r.Val)
		if _, is := wanted[string(r.Key)]; !is && strings.HasPrefix(string(r.Key), modelPlace(l.Node, nil)) {
			plan = append(plan, impl.Op{Kind: 3, Key: r.Key})
		}
	}
	for _, p := range modelWant(l) {
		if there[string(p.Key)] != "="+string(p.Val) {
			plan = append(plan, impl.Op{Kind: 1, Key: p.Key, Val: p.Val})
		}
	}
	return plan, true
}

// sameLocal is same for agents, of which sweeps hold many against each other.
func sameLocal(a, b impl.Local) bool {
	return bytes.Equal(a.Node, b.Node) && slices.EqualFunc(a.Services, b.Services, func(a, b impl.Service) bool {
		return bytes.Equal(a.Name, b.Name) && slices.EqualFunc(a.Checks, b.Checks, sameCheck)
	})
}

func sameOps(a, b []impl.Op) bool {
	return slices.EqualFunc(a, b, func(a, b impl.Op) bool {
		return a.Kind == b.Kind && bytes.Equal(a.Key, b.Key) && bytes.Equal(a.Val, b.Val) && a.N == b.N
	})
}

func samePairs(a, b []impl.Pair) bool {
	return slices.EqualFunc(a, b, func(a, b impl.Pair) bool { return bytes.Equal(a.Key, b.Key) && bytes.Equal(a.Val, b.Val) })
}

// localText writes an agent down: its Node, and of each service the Name and the checks.
func localText(l impl.Local) string {
	words := []string{fmt.Sprintf("%.30q:", l.Node)}
	for _, s := range l.Services[:min(len(l.Services), 10)] {
		words = append(words, fmt.Sprintf("%.30q", s.Name))
		for _, c := range s.Checks[:min(len(s.Checks), 10)] {
			words = append(words, "("+checkText(c)+")")
		}
	}
	return strings.Join(words, " ")
}

// opTexts writes operations down: del Key, or set Key=Val, or what else they are.
func opTexts(l []impl.Op) string {
	var all []string
	for _, o := range l {
		switch {
		case o.Kind == impl.OpDel && len(o.Val) == 0 && o.N == 0:
			all = append(all, fmt.Sprintf("del %s", o.Key))
		case o.Kind == impl.OpSet && o.N == 0:
			all = append(all, fmt.Sprintf("set %s=%s", o.Key, o.Val))
		default:
			all = append(all, fmt.Sprint(o))
		}
	}
	return strings.Join(all, " ")
}

func pairTexts(l []impl.Pair) string {
	var all []string
	for _, p := range l {
		all = append(all, fmt.Sprintf("%s=%s", p.Key, p.Val))
	}
	return strings.Join(all, " ")
}

// agentOf answers an agent; of a service the first word is its Name, each other one a check's Name and, as the last byte, Status.
func agentOf(node string, services ...string) impl.Local {
	l := impl.Local{Node: []byte(node)}
	for _, text := range services {
		words := strings.Fields(text)
		var checks []impl.Check
		for _, word := range words[1:] {
			checks = append(checks, checkOf(word))
		}
		l.Services = append(l.Services, service(words[0], checks...))
	}
	return l
}

func checkOf(word string) impl.Check {
	last := len(word) - 1
	status := int(word[last] - '0')
	return named(word[:last], checked(5, 2, status, 0, status%2))
}

func service(name string, checks ...impl.Check) impl.Service {
	return impl.Service{Name: []byte(name), Checks: checks}
}

// saying answers a state with these rows, each a key, = and a value.
func saying(rows ...string) impl.State {
	s := impl.State{Index: 50}
	for i, row := range rows {
		key, val, _ := strings.Cut(row, "=")
		s.Rows = append(s.Rows, impl.Row{Key: []byte(key), Val: []byte(val), Turned: i + 1})
	}
	return s
}
