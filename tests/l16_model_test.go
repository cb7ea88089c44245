package tests

import (
	"fmt"
	"math/rand"
	"regexp"
	"strings"

	"loop.example/g00365/impl"
)

// The desk told a second time: what a line asks is told by patterns, and what is answered as text.

var (
	modelShow    = regexp.MustCompile(`^show *$`)
	modelLookAt  = regexp.MustCompile(`^look +([a-z/]{1,20})$`)
	modelKeysAll = regexp.MustCompile(`^keys *$`)
	modelKeysOf  = regexp.MustCompile(`^keys +([a-z/]{1,20})$`)
	modelAsk     = regexp.MustCompile(`(?s)^0*([0-3])(?: +(.*))?$`)
)

func modelDeskLine(s impl.State, line string) (impl.State, string) {
	if !modelState(s) || len(line) > 120 {
		return impl.State{}, ""
	}
	if modelShow.MatchString(line) {
		return s, strings.TrimSuffix(modelStateText(s), "\n")
	}
	if parts := modelLookAt.FindStringSubmatch(line); parts != nil {
		return s, modelLooked(s, parts[1])
	}
	if modelKeysAll.MatchString(line) {
		return s, modelListed(s, "")
	}
	if parts := modelKeysOf.FindStringSubmatch(line); parts != nil {
		return s, modelListed(s, parts[1])
	}
	if parts := modelAsk.FindStringSubmatch(line); parts != nil {
		return modelAsked(s, int(parts[1][0]-'0'), parts[2])
	}
	return s, "?"
}

func modelLooked(s impl.State, key string) string {
	if row := modelRow(&s, []byte(key)); row != nil {
		return fmt.Sprintf("%s %d", modelValueText(row.Val), row.Turned)
	}
	index := s.Lost
	for _, x := range s.Tombs {
		if string(x.Key) == key {
			index = x.Index
		}
	}
	return fmt.Sprintf("nothing %d", index)
}

func modelListed(s impl.State, ahead string) string {
	count, list := 0, ""
	for _, r := range s.Rows {
		if strings.HasPrefix(string(r.Key), ahead) {
			count++
			list += " " + string(r.Key)
		}
	}
	return fmt.Sprint(count) + list
}

func modelAsked(s impl.State, client int, rest string) (impl.State, string) {
	req := 1
	for _, last := range s.Lasts {
		if last.Client == client {
			req += last.Req
		}
	}
	o, code, place := modelOpRead(rest)
	if code > 0 || s.Index >= 1000000 || req > 1000000 {
		return s, fmt.Sprintf("? %d %d", code, place)
	}
	next, reply := modelApply(s, impl.Cmd{Client: client, Req: req, Op: o})
	return next, modelReplyText(reply)
}

func modelDesk(text string) (string, bool) {
	if len(text) > 2000 {
		return "", false
	}
	answers, s := "", impl.State{}
	for _, line := range linesOf(text) {
		if len(line) > 120 {
			return "", false
		}
		next, told := modelDeskLine(s, line)
		s, answers = next, answers+told+"\n"
	}
	return answers, true
}

// linesOf answers what stands ahead of each byte 10, and what is left behind the last one, if it has bytes.
func linesOf(text string) []string {
	lines := strings.Split(text, "\n")
	if last := len(lines) - 1; lines[last] == "" {
		lines = lines[:last]
	}
	return lines
}

// askable answers a state of which each thing that a line may ask for is there, once so and once otherwise.
func askable() impl.State {
	return impl.State{
		Index: 40, Lost: 3,
		Rows: []impl.Row{
			{Key: []byte("a"), Val: []byte("x"), Turned: 5},
			{Key: []byte("a/b"), Turned: 9, Holder: 7},
			{Key: []byte("b"), Val: []byte("50%\n"), Turned: 40, Holder: 20},
		},
		Tombs: []impl.Tomb{{Key: []byte("c"), Index: 4}, {Key: []byte("a/c"), Index: 12}},
		Sess:  []impl.Session{{Id: 7}, {Id: 20, Delete: true}},
		Lasts: []impl.Last{
			{Client: 0, Req: 6, Reply: impl.Reply{Code: impl.RpHeld, Index: 39}},
			{Client: 2, Req: impl.MaxIndex - 1, Reply: impl.Reply{Index: 8}},
			{Client: 3, Req: impl.MaxIndex, Reply: impl.Reply{Index: 40}},
		},
	}
}

// padded answers two words with as many blanks between as make a line of so many bytes.
func padded(size int, ahead, behind string) string {
	return ahead + strings.Repeat(" ", size-len(ahead)-len(behind)) + behind
}

// drawnLine answers a line that mostly asks for something that s has, or may have.
func drawnLine(r *rand.Rand, s impl.State) string {
	key := []string{"a", "a/b", "b", "b/", "c", "a/bc"}[r.Intn(6)]
	if r.Intn(4) == 0 {
		key = numbered(r.Intn(26))
	}
	id := 1 + r.Intn(s.Index+1)
	if len(s.Sess) > 0 && r.Intn(8) > 0 {
		id = s.Sess[r.Intn(len(s.Sess))].Id
	}
	val := modelValueText([]byte([]string{"", "x", "y y", "%\"\n"}[r.Intn(4)]))
	var line string
	switch r.Intn(15) {
	case 0:
		line = "show"
	case 1:
		line = "look " + key
	case 2:
		line = "keys"
	case 3:
		line = "keys " + key[:1]
	case 4:
		line = []string{"", "foo", "shows", "4 none", "-1 none", "0", "1 sett a", "2 open 2"}[r.Intn(8)]
	default:
		line = fmt.Sprintf("%d %s", r.Intn(4), drawnRest(r, s, key, val, id))
	}
	if r.Intn(10) == 0 {
		at := r.Intn(len(line) + 1)
		line = line[:at] + []string{" ", "  ", "a", "0", "!", "\""}[r.Intn(6)] + line[at:]
	}
	return line
}

// drawnRest answers an operation as text.
func drawnRest(r *rand.Rand, s impl.State, key, val string, id int) string {
	switch r.Intn(12) {
	case 0, 1, 2:
		return fmt.Sprintf("set %s %s", key, val)
	case 3:
		return fmt.Sprintf("cas %s %s %d", key, val, r.Intn(2)*impl.Look(s, []byte(key)).Index)
	case 4, 5:
		return "del " + key
	case 6:
		return fmt.Sprintf("open %d", r.Intn(2))
	case 7:
		return fmt.Sprintf("shut %d", id)
	case 8, 9:
		return fmt.Sprintf("take %s %s %d", key, val, id)
	case 10:
		return fmt.Sprintf("free %s %d", key, id)
	}
	return "none"
}
