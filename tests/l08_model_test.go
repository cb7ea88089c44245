package tests

import (
	"fmt"
	"regexp"
	"strconv"
	"strings"

	"loop.example/g00365/impl"
)

// Lines told a second time: what may be written is told by patterns, and what an operation has by a letter for each of its parts.

var modelForms = []struct{ name, parts string }{
	{"none", ""}, {"set", "kv"}, {"cas", "kvn"}, {"del", "k"}, {"open", "n"}, {"shut", "n"}, {"take", "kvn"}, {"free", "kn"},
}

var modelReplies = []string{"well", "none", "held", "turned", "full", "old"}

const modelSign = `(?:[ !#$&-~]|%[01][0-9a-f]|%22|%25|%7f|%[89a-f][0-9a-f])`

var (
	modelValue  = regexp.MustCompile(`^"` + modelSign + `{0,20}"`)
	modelPiece  = regexp.MustCompile(`^[a-z0-9/]+`)
	modelNumber = regexp.MustCompile(`^(0|[1-9][0-9]{0,5}|1000000)$`)
	modelWord   = regexp.MustCompile(`^[a-z/]{1,20}$`)
	modelSigns  = regexp.MustCompile(modelSign)
)

func modelName(kind int) string {
	if kind < 0 || kind > 7 {
		return ""
	}
	return modelForms[kind].name
}

func modelValueText(val []byte) string {
	text := ""
	for _, c := range val {
		if c < ' ' || c > '~' || strings.IndexByte(`"%`, c) >= 0 {
			text += fmt.Sprintf("%%%02x", c)
		} else {
			text += string(rune(c))
		}
	}
	return `"` + text + `"`
}

func modelOpText(o impl.Op) (string, bool) {
	if !modelOp(o) {
		return "", false
	}
	text := modelForms[o.Kind].name
	for _, part := range modelForms[o.Kind].parts {
		switch part {
		case 'k':
			text += " " + string(o.Key)
		case 'v':
			text += " " + modelValueText(o.Val)
		case 'n':
			text += fmt.Sprintf(" %d", o.N)
		}
	}
	return text, true
}

// modelToken is a piece of a line, as it stands there; its sort is k, v or n.
type modelToken struct {
	sort  byte
	place int
	text  string
}

// modelTokens answers the tokens of a line and -1, or the place of the first piece that is none.
func modelTokens(line string) ([]modelToken, int) {
	var all []modelToken
	for place := 0; ; {
		rest := strings.TrimLeft(line[place:], " ")
		if place = len(line) - len(rest); rest == "" {
			return all, -1
		}
		if text := modelValue.FindString(rest); text != "" {
			all = append(all, modelToken{'v', place, text})
			place += len(text)
			continue
		}
		text := modelPiece.FindString(rest)
		switch {
		case modelNumber.MatchString(text):
			all = append(all, modelToken{'n', place, text})
		case modelWord.MatchString(text):
			all = append(all, modelToken{'k', place, text})
		default:
			return nil, place
		}
		place += len(text)
	}
}

func modelOpRead(line string) (impl.Op, int, int) {
	if len(line) > 100 {
		return impl.Op{}, 1, 0
	}
	tokens, wrong := modelTokens(line)
	if wrong >= 0 {
		return impl.Op{}, 2, wrong
	}
	if len(tokens) == 0 {
		return impl.Op{}, 3, len(line)
	}
	sorts := ""
	for _, token := range tokens[1:] {
		sorts += string(token.sort)
	}
	for kind, form := range modelForms {
		if tokens[0].text != form.name {
			continue
		}
		for i := range sorts {
			if !strings.HasPrefix(form.parts, sorts[:i+1]) {
				return impl.Op{}, 3, tokens[1+i].place
			}
		}
		if sorts != form.parts {
			return impl.Op{}, 3, len(line)
		}
		o := modelMade(kind, tokens[1:])
		if !modelOp(o) {
			return impl.Op{}, 3, tokens[len(tokens)-1].place
		}
		return o, 0, 0
	}
	return impl.Op{}, 3, tokens[0].place
}

func modelMade(kind int, tokens []modelToken) impl.Op {
	o := impl.Op{Kind: kind}
	for _, token := range tokens {
		switch token.sort {
		case 'k':
			o.Key = []byte(token.text)
		case 'n':
			o.N, _ = strconv.Atoi(token.text)
		case 'v':
			for _, sign := range modelSigns.FindAllString(token.text[1:len(token.text)-1], -1) {
				c := sign[0]
				if len(sign) == 3 {
					n, _ := strconv.ParseUint(sign[1:], 16, 8)
					c = byte(n)
				}
				o.Val = append(o.Val, c)
			}
		}
	}
	return o
}

func modelReplyText(r impl.Reply) string {
	if r.Code < 0 || r.Code > 5 || r.Index < 0 || r.Index > 1000000 {
		return ""
	}
	return fmt.Sprintf("%s %d", modelReplies[r.Code], r.Index)
}

// modelStateText answers the lines of a state that may be.
func modelStateText(s impl.State) string {
	text := fmt.Sprintf("at %d\n", s.Index)
	for _, row := range s.Rows {
		text += fmt.Sprintf("row %s %s %d %d\n", row.Key, modelValueText(row.Val), row.Turned, row.Holder)
	}
	for _, tomb := range s.Tombs {
		text += fmt.Sprintf("gone %s %d\n", tomb.Key, tomb.Index)
	}
	for _, session := range s.Sess {
		makes := map[bool]string{true: " delete"}
		text += fmt.Sprintf("session%s %d\n", makes[session.Delete], session.Id)
	}
	return text
}
