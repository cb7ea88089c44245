package tests

import (
	"bytes"
	"fmt"
	"math/rand"
	"slices"
	"strings"
	"testing"

	"loop.example/g00365/impl"
)

// A line may have so many bytes: 20 more than an operation's.
const mostDeskLine = 120

func TestLimitsOfTheDesk(t *testing.T) {
	if impl.MaxDesk != 2000 || impl.MaxLine+20 != mostDeskLine {
		t.Fatal(impl.MaxDesk, impl.MaxLine)
	}
}

// mustTellAsModel answers what is told of a line over s, as the model tells it, and the state behind that.
func mustTellAsModel(t *testing.T, s impl.State, line string) (impl.State, string) {
	t.Helper()
	next, told := impl.DeskLine(s, []byte(line))
	want, wanted := modelDeskLine(s, line)
	if string(told) != wanted || !sameState(next, want) {
		t.Fatalf("DeskLine of %q over\n%v\nis %q\n%v\nnot %q\n%v", line, s, told, next, wanted, want)
	}
	return next, string(told)
}

// mustBeTold fails unless a line is told so, and nothing turns.
func mustBeTold(t *testing.T, s impl.State, line, told string) {
	t.Helper()
	next, got := mustTellAsModel(t, s, line)
	if got != told {
		t.Fatalf("DeskLine of %q: %q, not %q", line, got, told)
	}
	if !sameState(next, s) || !impl.StateOk(next) {
		t.Fatalf("DeskLine of %q left\n%v\nof\n%v", line, next, s)
	}
}

// mustApply fails unless a line is told so, and the state behind it is what Apply leaves of the client's request.
func mustApply(t *testing.T, s impl.State, line, told string, client, req int, o impl.Op) impl.State {
	t.Helper()
	next, got := mustTellAsModel(t, s, line)
	if got != told {
		t.Fatalf("DeskLine of %q: %q, not %q", line, got, told)
	}
	want, reply := impl.Apply(s, impl.Cmd{Client: client, Req: req, Op: o})
	if !sameState(next, want) || string(impl.ReplyText(reply)) != told || next.Index != s.Index+1 {
		t.Fatalf("DeskLine of %q left\n%v\nnot\n%v", line, next, want)
	}
	last, is := impl.LastOf(next, client)
	if !is || last != (impl.Last{Client: client, Req: req, Reply: reply}) {
		t.Fatalf("DeskLine of %q left %v of client %d", line, last, client)
	}
	return next
}

// deskLines answers lines of each sort, those that are nothing but a `?` among them.
func deskLines() []string {
	lines := []string{
		"show", "show  ", "show a", "look a", "look   a/b", "look zz", "look", "look a b", "keys", "keys ", "keys a", "keys zz", "keys a b",
		"", " ", " show", "?", "foo", "4 none", "-1 none", "+1 none", "01 none", "0", "3  ", "1 sett", "0 none a", "2  open 2",
		padded(mostDeskLine, "look", "a"), padded(mostDeskLine, "1", "none"), padded(mostDeskLine, "show", ""), strings.Repeat("x", mostDeskLine),
	}
	for i, line := range goodLines() {
		lines = append(lines, fmt.Sprintf("%d %s", i%4, line), line)
	}
	return lines
}

func mustTellNothing(t *testing.T, s impl.State, line string) {
	t.Helper()
	if next, told := impl.DeskLine(s, []byte(line)); len(told) > 0 || !same(next, impl.State{}) {
		t.Fatalf("DeskLine of %q over %v: %q, %v", line, s, told, next)
	}
	mustTellAsModel(t, s, line)
}

func TestDeskLineOfAStateThatMayNotBe(t *testing.T) {
	for _, s := range badStates() {
		for _, line := range deskLines() {
			mustTellNothing(t, s, line)
			mustTellNothing(t, s, strings.Repeat("x", 121))
		}
	}
}

func TestHowLongALineMayBe(t *testing.T) {
	s := askable()
	shown := strings.TrimSuffix(string(impl.StateText(s)), "\n")
	for _, size := range []int{mostDeskLine - 1, mostDeskLine} {
		mustApply(t, s, padded(size, "1", "none"), "well 41", 1, 1, impl.Op{})
		mustApply(t, s, strings.Repeat("0", size-5)+" none", "well 41", 0, 7, impl.Op{})
		mustBeTold(t, s, padded(size, "look", "a"), `"x" 5`)
		mustBeTold(t, s, padded(size, "keys", "a/"), "1 a/b")
		mustBeTold(t, s, padded(size, "keys", ""), "3 a a/b b")
		mustBeTold(t, s, padded(size, "show", ""), shown)
		mustBeTold(t, s, padded(size, "0", ""), "? 3 0")
		mustBeTold(t, s, strings.Repeat("x", size), "?")
		mustBeTold(t, s, strings.Repeat(" ", size), "?")
		mustBeTold(t, s, strings.Repeat("\x00", size), "?")
	}
	for _, size := range []int{mostDeskLine + 1, mostDeskLine + 2, 200, impl.MaxDesk, 1000000} {
		for _, ahead := range []string{"", "show", "keys", "0", "look", "x"} {
			mustTellNothing(t, s, padded(size, ahead, ""))
			mustTellNothing(t, s, padded(size, ahead, "a"))
			mustTellNothing(t, s, padded(size, ahead, "none"))
		}
		mustTellNothing(t, s, strings.Repeat("0", size-5)+" none")
		mustTellNothing(t, s, strings.Repeat("\n", size))
		mustTellNothing(t, impl.State{}, padded(size, "1", "none"))
	}
}

// The rest of a line may have MaxLine bytes, and so may be too long where the line is not.
func TestHowLongARestMayBe(t *testing.T) {
	s := askable()
	for size := 95; size <= 118; size++ {
		well := "0 " + padded(size, "none", "")
		wrong := "0 " + strings.Repeat("!", size)
		if size <= impl.MaxLine {
			mustApply(t, s, well, "well 41", 0, 7, impl.Op{})
			mustBeTold(t, s, wrong, "? 2 0")
			continue
		}
		mustBeTold(t, s, well, "? 1 0")
		mustBeTold(t, s, wrong, "? 1 0")
	}
	long := "1               " + padded(impl.MaxLine, "set a", `"x"`)
	mustApply(t, s, long, "well 41", 1, 1, op(impl.OpSet, "a", "x", 0))
	mustBeTold(t, s, long+" ", "? 1 0")
}

func TestShowAtTheDesk(t *testing.T) {
	s := askable()
	shown := "at 40\nrow a \"x\" 5 0\nrow a/b \"\" 9 7\nrow b \"50%25%0a\" 40 20\ngone c 4\ngone a/c 12\nsession 7\nsession delete 20"
	for _, line := range []string{"show", "show ", "show  ", "show          "} {
		mustBeTold(t, s, line, shown)
		mustBeTold(t, impl.State{}, line, "at 0")
		mustBeTold(t, impl.State{Index: impl.MaxIndex}, line, "at 1000000")
		mustBeTold(t, filled(), line, strings.TrimSuffix(modelStateText(filled()), "\n"))
	}
	for _, line := range []string{"show a", "show  a", "show 0", "show show", "show ?", "show a ", "show \t", "show \n", "show \x00", "show \"\""} {
		mustBeTold(t, s, line, "?")
		mustBeTold(t, impl.State{}, line, "?")
	}
	for _, s := range goodStates() {
		mustBeTold(t, s, "show", string(bytes.TrimSuffix(impl.StateText(s), []byte("\n"))))
	}
}

func TestLookAtTheDesk(t *testing.T) {
	s := askable()
	s.Rows[1].Key = []byte(longKey)
	for _, c := range []struct{ line, told string }{
		{"look a", `"x" 5`}, {"look  a", `"x" 5`}, {"look         a", `"x" 5`}, {"look " + longKey, `"" 9`}, {"look b", `"50%25%0a" 40`},
		{"look c", "nothing 4"}, {"look a/c", "nothing 12"}, {"look   a/c", "nothing 12"},
		{"look d", "nothing 3"}, {"look aa", "nothing 3"}, {"look a/", "nothing 3"}, {"look /", "nothing 3"}, {"look " + longKey[:19], "nothing 3"}, {"look look", "nothing 3"},
		{"look", "?"}, {"look ", "?"}, {"look   ", "?"},
		{"look A", "?"}, {"look a1", "?"}, {"look 1", "?"}, {"look a.b", "?"}, {`look "a"`, "?"}, {"look -", "?"}, {"look \xff", "?"}, {"look a\n", "?"},
		{"look " + tooLongKey, "?"}, {"look " + longKey + "/", "?"}, {"look " + strings.Repeat("a", 115), "?"},
		{"look a b", "?"}, {"look a a", "?"}, {"look a ", "?"}, {"look a  ", "?"}, {"look  a 1", "?"}, {`look a "x"`, "?"}, {"look a\tb", "?"},
	} {
		mustBeTold(t, s, c.line, c.told)
	}
	mustBeTold(t, impl.State{}, "look a", "nothing 0")
	mustBeTold(t, impl.State{Index: 9, Lost: 9}, "look a", "nothing 9")
	mustBeTold(t, filled(), "look k/b", `"%01" 2`)
	mustBeTold(t, filled(), "look t/k/a", "nothing 9")
	mustBeTold(t, filled(), "look t", "nothing 5")
}

// A value is told as text, whatever its bytes.
func TestEachByteAtTheDesk(t *testing.T) {
	for c := range 256 {
		s := askable()
		s.Rows[0].Val = []byte{byte(c)}
		mustBeTold(t, s, "look a", modelValueText(s.Rows[0].Val)+" 5")
		s.Rows[0].Val = bytes.Repeat([]byte{byte(c)}, impl.MaxText)
		mustBeTold(t, s, "look a", modelValueText(s.Rows[0].Val)+" 5")
	}
}

func TestKeysAtTheDesk(t *testing.T) {
	s := askable()
	for _, c := range []struct{ line, told string }{
		{"keys", "3 a a/b b"}, {"keys ", "3 a a/b b"}, {"keys     ", "3 a a/b b"},
		{"keys a", "2 a a/b"}, {"keys   a", "2 a a/b"}, {"keys a/", "1 a/b"}, {"keys a/b", "1 a/b"}, {"keys b", "1 b"},
		{"keys c", "0"}, {"keys a/c", "0"}, {"keys a/bc", "0"}, {"keys /", "0"}, {"keys " + longKey, "0"}, {"keys keys", "0"},
		{"keys A", "?"}, {"keys 1", "?"}, {"keys a1", "?"}, {`keys ""`, "?"}, {`keys "a"`, "?"}, {"keys *", "?"}, {"keys \x00", "?"}, {"keys a\n", "?"},
		{"keys " + tooLongKey, "?"}, {"keys " + strings.Repeat("a", 115), "?"},
		{"keys a b", "?"}, {"keys a ", "?"}, {"keys a a", "?"}, {"keys a\tb", "?"},
	} {
		mustBeTold(t, s, c.line, c.told)
	}
	for _, line := range []string{"keys", "keys ", "keys a"} {
		mustBeTold(t, impl.State{}, line, "0")
	}
	all := "20"
	for i := range impl.MaxKeys {
		all += " " + numbered(i)
	}
	mustBeTold(t, filled(), "keys", all)
	mustBeTold(t, filled(), "keys k", all)
	mustBeTold(t, filled(), "keys k/", all)
	mustBeTold(t, filled(), "keys k/t", "1 k/t")
	mustBeTold(t, filled(), "keys t/", "0")
}

func TestClientsAtTheDesk(t *testing.T) {
	s := askable()
	s.Lasts = s.Lasts[:2]
	for _, c := range []struct {
		word        string
		client, req int
	}{
		{"0", 0, 7}, {"1", 1, 1}, {"2", 2, impl.MaxIndex}, {"3", 3, 1},
		{"00", 0, 7}, {"000", 0, 7}, {"01", 1, 1}, {"001", 1, 1}, {"02", 2, impl.MaxIndex}, {"03", 3, 1}, {"0003", 3, 1},
		{strings.Repeat("0", 100), 0, 7}, {strings.Repeat("0", 99) + "3", 3, 1},
	} {
		mustApply(t, s, c.word+" none", "well 41", c.client, c.req, impl.Op{})
		mustApply(t, s, c.word+"   del b ", "well 41", c.client, c.req, op(impl.OpDel, "b", "", 0))
		for _, behind := range []string{"", " ", "     "} {
			mustBeTold(t, s, c.word+behind, "? 3 0")
		}
	}
	for _, word := range []string{
		"4", "5", "9", "10", "11", "12", "13", "20", "30", "33", "40", "100", "004", "0010", "10000",
		"256", "257", "65536", "4294967296", "4294967297", "2147483648", "9223372036854775808", "18446744073709551615", "18446744073709551616",
		"18446744073709551617", "36893488147419103232", "340282366920938463463374607431768211456", strings.Repeat("1", 100), strings.Repeat("0", 99) + "4",
		"-0", "-1", "-00", "+0", "+1", "+3", "--1", "0-", "1+", "-", "+", "-4", "+4", "- 1",
		"0x0", "0x1", "0o1", "0b1", "1_", "0_1", "_1", "1.", "1.0", ".1", "1e0", "1e1", "1a", "a1", "a", "1/", "/1", "0,", "1:", "(1)", `"1"`, "1\"", "#1",
		"\xd9\xa1", "\xef\xbc\x91", "\xc2\xb9", "1\x00", "\x001", "1\t", "\t1", "1\n", "\n1", "1\xa0", "nobody", "one",
	} {
		for _, behind := range []string{"", " ", " none", "  none", " open 1", " del b"} {
			mustBeTold(t, s, word+behind, "?")
		}
	}
}

// What OpRead does not find well is told with its code, and its place in the rest, wherever that begins.
func TestOperationsThatAreNotWell(t *testing.T) {
	s := askable()
	for _, c := range []struct{ rest, told string }{
		{"", "? 3 0"}, {"set", "? 3 3"}, {"set ", "? 3 4"}, {"set a", "? 3 5"}, {"set a b", "? 3 6"}, {`set a "x" 1`, "? 3 10"}, {`set "x"`, "? 3 4"},
		{"sett a", "? 3 0"}, {"0", "? 3 0"}, {"show", "? 3 0"}, {"look a", "? 3 0"}, {"1 none", "? 3 0"}, {`"x"`, "? 3 0"},
		{"none none", "? 3 5"}, {"none 0", "? 3 5"}, {"del", "? 3 3"}, {"del 1", "? 3 4"}, {"del a b", "? 3 6"},
		{"open", "? 3 4"}, {"open 2", "? 3 5"}, {"open  2 ", "? 3 6"}, {"shut 0", "? 3 5"}, {`take a "v" 0`, "? 3 11"}, {"free a 0", "? 3 7"}, {"free a", "? 3 6"},
		{"None", "? 2 0"}, {"none!", "? 2 4"}, {"none\n", "? 2 4"}, {"none\t", "? 2 4"}, {"set A", "? 2 4"}, {`set a "%41"`, "? 2 6"}, {`set a "x`, "? 2 6"}, {"open 01", "? 2 5"},
		{"shut 1000001", "? 2 5"}, {"del " + tooLongKey, "? 2 4"}, {"sett a !", "? 2 7"}, {"\x00", "? 2 0"}, {"!", "? 2 0"},
		{strings.Repeat("a", 100), "? 2 0"}, {strings.Repeat("a", 101), "? 1 0"}, {"none" + strings.Repeat(" ", 97), "? 1 0"},
	} {
		for _, ahead := range []string{"0 ", "1 ", "2    ", "03      "} {
			mustBeTold(t, s, ahead+c.rest, c.told)
			mustBeTold(t, impl.State{}, ahead+c.rest, c.told)
			mustBeTold(t, filled(), ahead+c.rest, c.told)
		}
	}
}

// Lines with a byte left out, put in or turned are told as the model tells them, and as OpRead reads the rest.
func TestDeskLinesThatAreNearlyGood(t *testing.T) {
	t.Parallel()
	states := []impl.State{askable(), filled()}
	told := map[string]int{}
	for i, text := range append(goodLines(), "show", "look a/b", "keys a", "keys") {
		line := []byte(fmt.Sprintf("%d %s", i%4, text))
		if i >= len(goodLines()) {
			line = []byte(text)
		}
		lookAround(line, []byte("a0 \"!9/%\n\x00\xff"), func(b []byte) {
			for _, s := range states {
				_, got := mustTellAsModel(t, s, string(b))
				word, _, _ := strings.Cut(got, " ")
				told[word]++
			}
		})
	}
	for word, least := range map[string]int{"?": 10000, "well": 100, "none": 500, "turned": 100, "full": 200, "nothing": 20, "at": 2, "0": 2, "2": 2, "20": 2} {
		if told[word] < least {
			t.Errorf("%q was told %d times, of %v", word, told[word], told)
		}
	}
}

func TestEachOperationAtTheDesk(t *testing.T) {
	full := filled()
	for _, c := range []struct {
		s          impl.State
		rest, told string
		o          impl.Op
	}{
		{askable(), "none", "well 41", impl.Op{}},
		{askable(), `set a "y"`, "well 41", op(impl.OpSet, "a", "y", 0)},
		{askable(), `set c "%00%22%25 "`, "well 41", op(impl.OpSet, "c", "\x00\"% ", 0)},
		{askable(), `set a/b ""`, "well 41", op(impl.OpSet, "a/b", "", 0)},
		{full, `set zz "y"`, "full 101", op(impl.OpSet, "zz", "y", 0)},
		{askable(), `cas a "y" 5`, "well 41", op(impl.OpCas, "a", "y", 5)},
		{askable(), `cas a "y" 6`, "turned 41", op(impl.OpCas, "a", "y", 6)},
		{askable(), `cas c "y" 0`, "well 41", op(impl.OpCas, "c", "y", 0)},
		{askable(), `cas c "y" 4`, "turned 41", op(impl.OpCas, "c", "y", 4)},
		{full, `cas zz "" 0`, "full 101", op(impl.OpCas, "zz", "", 0)},
		{askable(), "del b", "well 41", op(impl.OpDel, "b", "", 0)},
		{askable(), "del c", "none 41", op(impl.OpDel, "c", "", 0)},
		{full, "del k/b", "well 101", op(impl.OpDel, "k/b", "", 0)},
		{askable(), "open 0", "well 41", op(impl.OpOpen, "", "", 0)},
		{askable(), "open 1", "well 41", op(impl.OpOpen, "", "", 1)},
		{full, "open 1", "full 101", op(impl.OpOpen, "", "", 1)},
		{askable(), "shut 7", "well 41", op(impl.OpShut, "", "", 7)},
		{askable(), "shut 20", "well 41", op(impl.OpShut, "", "", 20)},
		{askable(), "shut 8", "none 41", op(impl.OpShut, "", "", 8)},
		{askable(), `take a "" 20`, "well 41", op(impl.OpTake, "a", "", 20)},
		{askable(), `take a/b "z" 7`, "well 41", op(impl.OpTake, "a/b", "z", 7)},
		{askable(), `take a/b "z" 20`, "held 41", op(impl.OpTake, "a/b", "z", 20)},
		{askable(), `take a/b "z" 8`, "none 41", op(impl.OpTake, "a/b", "z", 8)},
		{full, `take zz "z" 10`, "full 101", op(impl.OpTake, "zz", "z", 10)},
		{askable(), "free a/b 7", "well 41", op(impl.OpFree, "a/b", "", 7)},
		{askable(), "free a/b 20", "none 41", op(impl.OpFree, "a/b", "", 20)},
		{askable(), "free a 7", "none 41", op(impl.OpFree, "a", "", 7)},
	} {
		for client, req := range []int{7, 1} {
			if c.s.Index == 100 {
				req = 8
			}
			mustApply(t, c.s, fmt.Sprintf("%d %s", client, c.rest), c.told, client, req, c.o)
			mustApply(t, c.s, fmt.Sprintf("%d   %s  ", client, c.rest), c.told, client, req, c.o)
		}
	}
}

// Where nothing more can be applied, the rest is told as OpRead found it.
func TestNoPlaceForMore(t *testing.T) {
	end, ahead := askable(), askable()
	end.Index, ahead.Index = impl.MaxIndex, impl.MaxIndex-1
	for _, client := range []string{"0", "1", "2", "3", "01"} {
		for _, s := range []impl.State{end, {Index: impl.MaxIndex}, mostState()} {
			mustBeTold(t, s, client+" none", "? 0 0")
			mustBeTold(t, s, client+"   del a", "? 0 0")
			mustBeTold(t, s, client, "? 3 0")
			mustBeTold(t, s, client+" del", "? 3 3")
			mustBeTold(t, s, client+" !", "? 2 0")
			mustBeTold(t, s, client+strings.Repeat(" !", 52), "? 1 0")
		}
	}
	mustBeTold(t, end, "4 none", "?")
	mustBeTold(t, end, "look a", `"x" 5`)
	mustBeTold(t, end, "keys", "3 a a/b b")
	last := mustApply(t, ahead, "1 open 1", "well 1000000", 1, 1, op(impl.OpOpen, "", "", 1))
	mustBeTold(t, last, "1 none", "? 0 0")
	mustBeTold(t, last, "0 none", "? 0 0")
	mustBeTold(t, last, "1 none none", "? 3 5")
}

func TestNoRequestForMore(t *testing.T) {
	s := askable()
	for _, s := range []impl.State{s, {Index: 5, Lasts: []impl.Last{{Client: 3, Req: impl.MaxIndex, Reply: impl.Reply{Index: 5}}}}} {
		mustBeTold(t, s, "3 none", "? 0 0")
		mustBeTold(t, s, "03   open 1 ", "? 0 0")
		mustBeTold(t, s, "3", "? 3 0")
		mustBeTold(t, s, "3 open 2", "? 3 5")
		mustBeTold(t, s, "3 open 02", "? 2 5")
		mustBeTold(t, s, "3 "+strings.Repeat("a", 101), "? 1 0")
	}
	next := mustApply(t, s, "2 del a", "well 41", 2, impl.MaxIndex, op(impl.OpDel, "a", "", 0))
	mustBeTold(t, next, "2 none", "? 0 0")
	mustBeTold(t, next, "3 none", "? 0 0")
	// The others have requests left.
	next = mustApply(t, next, "0 none", "well 42", 0, 7, impl.Op{})
	mustApply(t, next, "1 none", "well 43", 1, 1, impl.Op{})
}

// Each client's requests are counted from 1 on, whatever became of them and whatever others asked.
func TestRequestsAreCounted(t *testing.T) {
	var s impl.State
	for _, c := range []struct {
		line, told  string
		client, req int
	}{
		{"3 open 0", "well 1", 3, 1},
		{"3 open 0", "well 2", 3, 2},
		{`0 take a "x" 1`, "well 3", 0, 1},
		{`1 take a "y" 2`, "held 4", 1, 1},
		{"3 del b", "none 5", 3, 3},
		{`0 cas a "z" 3`, "well 6", 0, 2},
		{`0 cas a "z" 3`, "turned 7", 0, 3},
		{"2 none", "well 8", 2, 1},
		{"1 shut 1", "well 9", 1, 2},
		{"03 none", "well 10", 3, 4},
		{"1 none", "well 11", 1, 3},
		{"0 shut 1", "none 12", 0, 4},
		{"2 free a 2", "none 13", 2, 2},
		{"3 none", "well 14", 3, 5},
	} {
		_, rest, _ := strings.Cut(c.line, " ")
		o, code, _ := impl.OpRead([]byte(rest))
		if code != impl.LnWell {
			t.Fatalf("%q is read with %d", rest, code)
		}
		s = mustApply(t, s, c.line, c.told, c.client, c.req, o)
		// What is not applied is no request.
		for _, line := range []string{"0 sett", "1 open 2", "2", "3 none none", "4 none", "-1 none", "look zz", "foo", ""} {
			next, _ := mustTellAsModel(t, s, line)
			if !sameState(next, s) {
				t.Fatalf("%q left %v of %v", line, next, s)
			}
		}
	}
	mustBe(t, "rows", rowTexts(s), "a=z@9:0")
}

func TestWordsThatAreNone(t *testing.T) {
	words := []string{
		"", " ", "  ", "          ", "\n", "\t", "\x00", "\xff", "?", "!", "-", "/", "a", `""`, `"show"`,
		" show", "  show", " look a", " keys", " 0 none", "   3 none", "\tshow", "\nshow", "\x00show",
		"shows", "sho", "s", "showshow", "show/", "show\t", "show\n", "show\r", "show\x00", "show!", "Show", "SHOW", "show,", "how", "xshow", "show\ta",
		"looks", "loo", "l", "looka", "look/", "look\ta", "look\x00a", "Look", "LOOK", "ook", "look\n",
		"keyss", "key", "k", "keysa", "keys/", "keys\ta", "Keys", "KEYS", "eys", "keys\n", "keys\x00",
		"none", "set", "cas", "del", "open", "shut", "take", "free", "well", "held", "at", "row", "gone", "session", "nothing", "list", "get", "quit",
	}
	for _, s := range []impl.State{{}, askable(), filled(), mostState()} {
		for _, word := range words {
			for _, behind := range []string{"", " ", "  ", " a", " a b", " 1", " open 1", ` a "x"`} {
				mustBeTold(t, s, word+behind, "?")
			}
		}
		for _, line := range goodLines() {
			mustBeTold(t, s, line, "?")
		}
	}
}

// Each byte as a line, and behind and ahead of what is a line without it.
func TestEachByteOfALine(t *testing.T) {
	s := askable()
	for c := range 256 {
		sign := string([]byte{byte(c)})
		for _, line := range []string{"", "show", "look", "look a", "keys", "keys a", "1", "1 none", "1 del a", "0", "look ", "keys ", "1 ", "show "} {
			mustTellAsModel(t, s, line+sign)
			mustTellAsModel(t, s, sign+line)
		}
		if c < '0' || c > '3' {
			mustBeTold(t, s, sign, "?")
			mustBeTold(t, s, sign+" none", "?")
		}
		if c != ' ' {
			mustBeTold(t, s, "show"+sign, "?")
			mustBeTold(t, s, sign+"show", "?")
			mustBeTold(t, s, sign+"keys", "?")
			mustBeTold(t, s, "look"+sign+"a", "?")
		}
	}
}

// All lines of up to five pieces are told as the model tells them.
func TestAllShortDeskLines(t *testing.T) {
	t.Parallel()
	pieces := []string{"show", "look", "keys", "0", "3", "4", " ", "a", "none", "set", `"x"`}
	letters := make([]byte, len(pieces))
	for i := range letters {
		letters[i] = byte(i)
	}
	s := askable()
	s.Lasts = s.Lasts[:1]
	told := map[string]int{}
	eachOver(letters, 5, func(b []byte) {
		line := ""
		for _, i := range b {
			line += pieces[i]
		}
		_, got := mustTellAsModel(t, s, line)
		told[got]++
	})
	for _, want := range []string{"?", "well 41", `"x" 5`, "2 a a/b", "3 a a/b b", "nothing 3", "? 3 0", "? 3 3", "? 2 3"} {
		if told[want] == 0 {
			t.Errorf("%q was never told, but %v", want, told)
		}
	}
}

// mustDesk fails unless a text is answered so.
func mustDesk(t *testing.T, text, answers string) {
	t.Helper()
	got, ok := impl.Desk([]byte(text))
	if !ok || string(got) != answers {
		t.Fatalf("Desk of %q: %q, %v, not %q", text, got, ok, answers)
	}
	if want, is := modelDesk(text); !is || want != answers {
		t.Fatalf("the model: Desk of %q: %q, %v, not %q", text, want, is, answers)
	}
}

func mustDeskNothing(t *testing.T, text string) {
	t.Helper()
	if got, ok := impl.Desk([]byte(text)); ok || len(got) > 0 {
		t.Fatalf("Desk of %q: %q, %v", text, got, ok)
	}
	if _, is := modelDesk(text); is {
		t.Fatalf("the model answers %q", text)
	}
}

func TestDeskByHand(t *testing.T) {
	for _, c := range []struct{ text, answers string }{
		{"", ""},
		{"show", "at 0\n"},
		{"show\n", "at 0\n"},
		{"show\nshow", "at 0\nat 0\n"},
		{"look a", "nothing 0\n"},
		{"keys", "0\n"},
		{"0", "? 3 0\n"},
		{"0 none\n0 none\nshow\n", "well 1\nwell 2\nat 2\n"},
		{"0 none\n00 none\n3 none\n4 none\nshow", "well 1\nwell 2\nwell 3\n?\nat 3\n"},
		{"0 set a \"x\"\nlook a\n1 set a \"y\"\nlook a\n2 del a\nlook a\nlook b", "well 1\n\"x\" 1\nwell 2\n\"y\" 2\nwell 3\nnothing 3\nnothing 0\n"},
		{"0 cas a \"x\" 0\n0 cas a \"x\" 0\n0 cas a \"\" 1\nshow", "well 1\nturned 2\nwell 3\nat 3\nrow a \"\" 3 0\n"},
		{"0 set b \"\"\n0 set a/b \"\"\nkeys\n0 set a \"\"\nkeys a\nkeys\nkeys c", "well 1\nwell 2\n2 a/b b\nwell 3\n2 a a/b\n3 a a/b b\n0\n"},
		{
			"3 open 1\n2 open 0\n0 take b \"x\" 1\n0 take a \"y%0a\" 2\n1 take a \"z\" 1\nshow\n0 shut 1\nlook b\n1 free a 2\n1 shut 2\n1 shut 2\nshow\n",
			"well 1\nwell 2\nwell 3\nwell 4\nheld 5\nat 5\nrow a \"y%0a\" 4 2\nrow b \"x\" 3 1\nsession delete 1\nsession 2\n" +
				"well 6\nnothing 6\nwell 7\nwell 8\nnone 9\nat 9\nrow a \"y%0a\" 7 0\ngone b 6\n",
		},
		{"foo\n0 sett\n1\n0 none\nshow", "?\n? 3 0\n? 3 0\nwell 1\nat 1\n"},
	} {
		mustDesk(t, c.text, c.answers)
	}
}

// Lines go up to a byte 10, and to no other; what is behind the last one is a line if it has bytes.
func TestLinesOfTheDesk(t *testing.T) {
	for _, c := range []struct{ text, answers string }{
		{"\n", "?\n"}, {"\n\n", "?\n?\n"}, {"\n\n\n", "?\n?\n?\n"}, {" ", "?\n"}, {" \n", "?\n"}, {"\n ", "?\n?\n"}, {"   \n   ", "?\n?\n"},
		{"show\n\n", "at 0\n?\n"}, {"\nshow", "?\nat 0\n"}, {"\nshow\n", "?\nat 0\n"}, {"show\n\nshow", "at 0\n?\nat 0\n"}, {"show\n\n\nshow\n\n", "at 0\n?\n?\nat 0\n?\n"},
		{"show \nshow  \n", "at 0\nat 0\n"}, {" show\nshow", "?\nat 0\n"}, {"show\n show", "at 0\n?\n"}, {"show\n ", "at 0\n?\n"},
		{"show\r\nshow\r\n", "?\n?\n"}, {"show\rshow", "?\n"}, {"\r", "?\n"}, {"show\x00show", "?\n"}, {"show\x0bshow\x0cshow\xc2\x85show", "?\n"}, {"show\xe2\x80\xa8show", "?\n"},
		{"0 none\n0 none", "well 1\nwell 2\n"}, {"0 none\n0 none\n", "well 1\nwell 2\n"}, {"0\nnone", "? 3 0\n?\n"}, {"0 \nnone\n", "? 3 0\n?\n"},
		{"0 set a\n\"x\"", "? 3 5\n?\n"}, {"look\na", "?\n?\n"}, {"keys\na", "0\n?\n"}, {"0 set a \"x\n\"\nlook a", "? 2 6\n?\nnothing 0\n"},
	} {
		mustDesk(t, c.text, c.answers)
	}
}

func TestHowLongATextMayBe(t *testing.T) {
	mustDesk(t, strings.Repeat("\n", 1999), strings.Repeat("?\n", 1999))
	mustDesk(t, strings.Repeat("\n", 2000), strings.Repeat("?\n", 2000))
	mustDeskNothing(t, strings.Repeat("\n", 2001))
	shows, answers := strings.Repeat("show\n", 400), strings.Repeat("at 0\n", 400)
	mustDesk(t, shows, answers)
	mustDesk(t, shows[:1999], answers)
	mustDesk(t, shows[:1998], answers[:1995]+"?\n")
	mustDeskNothing(t, shows+"\n")
	mustDeskNothing(t, shows+" ")
	mustDeskNothing(t, shows+"show")
	mustDeskNothing(t, "\n"+shows)
	mustDeskNothing(t, strings.Repeat(shows, 1000))
	asks, well := "", ""
	for i := range 285 {
		asks, well = asks+fmt.Sprintf("%d none\n", i%4), well+fmt.Sprintf("well %d\n", i+1)
	}
	mustDesk(t, asks+"show\n", well+"at 285\n")
	mustDesk(t, asks+"0 non", well+"? 3 0\n")
	mustDeskNothing(t, asks+"0 none")
	mustDeskNothing(t, asks+"show\n\n")
	mustDesk(t, strings.Repeat(padded(99, "look", "a")+"\n", 20), strings.Repeat("nothing 0\n", 20))
	mustDeskNothing(t, strings.Repeat(padded(100, "look", "a")+"\n", 20))
}

func TestLinesThatAreTooLongForTheDesk(t *testing.T) {
	for size, ok := range map[int]bool{119: true, 120: true, 121: false, 122: false, 500: false, 1900: false} {
		for _, c := range []struct{ line, told string }{
			{padded(size, "0", "none"), "well"},
			{padded(size, "show", ""), "at"},
			{padded(size, "look", "a"), "nothing"},
			{padded(size, "keys", ""), "0"},
			{strings.Repeat(" ", size), "?"},
			{strings.Repeat("x", size), "?"},
		} {
			for _, place := range []struct{ ahead, behind, told, follows string }{
				{"", "", "", ""}, {"", "\n", "", ""},
				{"", "\nfoo", "", "?\n"}, {"", "\n\nlook a\n", "", "?\nnothing 0\n"},
				{"foo\n", "\nfoo\n", "?\n", "?\n"}, {"\n", "\nkeys", "?\n", "0\n"}, {"look a\nkeys\n", "\n\n", "nothing 0\n0\n", "?\n"},
				{"foo\n", "", "?\n", ""}, {"foo\n", "\n", "?\n", ""}, {"\n\nkeys\n", "", "?\n?\n0\n", ""},
			} {
				text := place.ahead + c.line + place.behind
				if !ok {
					mustDeskNothing(t, text)
					continue
				}
				number := map[string]string{"well": " 1", "at": " 0", "nothing": " 0"}[c.told]
				mustDesk(t, text, place.told+c.told+number+"\n"+place.follows)
			}
		}
	}
	// Fifteen lines that are as long as may be, and no byte too many; the sixteenth is.
	long := strings.Repeat(padded(120, "show", "")+"\n", 15)
	mustDesk(t, long, strings.Repeat("at 0\n", 15))
	mustDesk(t, long+padded(120, "keys", ""), strings.Repeat("at 0\n", 15)+"0\n")
	mustDeskNothing(t, long+padded(121, "keys", ""))
	mustDeskNothing(t, long[:120]+" "+long[120:])
}

// mustDeskByLines holds promise 22: each line is answered as DeskLine answers it over what those ahead left. It answers what is left.
func mustDeskByLines(t *testing.T, text string) impl.State {
	t.Helper()
	var s impl.State
	var facts []impl.Fact
	answers := ""
	for _, line := range linesOf(text) {
		next, told := mustTellAsModel(t, s, line)
		if next.Index > s.Index {
			facts = append(facts, mustBeFact(t, line, next))
		}
		s, answers = next, answers+told+"\n"
	}
	mustDesk(t, text, answers)
	if cut, is := strings.CutSuffix(text, "\n"); is && cut != "" && !strings.HasSuffix(cut, "\n") {
		mustDesk(t, cut, answers)
	}
	state, replies := impl.Follow(facts)
	if !sameState(state, s) || len(replies) != s.Index || !impl.StateOk(s) {
		t.Fatalf("%q left\n%v\nwhere its facts leave\n%v", text, s, state)
	}
	return s
}

// mustBeFact answers what was applied last: the request that the Last of the line's client names.
func mustBeFact(t *testing.T, line string, s impl.State) impl.Fact {
	t.Helper()
	word, rest, _ := strings.Cut(line, " ")
	client := int(word[len(word)-1] - '0')
	o, code, _ := impl.OpRead([]byte(strings.TrimLeft(rest, " ")))
	last, is := impl.LastOf(s, client)
	if code != impl.LnWell || !is || last.Reply.Index != s.Index {
		t.Fatalf("%q left %v of its client", line, last)
	}
	return impl.Fact{Cmd: impl.Cmd{Client: client, Req: last.Req, Op: o}}
}

// All texts of up to four lines out of a dozen.
func TestAllSmallTexts(t *testing.T) {
	t.Parallel()
	lines := []string{"0 open 1", "1 open 0", `0 take a "x" 1`, `1 take a "y" 2`, `2 set a ""`, "0 del a", "3 shut 1", "look a", "keys", "show", "", "0 take"}
	letters := make([]byte, len(lines))
	for i := range letters {
		letters[i] = byte(i)
	}
	eachOver(letters, 4, func(b []byte) {
		text := ""
		for _, i := range b {
			text += lines[i] + "\n"
		}
		mustDeskByLines(t, text)
	})
}

// Texts that are drawn, as long as they may be; each beginning that ends with a line is answered by the beginning of the answers.
func TestDrawnTexts(t *testing.T) {
	t.Parallel()
	told := map[string]int{}
	for seed := range int64(150) {
		r := rand.New(rand.NewSource(1600 + seed))
		var s impl.State
		text, starts := "", []int{0}
		for {
			line := drawnLine(r, s)
			if seed%5 == 0 && r.Intn(3) > 0 {
				line = fmt.Sprintf("%d set %s \"\"", r.Intn(4), numbered(r.Intn(26)))
			}
			if len(text)+len(line) >= impl.MaxDesk {
				break
			}
			next, got := mustTellAsModel(t, s, line)
			s, text = next, text+line+"\n"
			starts = append(starts, len(text))
			word, _, _ := strings.Cut(got, " ")
			told[word]++
		}
		if left := mustDeskByLines(t, text); !sameState(left, s) {
			t.Fatalf("%q left %v, not %v", text, left, s)
		}
		all, _ := impl.Desk([]byte(text))
		for i := 0; i < len(starts); i += 9 {
			at := starts[i]
			part, ok := impl.Desk([]byte(text[:at]))
			if !ok || !bytes.HasPrefix(all, part) {
				t.Fatalf("Desk of %q: %q, %v, which %q does not begin with", text[:at], part, ok, all)
			}
		}
	}
	for word, least := range map[string]int{"well": 3000, "none": 300, "held": 30, "turned": 50, "full": 10, "?": 500, "at": 200, "nothing": 100, "0": 50, "1": 50, "2": 20} {
		if told[word] < least {
			t.Errorf("%q was told %d times, of %v", word, told[word], told)
		}
	}
}

// What a cluster's servers have of operations that came as lines is told at the desk.
func TestTheDeskAndServers(t *testing.T) {
	s := mustCallByLines(t, one(), op(impl.OpOpen, "", "", 1), op(impl.OpTake, "a", "x", 2), op(impl.OpSet, "a/b", "", 0))
	r := mustRun(t, s, true)
	for _, has := range r.States {
		mustBeTold(t, has, "show", "at 4\nrow a \"x\" 3 2\nrow a/b \"\" 4 0\nsession delete 2")
		next := mustApply(t, has, "0 shut 2", "well 5", 0, 4, op(impl.OpShut, "", "", 2))
		mustBeTold(t, next, "look a", "nothing 5")
		mustBeTold(t, next, "keys a", "1 a/b")
	}
}

func TestTheDeskInMemory(t *testing.T) {
	for _, plain := range append(badStates()[:6], impl.State{}, askable(), filled(), mostState()) {
		s := withRoom(plain)
		for _, line := range append(deskLines(), strings.Repeat("x", 121)) {
			b := withRoom([]byte(line))
			mustKeep(t, fmt.Sprintf("DeskLine of %q", line), []any{s, b}, func() []any { return two(impl.DeskLine(s, b)) })
			got, told := impl.DeskLine(s, b)
			want, wanted := impl.DeskLine(plain, []byte(line))
			if !sameState(got, want) || !bytes.Equal(told, wanted) {
				t.Fatalf("DeskLine of %q is told otherwise with room behind its lists: %q", line, told)
			}
		}
	}
	for _, text := range []string{
		"", "\n", "show", "show\n", "foo\nkeys", "0 open 1\n0 take a \"x\" 1\nshow\nlook a\nkeys a\n1 shut 1\nshow\n0 sett",
		strings.Repeat("\n", 2000), strings.Repeat("\n", 2001), strings.Repeat("x", 121), strings.Join(goodLines(), "\n"),
	} {
		b := withRoom([]byte(text))
		mustKeep(t, fmt.Sprintf("Desk of %q", text), []any{b}, func() []any { return two(impl.Desk(b)) })
	}
}

// What lies behind the length of a line, or of a text, is not read: the bytes there would turn the answer.
func TestTheDeskReadsNothingBehindTheLength(t *testing.T) {
	s := askable()
	for _, line := range []string{"show a", "look a/b", "keys a/", `1 set a "x"  1`, "00000 none"} {
		whole := []byte(line + "\nshow\n")
		for size := range len(line) + 1 {
			next, told := impl.DeskLine(s, whole[:size])
			if want, wanted := modelDeskLine(s, line[:size]); string(told) != wanted || !sameState(next, want) {
				t.Fatalf("DeskLine of the first %d bytes of %q: %q, not %q", size, whole, told, wanted)
			}
		}
		for size := range whole {
			got, ok := impl.Desk(whole[:size])
			if want, is := modelDesk(string(whole[:size])); string(got) != want || ok != is {
				t.Fatalf("Desk of the first %d bytes of %q: %q, not %q", size, whole, got, want)
			}
		}
	}
	cut := askable()
	cut.Rows, cut.Lasts = cut.Rows[:1], cut.Lasts[:0]
	mustBeTold(t, cut, "keys", "1 a")
	mustApply(t, cut, "3 none", "well 41", 3, 1, impl.Op{})
	if whole := cut.Lasts[:3]; !slices.Equal(whole, askable().Lasts) {
		t.Errorf("behind the Lasts is %v", whole)
	}
}

// Arguments and answers may be written over: nothing else shows it.
func TestNothingOfTheDeskIsKept(t *testing.T) {
	s, line := askable(), []byte(`1 set a "y"`)
	first, told := impl.DeskLine(s, line)
	still, shown := impl.DeskLine(first, []byte("show"))
	mustBe(t, "told", string(told), "well 41")
	copy(line, `0 set b "z"`)
	s.Rows[0].Key[0], s.Rows[1].Val, s.Lasts[0].Req = 'z', []byte("q"), 9
	still.Rows[0].Val[0], still.Sess[0].Id, still.Lasts[1].Req, shown[0] = 'w', 1, 99, 'x'
	told[0] = 'x'
	mustBe(t, "rows", rowTexts(first), "a=y@41:0 a/b=@9:7 b=50%\n@40:20")
	mustBeTold(t, first, "look a", `"y" 41`)
	mustBeTold(t, first, "foo", "?")
	_, unclear := impl.DeskLine(first, []byte("foo"))
	unclear[0] = 'x'
	mustBeTold(t, first, "foo", "?")
	mustBeTold(t, first, "0", "? 3 0")
	mustApply(t, first, "1 none", "well 42", 1, 2, impl.Op{})

	answers, _ := impl.Desk([]byte("0 none\nshow"))
	again, _ := impl.Desk([]byte("0 none\nshow"))
	answers[0] = 'x'
	mustBe(t, "answers", string(again), "well 1\nat 1\n")
	mustDesk(t, "show", "at 0\n")
}
