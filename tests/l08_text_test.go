package tests

import (
	"bytes"
	"fmt"
	"math"
	"math/rand"
	"slices"
	"strings"
	"testing"

	"loop.example/g00365/impl"
)

func TestCodesAndLimitsOfLines(t *testing.T) {
	codes := []int{impl.LnWell, impl.LnLong, impl.LnByte, impl.LnForm}
	if !slices.Equal(codes, []int{0, 1, 2, 3}) || impl.MaxLine != 100 {
		t.Fatalf("codes %v, MaxLine %d", codes, impl.MaxLine)
	}
}

func TestOpName(t *testing.T) {
	for kind, name := range map[int]string{
		impl.OpNone: "none", impl.OpSet: "set", impl.OpCas: "cas", impl.OpDel: "del",
		impl.OpOpen: "open", impl.OpShut: "shut", impl.OpTake: "take", impl.OpFree: "free",
		impl.OpNone - 1: "", impl.OpFree + 1: "", 100: "", math.MinInt: "", math.MaxInt: "",
	} {
		if got := string(impl.OpName(kind)); got != name || name != modelName(kind) {
			t.Errorf("OpName(%d) = %q, not %q", kind, got, name)
		}
	}
}

// mustBeLine holds an operation against its text, there and back.
func mustBeLine(t *testing.T, o impl.Op, text string) {
	t.Helper()
	if got, ok := impl.OpText(o); !ok || string(got) != text {
		t.Fatalf("OpText(%v) = %q, %v, not %q", o, got, ok, text)
	}
	if got, code, place := impl.OpRead([]byte(text)); code != impl.LnWell || place != 0 || !same(got, o) {
		t.Fatalf("OpRead(%q) = %v, %d, %d", text, got, code, place)
	}
	if got, ok := modelOpText(o); !ok || got != text {
		t.Fatalf("the model tells %q of %v, not %q", got, o, text)
	}
}

func TestLinesOfOperations(t *testing.T) {
	for _, line := range []struct {
		o    impl.Op
		text string
	}{
		{op(impl.OpNone, "", "", 0), `none`},
		{op(impl.OpSet, "a", "x", 0), `set a "x"`},
		{op(impl.OpSet, "a", "", 0), `set a ""`},
		{op(impl.OpSet, "/", " ", 0), `set / " "`},
		{op(impl.OpSet, "set", "set", 0), `set set "set"`},
		{op(impl.OpSet, "a", "x\n\"", 0), `set a "x%0a%22"`},
		{op(impl.OpSet, "a", "%41", 0), `set a "%2541"`},
		{op(impl.OpSet, "a", "%25", 0), `set a "%2525"`},
		{op(impl.OpSet, "a", "\"\"", 0), `set a "%22%22"`},
		{op(impl.OpSet, "a", "a  b", 0), `set a "a  b"`},
		{op(impl.OpSet, "a", "  ", 0), `set a "  "`},
		{op(impl.OpSet, "a", "\x00\x7f\x80\xff", 0), `set a "%00%7f%80%ff"`},
		{op(impl.OpSet, "a", "\xc3\xa4", 0), `set a "%c3%a4"`},
		{op(impl.OpSet, "a", "Az~!'\\", 0), `set a "Az~!'\"`},
		{op(impl.OpSet, longKey, longKey, 0), `set ` + longKey + ` "` + longKey + `"`},
		{op(impl.OpSet, longKey, strings.Repeat("\xab", 20), 0), `set ` + longKey + ` "` + strings.Repeat("%ab", 20) + `"`},
		{op(impl.OpCas, "a/b", "", 0), `cas a/b "" 0`},
		{op(impl.OpCas, "a", "v", 1), `cas a "v" 1`},
		{op(impl.OpCas, "a", "7", impl.MaxIndex), `cas a "7" 1000000`},
		{op(impl.OpDel, "a", "", 0), `del a`},
		{op(impl.OpDel, "del", "", 0), `del del`},
		{op(impl.OpDel, longKey, "", 0), `del ` + longKey},
		{op(impl.OpOpen, "", "", 0), `open 0`},
		{op(impl.OpOpen, "", "", 1), `open 1`},
		{op(impl.OpShut, "", "", 1), `shut 1`},
		{op(impl.OpShut, "", "", 10), `shut 10`},
		{op(impl.OpShut, "", "", 999999), `shut 999999`},
		{op(impl.OpShut, "", "", impl.MaxIndex), `shut 1000000`},
		{op(impl.OpTake, "a", "v", 7), `take a "v" 7`},
		{op(impl.OpTake, "none", "", impl.MaxIndex), `take none "" 1000000`},
		{op(impl.OpTake, longKey, strings.Repeat("\x00", 20), impl.MaxIndex), `take ` + longKey + ` "` + strings.Repeat("%00", 20) + `" 1000000`},
		{op(impl.OpFree, "a", "", 1), `free a 1`},
		{op(impl.OpFree, "/a/", "", impl.MaxIndex), `free /a/ 1000000`},
	} {
		mustBeLine(t, line.o, line.text)
	}
}

func TestEachByteOfAValue(t *testing.T) {
	for c := range 256 {
		sign := string([]byte{byte(c)})
		written := sign
		if c < 32 || c > 126 || c == 34 || c == 37 {
			written = fmt.Sprintf("%%%02x", c)
		}
		mustBeLine(t, op(impl.OpSet, "a", sign, 0), `set a "`+written+`"`)
		mustBeLine(t, op(impl.OpCas, "b", "x"+sign+"y"+sign, 5), `cas b "x`+written+`y`+written+`" 5`)
		mustBeLine(t, op(impl.OpTake, "c", strings.Repeat(sign, 20), 6), `take c "`+strings.Repeat(written, 20)+`" 6`)
		for _, other := range []string{fmt.Sprintf("%%%02x", c), fmt.Sprintf("%%%02X", c), sign} {
			if other != written && other != `"` {
				mustRead(t, `set a "`+other+`"`, impl.LnByte, 6)
				mustRead(t, `set a "b`+other+`b"`, impl.LnByte, 6)
			}
		}
	}
}

// sweepOps goes through operations of each kind, one below and one above, with what they may and may not have.
func sweepOps(f func(o impl.Op)) {
	for kind := impl.OpNone - 1; kind <= impl.OpFree+1; kind++ {
		for _, key := range []string{"", "a", "/", "none", longKey, tooLongKey, "A", "a1", "a b", "\xff"} {
			for _, val := range []string{"", "v", "\x00\"%\xff", longKey, strings.Repeat("\n", 20), tooLongKey} {
				for _, n := range []int{math.MinInt, -1, 0, 1, 2, 10, impl.MaxIndex - 1, impl.MaxIndex, impl.MaxIndex + 1, math.MaxInt} {
					f(op(kind, key, val, n))
				}
			}
		}
	}
}

// Promise 1: operations that may be come back from their lines; of others there is none.
func TestOperationsComeBack(t *testing.T) {
	told, refused := 0, 0
	sweepOps(func(o impl.Op) {
		if text, is := modelOpText(o); is {
			mustBeLine(t, o, text)
			told++
			return
		}
		if text, ok := impl.OpText(o); ok || len(text) > 0 {
			t.Fatalf("OpText(%v) = %q, %v", o, text, ok)
		}
		refused++
	})
	if told < 250 || refused < 3000 {
		t.Errorf("%d were told, %d refused", told, refused)
	}
	r := rand.New(rand.NewSource(8))
	for range 20000 {
		o := drawOp(r)
		if len(o.Key) > 0 {
			o.Key = bytes.Repeat(o.Key, 1+r.Intn(20))
		}
		if len(o.Val) > 0 {
			o.Val = make([]byte, r.Intn(21))
			r.Read(o.Val)
		}
		if o.N > 1 {
			o.N = 1 + r.Intn(impl.MaxIndex)
		}
		text, _ := modelOpText(o)
		mustBeLine(t, o, text)
	}
}

// mustRead holds the code and the place of a line against what is told here and what the model tells.
func mustRead(t *testing.T, line string, code, place int) {
	t.Helper()
	if _, want, at := mustReadAsModel(t, line); want != code || at != place {
		t.Fatalf("OpRead(%q): %d at %d, not %d at %d", line, want, at, code, place)
	}
}

func mustReadAsModel(t *testing.T, line string) (impl.Op, int, int) {
	t.Helper()
	o, code, place := impl.OpRead([]byte(line))
	want, wantCode, wantPlace := modelOpRead(line)
	if code != wantCode || place != wantPlace || !same(o, want) {
		t.Fatalf("OpRead(%q) = %v, %d at %d, not %v, %d at %d", line, o, code, place, want, wantCode, wantPlace)
	}
	if code != impl.LnWell {
		return o, code, place
	}
	var pieces []string
	tokens, _ := modelTokens(line)
	for _, token := range tokens {
		pieces = append(pieces, token.text)
	}
	if text, ok := impl.OpText(o); !ok || string(text) != strings.Join(pieces, " ") {
		t.Fatalf("OpRead(%q) = %v, whose text is %q", line, o, text)
	}
	return o, code, place
}

type lineEdge struct {
	line        string
	code, place int
}

func TestNamesAndWhatTheyWant(t *testing.T) {
	for _, edge := range []lineEdge{
		{``, impl.LnForm, 0},
		{`sett a`, impl.LnForm, 0}, {`se a "x"`, impl.LnForm, 0}, {`nothing`, impl.LnForm, 0}, {`/`, impl.LnForm, 0},
		{`a`, impl.LnForm, 0}, {`  a`, impl.LnForm, 2}, {`set/ a "x"`, impl.LnForm, 0}, {`setset a "x"`, impl.LnForm, 0},
		{`0`, impl.LnForm, 0}, {` 1 set a "x"`, impl.LnForm, 1}, {`""`, impl.LnForm, 0}, {`"none"`, impl.LnForm, 0}, {`"set" a "x"`, impl.LnForm, 0},
		{`well 4`, impl.LnForm, 0}, {`del`, impl.LnForm, 3}, {`nones`, impl.LnForm, 0},

		{`none`, impl.LnWell, 0}, {`none a`, impl.LnForm, 5}, {`none 0`, impl.LnForm, 5}, {`none ""`, impl.LnForm, 5}, {`none none`, impl.LnForm, 5},

		{`set`, impl.LnForm, 3}, {`set a`, impl.LnForm, 5}, {`set a `, impl.LnForm, 6}, {`set a   `, impl.LnForm, 8},
		{`set "x"`, impl.LnForm, 4}, {`set 1 "x"`, impl.LnForm, 4}, {`set 1`, impl.LnForm, 4}, {`set a b`, impl.LnForm, 6}, {`set a 1`, impl.LnForm, 6},
		{`set "x" a`, impl.LnForm, 4}, {`set a "x" 1`, impl.LnForm, 10}, {`set a "x" b`, impl.LnForm, 10}, {`set a "x" "y"`, impl.LnForm, 10},
		{`set a "x" 1 2`, impl.LnForm, 10}, {`set a "x" 0`, impl.LnForm, 10}, {`set a b "x"`, impl.LnForm, 6}, {`set "" ""`, impl.LnForm, 4},

		{`cas`, impl.LnForm, 3}, {`cas a`, impl.LnForm, 5}, {`cas a "x"`, impl.LnForm, 9}, {`cas a "x"  `, impl.LnForm, 11},
		{`cas a 1`, impl.LnForm, 6}, {`cas a "x" b`, impl.LnForm, 10}, {`cas a "x" "y"`, impl.LnForm, 10}, {`cas a "x" 1 1`, impl.LnForm, 12},
		{`cas 1 "x" a`, impl.LnForm, 4}, {`cas a 1 "x"`, impl.LnForm, 6}, {`cas a "x" cas`, impl.LnForm, 10},

		{`del `, impl.LnForm, 4}, {`del 1`, impl.LnForm, 4}, {`del "a"`, impl.LnForm, 4}, {`del a b`, impl.LnForm, 6}, {`del a 1`, impl.LnForm, 6},
		{`del a "x"`, impl.LnForm, 6}, {`  del  a  b`, impl.LnForm, 10},

		{`open`, impl.LnForm, 4}, {`open a`, impl.LnForm, 5}, {`open ""`, impl.LnForm, 5}, {`open "1"`, impl.LnForm, 5}, {`open 1 1`, impl.LnForm, 7},
		{`open delete`, impl.LnForm, 5}, {`open a 1`, impl.LnForm, 5},
		{`shut`, impl.LnForm, 4}, {`shut a`, impl.LnForm, 5}, {`shut "1"`, impl.LnForm, 5}, {`shut 1 a`, impl.LnForm, 7}, {`shut 1 1`, impl.LnForm, 7},

		{`take`, impl.LnForm, 4}, {`take a`, impl.LnForm, 6}, {`take a "x"`, impl.LnForm, 10}, {`take a 7`, impl.LnForm, 7},
		{`take a "v" 7 8`, impl.LnForm, 13}, {`take 7 "v" 7`, impl.LnForm, 5}, {`take a b 7`, impl.LnForm, 7}, {`take a "v" "7"`, impl.LnForm, 11},

		{`free`, impl.LnForm, 4}, {`free a`, impl.LnForm, 6}, {`free 1`, impl.LnForm, 5}, {`free 1 a`, impl.LnForm, 5}, {`free a a`, impl.LnForm, 7},
		{`free a "x" 1`, impl.LnForm, 7}, {`free a 1 1`, impl.LnForm, 9}, {`free "a" 1`, impl.LnForm, 5},
	} {
		mustRead(t, edge.line, edge.code, edge.place)
	}
}

// Tokens that all stand where they may, but make no operation that may be.
func TestLinesThatAreNotOpOk(t *testing.T) {
	for _, edge := range []lineEdge{
		{`open 0`, impl.LnWell, 0}, {`open 1`, impl.LnWell, 0}, {`open 2`, impl.LnForm, 5}, {`  open   2  `, impl.LnForm, 9},
		{`open 10`, impl.LnForm, 5}, {`open 1000000`, impl.LnForm, 5},
		{`shut 0`, impl.LnForm, 5}, {`shut 1`, impl.LnWell, 0}, {`shut  0 `, impl.LnForm, 6},
		{`take a "v" 0`, impl.LnForm, 11}, {`take a "v" 1`, impl.LnWell, 0}, {`take a/b  "long %0a"  0 `, impl.LnForm, 22},
		{`free a 0`, impl.LnForm, 7}, {`free a 1`, impl.LnWell, 0}, {`free a    0`, impl.LnForm, 10},
		{`cas a "v" 0`, impl.LnWell, 0},
	} {
		mustRead(t, edge.line, edge.code, edge.place)
	}
}

func TestNumbersOfLines(t *testing.T) {
	for _, edge := range []lineEdge{
		{`shut 9`, impl.LnWell, 0}, {`shut 10`, impl.LnWell, 0}, {`shut 100000`, impl.LnWell, 0}, {`shut 999999`, impl.LnWell, 0},
		{`shut 1000000`, impl.LnWell, 0}, {`shut 1000001`, impl.LnByte, 5}, {`shut 2000000`, impl.LnByte, 5}, {`shut 9999999`, impl.LnByte, 5},
		{`shut 10000000`, impl.LnByte, 5}, {`shut 01`, impl.LnByte, 5}, {`open 00`, impl.LnByte, 5}, {`open 01`, impl.LnByte, 5},
		{`shut 001000000`, impl.LnByte, 5}, {`cas a "x" 00`, impl.LnByte, 10}, {`cas a "x" 0`, impl.LnWell, 0}, {`shut 0000000000`, impl.LnByte, 5},
		{`shut 2147483648`, impl.LnByte, 5}, {`shut 4294967297`, impl.LnByte, 5}, {`shut 9223372036854775807`, impl.LnByte, 5},
		{`shut 9223372036854775808`, impl.LnByte, 5}, {`shut 18446744073709551617`, impl.LnByte, 5}, {`shut 36893488147419103233`, impl.LnByte, 5},
		{`shut ` + strings.Repeat("9", 95), impl.LnByte, 5}, {`shut ` + strings.Repeat("0", 95), impl.LnByte, 5},
		{`shut ` + strings.Repeat("0", 94) + `1`, impl.LnByte, 5},
		{`shut -1`, impl.LnByte, 5}, {`shut +1`, impl.LnByte, 5}, {`shut 1.`, impl.LnByte, 6}, {`shut 1_0`, impl.LnByte, 6}, {`shut 0x1`, impl.LnByte, 5},
		{`shut 1a`, impl.LnByte, 5}, {`shut a1`, impl.LnByte, 5}, {`shut 1/`, impl.LnByte, 5}, {`shut /1`, impl.LnByte, 5}, {`del a1b`, impl.LnByte, 4},
		{`1000000`, impl.LnForm, 0}, {`1000001`, impl.LnByte, 0}, {`00`, impl.LnByte, 0},
	} {
		mustRead(t, edge.line, edge.code, edge.place)
	}
}

func TestKeysOfLines(t *testing.T) {
	for _, edge := range []lineEdge{
		{`del ` + longKey, impl.LnWell, 0}, {`del ` + tooLongKey, impl.LnByte, 4}, {`del ` + strings.Repeat("/", 96), impl.LnByte, 4},
		{longKey, impl.LnForm, 0}, {tooLongKey, impl.LnByte, 0}, {` ` + tooLongKey + ` !`, impl.LnByte, 1},
		{`del A`, impl.LnByte, 4}, {`del aB`, impl.LnByte, 5}, {`Del a`, impl.LnByte, 0}, {`dEl a`, impl.LnByte, 1}, {`del a.b`, impl.LnByte, 5},
		{`del //`, impl.LnWell, 0}, {`del a/`, impl.LnWell, 0},
	} {
		mustRead(t, edge.line, edge.code, edge.place)
	}
}

func TestValuesOfLines(t *testing.T) {
	for _, edge := range []lineEdge{
		{`set a "`, impl.LnByte, 6}, {`set a "x`, impl.LnByte, 6}, {`set a "x `, impl.LnByte, 6}, {`set a x"`, impl.LnByte, 7}, {`set a """`, impl.LnByte, 8},
		{`set a "%"`, impl.LnByte, 6}, {`set a "%0"`, impl.LnByte, 6}, {`set a "%0`, impl.LnByte, 6}, {`set a "%00`, impl.LnByte, 6}, {`set a "%`, impl.LnByte, 6},
		{`set a "%a"`, impl.LnByte, 6}, {`set a "%%"`, impl.LnByte, 6}, {`set a "%%25"`, impl.LnByte, 6}, {`set a "%25%"`, impl.LnByte, 6},
		{`set a "%41"`, impl.LnByte, 6}, {`set a "%20"`, impl.LnByte, 6}, {`set a "%7e"`, impl.LnByte, 6}, {`set a "%21"`, impl.LnByte, 6}, {`set a "%61"`, impl.LnByte, 6},
		{`set a "%0A"`, impl.LnByte, 6}, {`set a "%FF"`, impl.LnByte, 6}, {`set a "%fF"`, impl.LnByte, 6}, {`set a "%Ff"`, impl.LnByte, 6}, {`set a "%7F"`, impl.LnByte, 6},
		{`set a "%0g"`, impl.LnByte, 6}, {`set a "%g0"`, impl.LnByte, 6}, {`set a "%0 "`, impl.LnByte, 6}, {`set a "% 0"`, impl.LnByte, 6}, {`set a "%0x"`, impl.LnByte, 6},
		{`set a "%+1"`, impl.LnByte, 6}, {`set a "%-1"`, impl.LnByte, 6}, {`set a "%1_"`, impl.LnByte, 6}, {`set a "%_1"`, impl.LnByte, 6}, {`set a "%0""`, impl.LnByte, 6},
		{`set a "%1f"`, impl.LnWell, 0}, {`set a "%7f"`, impl.LnWell, 0}, {`set a "%80"`, impl.LnWell, 0}, {`set a "%22"`, impl.LnWell, 0}, {`set a "%25"`, impl.LnWell, 0},
		{"set a \"\n\"", impl.LnByte, 6}, {"set a \"\x00\"", impl.LnByte, 6}, {"set a \"\x7f\"", impl.LnByte, 6}, {"set a \"\xc3\xa4\"", impl.LnByte, 6}, {"set a \"\xff\"", impl.LnByte, 6},
		{`set a "` + longKey + `"`, impl.LnWell, 0}, {`set a "` + tooLongKey + `"`, impl.LnByte, 6},
		{`set a "` + strings.Repeat(`%00`, 20) + `"`, impl.LnWell, 0}, {`set a "` + strings.Repeat(`%00`, 21) + `"`, impl.LnByte, 6},
		{`set a "` + strings.Repeat(` `, 20) + `"`, impl.LnWell, 0}, {`set a "` + strings.Repeat(` `, 21) + `"`, impl.LnByte, 6},
		{`'x'`, impl.LnByte, 0}, {`"x`, impl.LnByte, 0}, {`  "%41"`, impl.LnByte, 2},
	} {
		mustRead(t, edge.line, edge.code, edge.place)
	}
}

// The first that is none counts, and ahead of all that is wrong with the form.
func TestFirstOfWhatIsWrong(t *testing.T) {
	for _, edge := range []lineEdge{
		{`! ?`, impl.LnByte, 0}, {`set ! ?`, impl.LnByte, 4}, {`set a "%41" 01 !`, impl.LnByte, 6}, {`set 01 "%41"`, impl.LnByte, 4},
		{`sett a !`, impl.LnByte, 7}, {`set 1 !`, impl.LnByte, 6}, {`none a b c d 01`, impl.LnByte, 13}, {`open 2 "`, impl.LnByte, 7}, {`open 2 3`, impl.LnForm, 7},
		{`x 1 "x"`, impl.LnForm, 0}, {`set 1 2 3`, impl.LnForm, 4}, {`set "x" 1`, impl.LnForm, 4}, {`shut 0 a`, impl.LnForm, 7}, {`free 0 0`, impl.LnForm, 5},
		{`take a b 0`, impl.LnForm, 7}, {`take 0 0`, impl.LnForm, 5}, {`take "a" !`, impl.LnByte, 9},
		{strings.Repeat("!", 100), impl.LnByte, 0}, {strings.Repeat("!", 101), impl.LnLong, 0}, {strings.Repeat("a", 101), impl.LnLong, 0},
	} {
		mustRead(t, edge.line, edge.code, edge.place)
	}
}

func TestEachByteThatCanBeginNoToken(t *testing.T) {
	for c := range 256 {
		sign := string([]byte{byte(c)})
		if strings.Contains("abcdefghijklmnopqrstuvwxyz/0123456789 \"", sign) {
			continue
		}
		for _, ahead := range []string{``, ` `, `none `, `del `, `del a `, `del a`, `open 1`, `open 1 `, `set a "x"`, `set a "x" `, `sett `, `take `} {
			mustRead(t, ahead+sign, impl.LnByte, len(ahead))
			mustRead(t, ahead+sign+`a`, impl.LnByte, len(ahead))
			mustRead(t, ahead+sign+` a "x"`, impl.LnByte, len(ahead))
		}
	}
}

func TestEachByteAlone(t *testing.T) {
	for c := range 256 {
		sign := string([]byte{byte(c)})
		code, place := impl.LnByte, 0
		switch {
		case c == ' ':
			code, place = impl.LnForm, 1
		case c >= 'a' && c <= 'z', c >= '0' && c <= '9', c == '/':
			code = impl.LnForm
		}
		mustRead(t, sign, code, place)
	}
}

func TestBlanksOfLines(t *testing.T) {
	for _, edge := range []lineEdge{
		{` `, impl.LnForm, 1}, {`   `, impl.LnForm, 3}, {strings.Repeat(` `, 100), impl.LnForm, 100}, {strings.Repeat(` `, 101), impl.LnLong, 0},
		{`none `, impl.LnWell, 0}, {` none`, impl.LnWell, 0}, {`   none   `, impl.LnWell, 0}, {`set  a "x"`, impl.LnWell, 0}, {`set a    "x"`, impl.LnWell, 0},
		{`  set   a  "x"  `, impl.LnWell, 0}, {`  set   a  "%41"  `, impl.LnByte, 11}, {`  set   a   `, impl.LnForm, 12}, {`  set   1  "x"  `, impl.LnForm, 8},
		{"set\ta \"x\"", impl.LnByte, 3}, {"set a\n\"x\"", impl.LnByte, 5}, {"none\n", impl.LnByte, 4}, {"none\r", impl.LnByte, 4}, {"none\x00", impl.LnByte, 4}, {"none\xa0", impl.LnByte, 4},
	} {
		mustRead(t, edge.line, edge.code, edge.place)
	}
	for _, text := range goodLines() {
		want, _, _ := impl.OpRead([]byte(text))
		for _, spaced := range []string{text + " ", " " + text, "  " + text + "  "} {
			if o, code, place := mustReadAsModel(t, spaced); code != impl.LnWell || place != 0 || !same(o, want) {
				t.Fatalf("OpRead(%q) = %v, %d at %d", spaced, o, code, place)
			}
		}
		full := text + strings.Repeat(" ", 100-len(text))
		mustRead(t, full, impl.LnWell, 0)
		mustRead(t, full+" ", impl.LnLong, 0)
		mustRead(t, strings.Repeat(" ", 100-len(text))+text, impl.LnWell, 0)
		mustRead(t, strings.Repeat(" ", 101-len(text))+text, impl.LnLong, 0)
	}
}

// A quote, or the end of the longest piece, ends a token as well as a blank does.
func TestTokensWithoutABlankBetween(t *testing.T) {
	for _, edge := range []lineEdge{
		{`set a"x"`, impl.LnWell, 0}, {`cas a"x"5`, impl.LnWell, 0}, {`take a "v"7`, impl.LnWell, 0}, {`set"x"`, impl.LnForm, 3}, {`set a"x""y"`, impl.LnForm, 8},
		{`set a""`, impl.LnWell, 0}, {`del a""`, impl.LnForm, 5}, {`open"1"`, impl.LnForm, 4}, {`none""`, impl.LnForm, 4}, {`""none`, impl.LnForm, 0}, {`seta "x"`, impl.LnForm, 0},
		{`set a"%41"`, impl.LnByte, 5}, {`cas a"x"05`, impl.LnByte, 8},
	} {
		mustRead(t, edge.line, edge.code, edge.place)
	}
}

// goodLines answers lines of each kind, each just as its operation is written.
func goodLines() []string {
	return []string{
		`none`, `set a "x"`, `set a/b ""`, `cas a "x%0a%22" 0`, `cas b " " 1000000`, `del /`, `del ` + longKey, `open 0`, `open 1`, `shut 20`,
		`shut 1000000`, `take a "v %25" 7`, `take set "%ff0" 10`, `free a 1`, `free none 999999`,
		`take ` + longKey + ` "` + strings.Repeat("%00", 20) + `" 1000000`,
	}
}

// Lines with a byte left out, put in or turned, and lines that are cut off, are read as the model reads them.
func TestLinesThatAreNearlyGood(t *testing.T) {
	t.Parallel()
	seen := map[int]int{}
	look := func(line string) {
		_, code, _ := mustReadAsModel(t, line)
		seen[code]++
	}
	for _, text := range goodLines() {
		for at := range len(text) + 1 {
			look(text[:at])
			look(text[at:])
			for c := range 256 {
				sign := string([]byte{byte(c)})
				look(text[:at] + sign + text[at:])
				if at < len(text) {
					look(text[:at] + sign + text[at+1:])
				}
			}
			for size := 1; at+size <= len(text); size++ {
				look(text[:at] + text[at+size:])
			}
		}
	}
	if seen[impl.LnWell] < 5000 || seen[impl.LnByte] < 50000 || seen[impl.LnForm] < 3000 {
		t.Errorf("codes were seen so often: %v", seen)
	}
}

func TestAllShortEndsOfLines(t *testing.T) {
	t.Parallel()
	seen := map[int]int{}
	for _, ahead := range []string{``, `set a "`, `set a `, `cas a "x" `, `open `, `del `, `take a"`, `free b `} {
		eachOver([]byte(`a01"% /!`), 5, func(b []byte) {
			_, code, _ := mustReadAsModel(t, ahead+string(b))
			seen[code]++
		})
	}
	if seen[impl.LnWell] < 3000 || seen[impl.LnByte] < 50000 || seen[impl.LnForm] < 10000 {
		t.Errorf("codes were seen so often: %v", seen)
	}
}

// All lines of up to five tokens, which are names, keys, values and numbers, are read as the model reads them.
func TestAllRowsOfTokens(t *testing.T) {
	t.Parallel()
	words := []string{"none", "set", "cas", "del", "open", "shut", "take", "free", "a", `"x"`, "0", "1", "2"}
	letters := make([]byte, len(words))
	for i := range letters {
		letters[i] = byte(i)
	}
	seen := map[int]int{}
	eachOver(letters, 5, func(b []byte) {
		var row []string
		for _, i := range b {
			row = append(row, words[i])
		}
		_, code, _ := mustReadAsModel(t, strings.Join(row, " "))
		seen[code]++
	})
	if seen[impl.LnWell] < 50 || seen[impl.LnByte] > 0 || seen[impl.LnForm] < 100000 {
		t.Errorf("codes were seen so often: %v", seen)
	}
}

func TestReplyText(t *testing.T) {
	for _, told := range []struct {
		reply impl.Reply
		text  string
	}{
		{impl.Reply{Code: impl.RpWell}, "well 0"}, {impl.Reply{Code: impl.RpNone, Index: 1}, "none 1"}, {impl.Reply{Code: impl.RpHeld, Index: 4}, "held 4"},
		{impl.Reply{Code: impl.RpTurned, Index: 10}, "turned 10"}, {impl.Reply{Code: impl.RpFull, Index: 999999}, "full 999999"},
		{impl.Reply{Code: impl.RpOld, Index: impl.MaxIndex}, "old 1000000"}, {impl.Reply{Code: impl.RpOld, Index: impl.MaxIndex + 1}, ""},
		{impl.Reply{Code: impl.RpWell - 1, Index: 1}, ""}, {impl.Reply{Code: impl.RpOld + 1, Index: 1}, ""}, {impl.Reply{Index: -1}, ""},
	} {
		if got := string(impl.ReplyText(told.reply)); got != told.text {
			t.Errorf("ReplyText(%v) = %q, not %q", told.reply, got, told.text)
		}
	}
	for _, code := range []int{math.MinInt, -1, 0, 1, 2, 3, 4, 5, 6, 100, math.MaxInt} {
		for _, index := range []int{math.MinInt, -1, 0, 1, 9, 10, 99, 100, impl.MaxIndex - 1, impl.MaxIndex, impl.MaxIndex + 1, math.MaxInt} {
			r := impl.Reply{Code: code, Index: index}
			if got, want := string(impl.ReplyText(r)), modelReplyText(r); got != want {
				t.Errorf("ReplyText(%v) = %q, not %q", r, got, want)
			}
		}
	}
}

func TestStateText(t *testing.T) {
	row := func(key, val string, turned, holder int) impl.Row {
		return impl.Row{Key: []byte(key), Val: []byte(val), Turned: turned, Holder: holder}
	}
	tomb := func(key string, index int) impl.Tomb { return impl.Tomb{Key: []byte(key), Index: index} }
	last := impl.Last{Client: 1, Req: 5, Reply: impl.Reply{Code: impl.RpHeld, Index: 3}}
	for _, told := range []struct {
		state impl.State
		text  string
	}{
		{impl.State{}, "at 0\n"},
		{impl.State{Index: impl.MaxIndex}, "at 1000000\n"},
		{impl.State{Index: 7, Lost: 7, Lasts: []impl.Last{last}}, "at 7\n"},
		{impl.State{Index: 7, Rows: []impl.Row{row("a", "", 7, 0)}}, "at 7\nrow a \"\" 7 0\n"},
		{impl.State{Index: 7, Tombs: []impl.Tomb{tomb("z", 3), tomb("a", 3)}}, "at 7\ngone z 3\ngone a 3\n"},
		{impl.State{Index: 7, Sess: []impl.Session{{Id: 2, Delete: true}, {Id: 7}}}, "at 7\nsession delete 2\nsession 7\n"},
		{
			impl.State{
				Index: 20, Lost: 4, Lasts: []impl.Last{last},
				Rows:  []impl.Row{row("a", "x \n\"%\xff~", 3, 0), row("a/b", "row", 20, 9), row("gone", "", 1, 11)},
				Tombs: []impl.Tomb{tomb("c", 4), tomb("b", 20)},
				Sess:  []impl.Session{{Id: 1, Delete: true}, {Id: 9}, {Id: 11, Delete: true}},
			},
			"at 20\nrow a \"x %0a%22%25%ff~\" 3 0\nrow a/b \"row\" 20 9\nrow gone \"\" 1 11\ngone c 4\ngone b 20\nsession delete 1\nsession 9\nsession delete 11\n",
		},
	} {
		if got := string(impl.StateText(told.state)); got != told.text {
			t.Errorf("StateText of %v is\n%s\nnot\n%s", told.state, got, told.text)
		}
	}
	for _, s := range badStates() {
		if got := impl.StateText(s); len(got) > 0 {
			t.Errorf("StateText of %v, which is not StateOk, is\n%s", s, got)
		}
	}
	if got := string(impl.StateText(filled())); got != modelStateText(filled()) || strings.Count(got, "\n") != 39 {
		t.Errorf("StateText of a full state is\n%s", got)
	}
}

func TestTextsOfStatesOnTheWay(t *testing.T) {
	for seed := range int64(20) {
		w := newWalk(800 + seed)
		for range 200 {
			w.s, _ = impl.Apply(w.s, w.command())
			if got, want := string(impl.StateText(w.s)), modelStateText(w.s); got != want {
				t.Fatalf("StateText of %v is\n%s\nnot\n%s", w.s, got, want)
			}
		}
	}
}

func TestLinesInMemory(t *testing.T) {
	sweepOps(func(o impl.Op) {
		o = withRoom(o)
		mustKeep(t, fmt.Sprintf("OpText of %v", o), []any{o}, func() []any { return two(impl.OpText(o)) })
	})
	lines := append(goodLines(), ``, `   `, `set a`, `set a "%41"`, `open 2`, `del a b`, strings.Repeat("a", 100), strings.Repeat("a", 101))
	for _, line := range lines {
		b := withRoom([]byte(line))
		mustKeep(t, "OpRead of "+line, []any{b}, func() []any {
			o, code, place := impl.OpRead(b)
			return []any{o, code, place}
		})
	}
	for _, plain := range append(badStates(), impl.State{}, filled()) {
		s := withRoom(plain)
		mustKeep(t, fmt.Sprintf("StateText of %v", s), []any{s}, func() []any { return []any{impl.StateText(s)} })
		if !same(impl.StateText(s), impl.StateText(plain)) {
			t.Errorf("%v: told otherwise with room behind its lists", plain)
		}
	}
}

// What lies behind the length is not read: the bytes there would turn the line.
func TestOpReadReadsNothingBehindTheLength(t *testing.T) {
	for _, text := range goodLines() {
		whole := []byte(text + ` "x" 1`)
		for size := range len(whole) {
			o, code, place := impl.OpRead(whole[:size])
			want, wantCode, wantPlace := impl.OpRead([]byte(string(whole[:size])))
			if code != wantCode || place != wantPlace || !same(o, want) {
				t.Fatalf("OpRead of the first %d bytes of %q = %v, %d at %d", size, whole, o, code, place)
			}
		}
	}
}

// Nothing is kept: an earlier answer stays as it was when others are asked for and written over.
func TestNothingOfLinesIsKept(t *testing.T) {
	line := []byte(`take ab "cd" 7`)
	first, _, _ := impl.OpRead(line)
	second, _, _ := impl.OpRead(line)
	second.Key[0], second.Val[1] = 'x', 'x'
	text, _ := impl.OpText(first)
	again, _ := impl.OpText(first)
	again[0], line[5] = 'x', 'x'
	for kind := range 8 {
		impl.OpName(kind)[0] = 'x'
	}
	for code := range 6 {
		impl.ReplyText(impl.Reply{Code: code})[0] = 'x'
	}
	lines := impl.StateText(filled())
	impl.StateText(filled())[0] = 'x'
	if !same(first, op(impl.OpTake, "ab", "cd", 7)) || string(text) != `take ab "cd" 7` || string(lines) != modelStateText(filled()) {
		t.Errorf("%v, %q, %q", first, text, lines)
	}
	if string(impl.OpName(impl.OpTake)) != "take" || string(impl.ReplyText(impl.Reply{})) != "well 0" {
		t.Errorf("%q, %q", impl.OpName(impl.OpTake), impl.ReplyText(impl.Reply{}))
	}
}
