package tests

import (
	"bytes"
	"math"
	"testing"

	"loop.example/g00365/impl"
)

// Numbers at which one more byte is needed, and those just ahead of them.
var numEdges = []struct {
	n     int
	bytes string
}{
	{0, "\x00"},
	{1, "\x01"},
	{127, "\x7f"},
	{128, "\x80\x01"},
	{300, "\xac\x02"},
	{16383, "\xff\x7f"},
	{16384, "\x80\x80\x01"},
	{2097151, "\xff\xff\x7f"},
	{2097152, "\x80\x80\x80\x01"},
	{268435455, "\xff\xff\xff\x7f"},
	{268435456, "\x80\x80\x80\x80\x01"},
	{2147483646, "\xfe\xff\xff\xff\x07"},
	{2147483647, "\xff\xff\xff\xff\x07"},
}

var notNumbers = []int{-1, -2, -128, -2147483648, 2147483648, 2147483649, 4294967296, math.MinInt, math.MaxInt}

// bytesOf writes a number as the document tells it, and in another way than the program does.
func bytesOf(n int) []byte {
	if n < 128 {
		return []byte{byte(n)}
	}
	return append([]byte{byte(n%128 + 128)}, bytesOf(n/128)...)
}

// numberAt finds, by trying each length, the number whose bytes stand in b from at on.
func numberAt(b []byte, at int) (int, int) {
	if at < 0 || at > len(b) {
		return 0, -1
	}
	for size := 1; size <= 5 && at+size <= len(b); size++ {
		n := 0
		for i := size - 1; i >= 0; i-- {
			n = n*128 + int(b[at+i]%128)
		}
		if n <= 2147483647 && bytes.Equal(bytesOf(n), b[at:at+size]) {
			return n, at + size
		}
	}
	return 0, -1
}

// textAt finds, by trying each length, the text whose bytes stand in b from at on.
func textAt(b []byte, at int) ([]byte, int) {
	for size := 0; size <= 20 && at >= 0 && at+1+size <= len(b); size++ {
		if int(b[at]) == size {
			return b[at+1 : at+1+size], at + 1 + size
		}
	}
	return nil, -1
}

// eachOver calls f with each list of at most most bytes out of letters.
func eachOver(letters []byte, most int, f func(b []byte)) {
	var grow func(b []byte)
	grow = func(b []byte) {
		f(b)
		if len(b) == most {
			return
		}
		for _, c := range letters {
			grow(append(b[:len(b):len(b)], c))
		}
	}
	grow(nil)
}

func countingText(n int) []byte {
	b := make([]byte, n)
	for i := range b {
		b[i] = byte(200 + i)
	}
	return b
}

func TestLimitsOfBytes(t *testing.T) {
	if impl.MaxNum != 2147483647 || impl.MaxText != 20 {
		t.Fatal(impl.MaxNum, impl.MaxText)
	}
}

func TestPutNumAndNumLenAtEdges(t *testing.T) {
	for _, e := range numEdges {
		for _, ahead := range []string{"", "\x00", "\x80", "ab"} {
			if got := impl.PutNum([]byte(ahead), e.n); string(got) != ahead+e.bytes {
				t.Errorf("PutNum(%q, %d) = %q", ahead, e.n, got)
			}
		}
		if got := impl.PutNum(nil, e.n); string(got) != e.bytes {
			t.Errorf("PutNum(nil, %d) = %q", e.n, got)
		}
		if got := impl.NumLen(e.n); got != len(e.bytes) {
			t.Errorf("NumLen(%d) = %d", e.n, got)
		}
	}
}

func TestPutNumOfNoNumberIsBAlone(t *testing.T) {
	for _, n := range notNumbers {
		for _, ahead := range []string{"", "a", "\x80\x01"} {
			if got := impl.PutNum([]byte(ahead), n); string(got) != ahead {
				t.Errorf("PutNum(%q, %d) = %q", ahead, n, got)
			}
		}
		if got := impl.PutNum(nil, n); len(got) != 0 {
			t.Errorf("PutNum(nil, %d) = %q", n, got)
		}
		if got := impl.NumLen(n); got != 0 {
			t.Errorf("NumLen(%d) = %d", n, got)
		}
	}
}

func mustComeBack(t *testing.T, n int) {
	t.Helper()
	want := bytesOf(n)
	for _, ahead := range []string{"", "\xff\x00\x80"} {
		b := impl.PutNum([]byte(ahead), n)
		if string(b) != ahead+string(want) || impl.NumLen(n) != len(want) {
			t.Fatalf("PutNum(%q, %d) = %q, NumLen %d", ahead, n, b, impl.NumLen(n))
		}
		for _, behind := range []string{"", "\x00", "\x80", "\xff\xff"} {
			got, next := impl.GetNum(append(b[:len(b):len(b)], behind...), len(ahead))
			if got != n || next != len(ahead)+len(want) {
				t.Fatalf("GetNum(%q + %q, %d) = %d, %d, not %d", b, behind, len(ahead), got, next, n)
			}
		}
	}
}

func TestNumbersComeBack(t *testing.T) {
	for n := range 40000 {
		mustComeBack(t, n)
	}
	for _, e := range numEdges {
		mustComeBack(t, e.n)
	}
	for bits := 7; bits <= 31; bits++ {
		for n := 1<<bits - 3; n <= 1<<bits+3; n++ {
			if n <= impl.MaxNum {
				mustComeBack(t, n)
			}
		}
	}
	for n := impl.MaxNum; n >= 0; n -= 104729 {
		mustComeBack(t, n)
	}
}

func TestGetNumRefuses(t *testing.T) {
	cases := []struct {
		why string
		b   string
		at  int
	}{
		{"at below 0", "\x01\x02", -1},
		{"at far below 0", "\x01\x02", math.MinInt},
		{"at the end", "\x01\x02", 2},
		{"behind the end", "\x01\x02", 3},
		{"far behind the end", "\x01\x02", math.MaxInt},
		{"far behind the end, four less", "\x01\x02", math.MaxInt - 4},
		{"at the end of nothing", "", 0},
		{"behind nothing", "", 1},
		{"one byte of two", "\x80", 0},
		{"one byte of two, behind others", "\x01\x01\xff", 2},
		{"four bytes of five", "\xff\xff\xff\xff", 0},
		{"five bytes of six", "\xff\xff\xff\xff\xff", 0},
		{"six bytes", "\x80\x80\x80\x80\x80\x01", 0},
		{"six bytes, the last one 0", "\x81\x80\x80\x80\x80\x00", 0},
		{"ten bytes", "\xff\xff\xff\xff\xff\xff\xff\xff\xff\x01", 0},
		{"two bytes, the last one 0", "\x80\x00", 0},
		{"two bytes, the last one 0, of 127", "\xff\x00", 0},
		{"three bytes, the last one 0", "\x81\x80\x00", 0},
		{"four bytes, the last one 0", "\x81\x80\x80\x00", 0},
		{"five bytes, the last one 0", "\x81\x80\x80\x80\x00", 0},
		{"one above MaxNum", "\x80\x80\x80\x80\x08", 0},
		{"twice above MaxNum", "\xff\xff\xff\xff\x0f", 0},
		{"MaxNum with the next bit, 2^32", "\x80\x80\x80\x80\x10", 0},
		{"the most that five bytes hold", "\xff\xff\xff\xff\x7f", 0},
	}
	for _, c := range cases {
		if n, next := impl.GetNum([]byte(c.b), c.at); n != 0 || next != -1 {
			t.Errorf("%s: GetNum(%q, %d) = %d, %d", c.why, c.b, c.at, n, next)
		}
	}
	for _, at := range []int{math.MinInt, -1, 0, 1, math.MaxInt} {
		if n, next := impl.GetNum(nil, at); n != 0 || next != -1 {
			t.Errorf("GetNum(nil, %d) = %d, %d", at, n, next)
		}
	}
}

// What lies behind a list's length is not read: the bytes there would make a number whole.
func TestGetNumReadsNothingBehindTheLength(t *testing.T) {
	whole := []byte("\x80\x80\x01")
	for size := range 3 {
		if n, next := impl.GetNum(whole[:size], 0); n != 0 || next != -1 {
			t.Errorf("GetNum of the first %d bytes = %d, %d", size, n, next)
		}
	}
}

func TestBytesReadAsANumberAreJustItsBytes(t *testing.T) {
	letters := []byte{0, 1, 7, 8, 127, 128, 129, 255}
	eachOver(letters, 6, func(b []byte) {
		for at := -1; at <= len(b)+1; at++ {
			n, next := impl.GetNum(b, at)
			wantN, wantNext := numberAt(b, at)
			if n != wantN || next != wantNext {
				t.Fatalf("GetNum(%q, %d) = %d, %d, not %d, %d", b, at, n, next, wantN, wantNext)
			}
			if next >= 0 && !bytes.Equal(impl.PutNum(nil, n), b[at:next]) {
				t.Fatalf("GetNum(%q, %d) = %d, which has other bytes", b, at, n)
			}
		}
	})
	for first := range 256 {
		for second := range 256 {
			b := []byte{byte(first), byte(second)}
			n, next := impl.GetNum(b, 0)
			if wantN, wantNext := numberAt(b, 0); n != wantN || next != wantNext {
				t.Fatalf("GetNum(%q, 0) = %d, %d", b, n, next)
			}
		}
	}
}

func TestTextsComeBack(t *testing.T) {
	for size := 0; size <= impl.MaxText; size++ {
		for _, text := range [][]byte{countingText(size), bytes.Repeat([]byte{0}, size), bytes.Repeat([]byte{255}, size)} {
			for _, ahead := range []string{"", "a", "\x80\x00"} {
				b := impl.PutText([]byte(ahead), text)
				if string(b) != ahead+string(rune(size))+string(text) {
					t.Fatalf("PutText(%q, %q) = %q", ahead, text, b)
				}
				for _, behind := range []string{"", "\x00", "zz"} {
					got, next := impl.GetText(append(b[:len(b):len(b)], behind...), len(ahead))
					if !bytes.Equal(got, text) || next != len(ahead)+1+size {
						t.Fatalf("GetText(%q + %q, %d) = %q, %d", b, behind, len(ahead), got, next)
					}
				}
			}
		}
	}
}

func TestPutTextAtNothing(t *testing.T) {
	if got := impl.PutText(nil, nil); string(got) != "\x00" {
		t.Errorf("PutText(nil, nil) = %q", got)
	}
	if got := impl.PutText([]byte{}, []byte{}); string(got) != "\x00" {
		t.Errorf("PutText of empty lists = %q", got)
	}
	if got, next := impl.GetText([]byte{0}, 0); len(got) != 0 || next != 1 {
		t.Errorf("GetText of the empty text = %q, %d", got, next)
	}
}

func TestPutTextOfTooLongTextIsBAlone(t *testing.T) {
	for _, size := range []int{21, 22, 127, 128, 148, 256, 276, 1000} {
		for _, ahead := range []string{"", "abc"} {
			if got := impl.PutText([]byte(ahead), countingText(size)); string(got) != ahead {
				t.Errorf("PutText(%q, %d bytes) = %q", ahead, size, got)
			}
		}
		if got := impl.PutText(nil, countingText(size)); len(got) != 0 {
			t.Errorf("PutText(nil, %d bytes) = %q", size, got)
		}
	}
}

func TestGetTextRefuses(t *testing.T) {
	cases := []struct {
		why string
		b   string
		at  int
	}{
		{"at below 0", "\x00\x00", -1},
		{"at far below 0", "\x00\x00", math.MinInt},
		{"at the end", "\x00\x00", 2},
		{"behind the end", "\x00\x00", 3},
		{"far behind the end", "\x00\x00", math.MaxInt},
		{"nothing", "", 0},
		{"a length alone", "\x01", 0},
		{"one byte missing", "\x03ab", 0},
		{"one byte missing, behind others", "\x00\x00\x03ab", 2},
		{"MaxText bytes, one missing", "\x14" + string(make([]byte, 19)), 0},
		{"a length above MaxText, all there", "\x15" + string(make([]byte, 21)), 0},
		{"a length above MaxText, more there", "\x15" + string(make([]byte, 40)), 0},
		{"a length of two bytes, all there", "\x80\x01" + string(make([]byte, 128)), 0},
		{"a length of MaxNum", "\xff\xff\xff\xff\x07ab", 0},
		{"a length above MaxNum", "\x80\x80\x80\x80\x08ab", 0},
		{"a length that is not all there", "\x82", 0},
		{"a length written longer than it is", "\x82\x00ab", 0},
		{"a length of six bytes", "\x82\x80\x80\x80\x80\x00ab", 0},
	}
	for _, c := range cases {
		if got, next := impl.GetText([]byte(c.b), c.at); len(got) != 0 || next != -1 {
			t.Errorf("%s: GetText(%q, %d) = %q, %d", c.why, c.b, c.at, got, next)
		}
	}
	for _, at := range []int{math.MinInt, -1, 0, 1, math.MaxInt} {
		if got, next := impl.GetText(nil, at); len(got) != 0 || next != -1 {
			t.Errorf("GetText(nil, %d) = %q, %d", at, got, next)
		}
	}
}

// What lies behind a list's length is neither read nor handed out.
func TestGetTextReadsNothingBehindTheLength(t *testing.T) {
	whole := []byte("\x03abc")
	for size := range len(whole) {
		if got, next := impl.GetText(whole[:size], 0); len(got) != 0 || next != -1 {
			t.Errorf("GetText of the first %d bytes = %q, %d", size, got, next)
		}
	}
	got, _ := impl.GetText([]byte("\x01abcdefgh"), 0)
	if bytes.Contains(got[:cap(got)], []byte("b")) {
		t.Errorf("GetText hands out what lies behind the text: %q", got[:cap(got)])
	}
}

func TestBytesReadAsATextAreJustItsBytes(t *testing.T) {
	letters := []byte{0, 1, 2, 3, 20, 21, 128}
	eachOver(letters, 5, func(b []byte) {
		for at := -1; at <= len(b)+1; at++ {
			text, next := impl.GetText(b, at)
			want, wantNext := textAt(b, at)
			if !bytes.Equal(text, want) || next != wantNext {
				t.Fatalf("GetText(%q, %d) = %q, %d, not %q, %d", b, at, text, next, want, wantNext)
			}
			if next >= 0 && !bytes.Equal(impl.PutText(nil, text), b[at:next]) {
				t.Fatalf("GetText(%q, %d) = %q, which has other bytes", b, at, text)
			}
		}
	})
	for length := range 256 {
		for have := range 30 {
			b := append([]byte{byte(length)}, countingText(have)...)
			text, next := impl.GetText(b, 0)
			if want, wantNext := textAt(b, 0); !bytes.Equal(text, want) || next != wantNext {
				t.Fatalf("GetText(length %d, %d bytes) = %q, %d", length, have, text, next)
			}
		}
	}
}

func TestNumbersAndTextsOneBehindTheOther(t *testing.T) {
	var b []byte
	for i, e := range numEdges {
		b = impl.PutText(impl.PutNum(b, e.n), countingText(i))
	}
	at := 0
	for i, e := range numEdges {
		n, next := impl.GetNum(b, at)
		text, end := impl.GetText(b, next)
		if n != e.n || !bytes.Equal(text, countingText(i)) || end != next+1+i {
			t.Fatalf("place %d: %d, %q, %d", at, n, text, end)
		}
		at = end
	}
	if at != len(b) {
		t.Fatalf("read up to %d of %d", at, len(b))
	}
}

func TestPrefixes(t *testing.T) {
	cases := []struct {
		a, b   string
		common int
		begins bool
	}{
		{"", "", 0, true},
		{"a", "", 0, true},
		{"", "a", 0, false},
		{"abc", "abc", 3, true},
		{"abc", "ab", 2, true},
		{"ab", "abc", 2, false},
		{"abc", "abd", 2, false},
		{"abc", "abdc", 2, false},
		{"xbc", "abc", 0, false},
		{"aXc", "abc", 1, false},
		{"abab", "ab", 2, true},
		{"cab", "ab", 0, false},
		{"\x00\x00", "\x00", 1, true},
		{"\x00", "", 0, true},
		{"\xff\x80", "\xff\x00", 1, false},
	}
	for _, c := range cases {
		if got := impl.Common([]byte(c.a), []byte(c.b)); got != c.common {
			t.Errorf("Common(%q, %q) = %d", c.a, c.b, got)
		}
		if got := impl.HasPrefix([]byte(c.a), []byte(c.b)); got != c.begins {
			t.Errorf("HasPrefix(%q, %q) = %v", c.a, c.b, got)
		}
	}
	if !impl.HasPrefix(nil, nil) || !impl.HasPrefix([]byte("a"), nil) || impl.HasPrefix(nil, []byte("a")) {
		t.Error("HasPrefix takes nil for another thing than an empty list")
	}
	if impl.Common(nil, nil) != 0 || impl.Common([]byte("a"), nil) != 0 || impl.Common(nil, []byte("a")) != 0 {
		t.Error("Common takes nil for another thing than an empty list")
	}
}

func TestTextsBeginAlikeAsFarAsCommonTells(t *testing.T) {
	var all [][]byte
	eachOver([]byte{0, 97, 255}, 5, func(b []byte) { all = append(all, b) })
	for _, a := range all {
		for _, b := range all {
			n := impl.Common(a, b)
			if n < 0 || n > len(a) || n > len(b) || !bytes.Equal(a[:n], b[:n]) || n < len(a) && n < len(b) && a[n] == b[n] {
				t.Fatalf("Common(%q, %q) = %d", a, b, n)
			}
			if impl.Common(b, a) != n {
				t.Fatalf("Common(%q, %q) is another one than turned round", a, b)
			}
			if got := impl.HasPrefix(a, b); got != bytes.HasPrefix(a, b) {
				t.Fatalf("HasPrefix(%q, %q) = %v", a, b, got)
			}
		}
	}
}

// Behind the length of both the bytes go on alike: they do not count.
func TestPrefixesReadNothingBehindTheLength(t *testing.T) {
	a, b := roomy([]byte("ab")), roomy([]byte("abc"))
	if impl.HasPrefix(a[:1], b[:2]) || impl.Common(a[:1], b[:2]) != 1 {
		t.Error("what lies behind the length is read")
	}
}

func TestPutNumSharesNoMemory(t *testing.T) {
	for _, ahead := range []string{"", "a", "abcdefgh"} {
		for _, n := range append([]int{0, 127, 128, 300, impl.MaxNum}, notNumbers...) {
			b := roomy([]byte(ahead))
			mustShareNothing(t, "PutNum", impl.PutNum(b, n), b, []byte(ahead))
		}
	}
}

func TestPutTextSharesNoMemory(t *testing.T) {
	for _, ahead := range []string{"", "a", "abcdefgh"} {
		for _, size := range []int{0, 1, 20, 21, 100} {
			b, text := roomy([]byte(ahead)), roomy(countingText(size))
			got := impl.PutText(b, text)
			mustBeUntouched(t, "PutText", text, countingText(size))
			mustShareNothing(t, "PutText", got, b, []byte(ahead))
			mustBeUntouched(t, "PutText, answer written over", text, countingText(size))
		}
	}
}

func TestGettingSharesNoMemory(t *testing.T) {
	for _, was := range []string{"", "\x00", "\x02ab", "\x02abcd", "\x02a", "\x15", "\x80"} {
		for at := -1; at <= len(was)+1; at++ {
			b := roomy([]byte(was))
			impl.GetNum(b, at)
			mustBeUntouched(t, "GetNum", b, []byte(was))
			got, _ := impl.GetText(b, at)
			mustShareNothing(t, "GetText", got, b, []byte(was))
		}
	}
}

func TestComparingWritesNothing(t *testing.T) {
	for _, a := range []string{"", "ab", "abc"} {
		for _, b := range []string{"", "ab", "abd"} {
			x, y := roomy([]byte(a)), roomy([]byte(b))
			impl.HasPrefix(x, y)
			impl.Common(x, y)
			mustBeUntouched(t, "HasPrefix and Common", x, []byte(a))
			mustBeUntouched(t, "HasPrefix and Common", y, []byte(b))
		}
	}
}

// No function keeps anything: the same call, with others between, is answered alike, and an earlier answer stays as it was.
func TestNothingIsKept(t *testing.T) {
	first := impl.PutNum([]byte("a"), 300)
	firstText, _ := impl.GetText([]byte("\x02ab"), 0)
	impl.PutNum([]byte("b"), impl.MaxNum)
	impl.PutText([]byte("b"), countingText(20))
	impl.GetText([]byte("\x02cd"), 0)
	second := impl.PutNum([]byte("a"), 300)
	if string(first) != "a\xac\x02" || !bytes.Equal(first, second) || string(firstText) != "ab" {
		t.Errorf("%q, %q, %q", first, second, firstText)
	}
	first[0] = 'z'
	if string(second) != "a\xac\x02" {
		t.Errorf("two answers share memory: %q", second)
	}
}
