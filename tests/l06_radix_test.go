package tests

import (
	"fmt"
	"maps"
	"math"
	"math/rand"
	"slices"
	"strings"
	"testing"

	"loop.example/g00365/impl"
)

func TestLimitsOfTrees(t *testing.T) {
	if impl.MaxTree != 200 || impl.MaxTall != 24 {
		t.Fatalf("MaxTree is %d, MaxTall %d", impl.MaxTree, impl.MaxTall)
	}
}

// keyed answers a part with a key; its Val is how many bytes its edge has.
func keyed(edge string, kids ...impl.Tree) impl.Tree {
	return impl.Tree{Edge: []byte(edge), Has: true, Val: len(edge), Kids: kids}
}

func fork(edge string, kids ...impl.Tree) impl.Tree {
	return impl.Tree{Edge: []byte(edge), Kids: kids}
}

// chain answers a tree that goes so many parts deep, with one byte and one key each.
func chain(edge string, deep int) impl.Tree {
	var kids []impl.Tree
	for range deep {
		kids = []impl.Tree{keyed(edge, kids...)}
	}
	return fork("", kids...)
}

// fan answers so many parts with a key each, their edges two bytes long.
func fan(parts int) []impl.Tree {
	var kids []impl.Tree
	for i := range parts {
		kids = append(kids, keyed(string([]byte{byte(i), 'x'})))
	}
	return kids
}

// holdsItself answers a list whose last part's kids are the list itself.
func holdsItself(kids ...impl.Tree) []impl.Tree {
	kids[len(kids)-1].Kids = kids
	return kids
}

func withVal(t impl.Tree, has bool, val int) impl.Tree {
	t.Has, t.Val = has, val
	return t
}

type treeEdge struct {
	what string
	ok   bool
	tree impl.Tree
}

func treeEdges() []treeEdge {
	long := strings.Repeat("y", 20)
	return []treeEdge{
		{"zero", true, impl.Tree{}},
		{"an edge that is empty, but not nil", true, impl.Tree{Edge: []byte{}, Kids: []impl.Tree{}}},
		{"the root's key alone", true, keyed("")},
		{"the root's edge", false, fork("a")},
		{"the root's edge with a key", false, keyed("a")},
		{"the root's edge with kids", false, fork("a", keyed("b"), keyed("c"))},
		{"a root without a key and with one kid", true, fork("", keyed("a"))},
		{"a root with a key and one kid", true, keyed("", keyed("a"))},
		{"a kid without an edge", false, fork("", keyed(""))},
		{"a second kid without an edge", false, fork("", keyed("a"), keyed(""))},
		{"a first kid without an edge", false, fork("", keyed(""), keyed("a"))},
		{"a lower kid without an edge", false, fork("", keyed("a", keyed("")))},

		{"kids ascend", true, fork("", keyed("a"), keyed("b"), keyed("c"))},
		{"kids descend", false, fork("", keyed("b"), keyed("a"))},
		{"last kids descend", false, fork("", keyed("a"), keyed("c"), keyed("b"))},
		{"the last kid is below the first one", false, fork("", keyed("b"), keyed("c"), keyed("a"))},
		{"kids alike", false, fork("", keyed("a"), keyed("a"))},
		{"kids of one first byte", false, fork("", keyed("ax"), keyed("ay"))},
		{"kids of one first byte, apart", false, fork("", keyed("ax"), keyed("b"), keyed("ay"))},
		{"a kid that the next one begins with", false, fork("", keyed("a"), keyed("ab"))},
		{"kids whose second bytes descend", true, fork("", keyed("az"), keyed("ba"))},
		{"first bytes 0 and 255", true, fork("", keyed("\x00"), keyed("\x7f"), keyed("\x80"), keyed("\xff"))},
		{"255 ahead of 0", false, fork("", keyed("\xff"), keyed("\x00"))},
		{"255 twice", false, fork("", keyed("\xff"), keyed("\xff"))},
		{"0 twice", false, fork("", keyed("\x00"), keyed("\x00"))},
		{"lower kids descend", false, fork("", keyed("a", keyed("c"), keyed("b")))},
		{"lower kids alike", false, fork("", fork("a", keyed("b"), keyed("b")))},
		{"kids of two parts alike", true, fork("", keyed("a", keyed("x")), keyed("b", keyed("x")))},

		{"a Val without Has at the root", false, withVal(fork(""), false, 1)},
		{"a Val below 0 without Has at the root", false, withVal(fork(""), false, -1)},
		{"a Val without Has below", false, fork("", withVal(fork("a", keyed("b"), keyed("c")), false, 1))},
		{"a Val of 0", true, fork("", withVal(keyed("a"), true, 0))},
		{"a Val below 0", false, fork("", withVal(keyed("a"), true, -1))},
		{"a Val below 0 at the root", false, withVal(keyed(""), true, -1)},
		{"a Val at its most", true, fork("", withVal(keyed("a"), true, impl.MaxNum))},
		{"a Val above", false, fork("", withVal(keyed("a"), true, impl.MaxNum+1))},
		{"a Val at its most at the root", true, withVal(keyed(""), true, impl.MaxNum)},
		{"a Val above at the root", false, withVal(keyed(""), true, impl.MaxNum+1)},
		{"a Val far above", false, fork("", withVal(keyed("a"), true, math.MaxInt))},
		{"a Val far below", false, fork("", withVal(keyed("a"), true, math.MinInt))},
		{"a last Val above", false, fork("", keyed("a"), keyed("b"), withVal(keyed("c"), true, impl.MaxNum+1))},

		{"a leaf without a key", false, fork("", fork("a"))},
		{"a second leaf without a key", false, fork("", keyed("a"), fork("b"))},
		{"one kid without a key ahead", false, fork("", fork("a", keyed("b")))},
		{"one kid without a key ahead, lower", false, fork("", keyed("a", fork("b", keyed("c"))))},
		{"two kids without a key ahead", true, fork("", fork("a", keyed("b"), keyed("c")))},
		{"three kids without a key ahead", true, fork("", fork("a", keyed("b"), keyed("c"), keyed("d")))},
		{"two kids of which one has no key", false, fork("", fork("a", keyed("b"), fork("c")))},
		{"forks below forks", true, fork("", fork("a", fork("b", keyed("c"), keyed("d")), keyed("e")))},

		{"a way of MaxText bytes", true, fork("", keyed(long))},
		{"a way of one more", false, fork("", keyed(long+"z"))},
		{"a way of MaxText bytes together", true, fork("", keyed(long[1:], keyed("z")))},
		{"a way of one more together", false, fork("", keyed(long, keyed("z")))},
		{"one of two ways too long", false, fork("", fork(long[1:], keyed("a"), keyed("zz")))},
		{"the first of two ways too long", false, fork("", fork(long[1:], keyed("aa"), keyed("z")))},
		{"two ways of MaxText bytes", true, fork("", fork(long[1:], keyed("a"), keyed("z")))},
		{"ways that are too long all together only", true, fork("", keyed("a"+long[1:]), keyed("b"+long[1:]))},

		{"as deep as MaxText bytes go", true, chain("a", 20)},
		{"one deeper", false, chain("a", 21)},
		{"MaxTall deep", false, chain("a", 24)},
		{"one deeper than MaxTall", false, chain("a", 25)},
		{"MaxTall deep without edges", false, chain("", 24)},
		{"one deeper than MaxTall without edges", false, chain("", 25)},
		{"far too deep", false, chain("a", 100000)},
		{"MaxTree parts", true, fork("", fan(199)...)},
		{"one part more", false, fork("", fan(200)...)},
		{"all first bytes", false, fork("", fan(256)...)},
		{"MaxTree parts in two rows", true, fork("", keyed("\x00", fan(99)...), keyed("a", fan(98)...))},
		{"one part more in two rows", false, fork("", keyed("\x00", fan(99)...), keyed("a", fan(99)...))},
		{"one part more in the first of two rows", false, fork("", keyed("\x00", fan(100)...), keyed("a", fan(98)...))},
		{"MaxTree parts in ten chains", true, fork("", tenChains(19)...)},
		{"one part more in ten chains", false, fork("", tenChains(20)...)},

		{"a list that holds itself", false, fork("", holdsItself(keyed("a"))...)},
		{"a list that holds itself, without edges", false, fork("", holdsItself(keyed(""))...)},
		{"a fork that holds itself", false, fork("", holdsItself(keyed("a"), fork("b"))...)},
		{"a wide list that holds itself", false, fork("", holdsItself(fan(150)...)...)},
		{"a list that each of its parts holds", false, heldByAll()},
	}
}

// tenChains answers nine ways of 20 parts, and one of so many.
func tenChains(last int) []impl.Tree {
	var kids []impl.Tree
	for i := range 9 {
		kids = append(kids, chain(string([]byte{byte('a' + i)}), 20).Kids[0])
	}
	return append(kids, chain("j", last).Kids[0])
}

func heldByAll() impl.Tree {
	kids := fan(30)
	for i := range kids {
		kids[i].Kids = kids
		kids[i].Edge = kids[i].Edge[:1]
	}
	return fork("", kids...)
}

func TestTreeOk(t *testing.T) {
	for _, edge := range treeEdges() {
		if impl.TreeOk(edge.tree) != edge.ok {
			t.Errorf("TreeOk, %s: not %v", edge.what, edge.ok)
		}
		if modelTreeOk(edge.tree) != edge.ok {
			t.Errorf("the model, %s: not %v", edge.what, edge.ok)
		}
	}
}

// smallParts answers all parts, good or bad, with these edges, Vals and up to two of these kids.
func smallParts(edges []string, vals []int, kids []impl.Tree) []impl.Tree {
	lists := [][]impl.Tree{nil}
	for _, a := range kids {
		lists = append(lists, []impl.Tree{a})
		for _, b := range kids {
			lists = append(lists, []impl.Tree{a, b})
		}
	}
	var all []impl.Tree
	for _, edge := range edges {
		for _, val := range vals {
			for _, list := range lists {
				all = append(all, withVal(fork(edge, list...), false, val), withVal(fork(edge, list...), true, val))
			}
		}
	}
	return all
}

func TestSmallTrees(t *testing.T) {
	t.Parallel()
	leaves := smallParts([]string{"", "a", "b"}, []int{0, 1}, nil)
	middle := smallParts([]string{"a", "ab"}, []int{0}, leaves)
	ok := 0
	for _, root := range append(smallParts([]string{"", "a"}, []int{0, -1}, middle), smallParts([]string{"", "b"}, []int{-1, 0, impl.MaxNum, impl.MaxNum + 1}, leaves)...) {
		want := modelTreeOk(root)
		if impl.TreeOk(root) != want {
			t.Fatalf("TreeOk(%s) is not %v", treeText(root), want)
		}
		if want {
			ok++
			mustStayAsItIs(t, root)
		}
	}
	if ok < 50 {
		t.Errorf("%d are good", ok)
	}
}

// mustStayAsItIs fails if a put of what is there, or a delete or drop of what is not, turns a tree.
func mustStayAsItIs(t *testing.T, tree impl.Tree) {
	t.Helper()
	for _, key := range impl.TreeKeys(tree, nil) {
		val, _ := impl.TreeGet(tree, key)
		if again, ok := impl.TreePut(tree, key, val); !ok || !same(again, tree) {
			t.Fatalf("%s with %q put again is %s", treeText(tree), key, treeText(again))
		}
	}
	if again, had := impl.TreeDel(tree, []byte("q")); had || !same(again, tree) {
		t.Fatalf("%s without q is %s", treeText(tree), treeText(again))
	}
	if again, gone := impl.TreeDrop(tree, []byte("q")); gone != 0 || !same(again, tree) {
		t.Fatalf("%s with q dropped is %s", treeText(tree), treeText(again))
	}
}

func TestBadTreesAreRefused(t *testing.T) {
	for _, edge := range treeEdges() {
		if edge.ok {
			continue
		}
		bad := edge.tree
		for _, key := range []string{"", "a", "b", "ab", "c", "\x00x", "aaaaa", tooLongKey} {
			zero := []any{impl.Tree{}, false, impl.Tree{}, false, impl.Tree{}, 0, 0, false, []byte(nil), false, []byte(nil), false, [][]byte(nil), 0}
			if got := allTold(bad, []byte(key)); !same(got, zero) {
				t.Errorf("%s, %q: answered %v", edge.what, key, got)
			}
		}
	}
}

func TestTreePutRefuses(t *testing.T) {
	keys := map[string]int{"": 3, "a": 1, "ab": 0, longKey: 9}
	tree := modelTree(keys)
	for _, val := range []int{math.MinInt, -1, 0, 1, impl.MaxNum - 1, impl.MaxNum, impl.MaxNum + 1, math.MaxInt} {
		for _, key := range []string{"", "a", "q", "ab", "abc", longKey, tooLongKey, "q" + longKey, strings.Repeat("a", 1000), longKey[:19], strings.Repeat("q", 20), strings.Repeat("q", 21)} {
			got, ok := impl.TreePut(tree, []byte(key), val)
			if is := val >= 0 && val <= impl.MaxNum && len(key) <= 20; ok != is || !is && !same(got, impl.Tree{}) {
				t.Errorf("TreePut of %q and %d is %s, %v", key, val, treeText(got), ok)
			} else if is {
				mustBeTree(t, got, with(keys, key, val))
			}
		}
	}
}

func with(keys map[string]int, key string, val int) map[string]int {
	more := maps.Clone(keys)
	more[key] = val
	return more
}

// mustBeTree fails unless a tree is the one that has just these keys.
func mustBeTree(t *testing.T, got impl.Tree, keys map[string]int) {
	t.Helper()
	if want := modelTree(keys); !same(got, want) {
		t.Fatalf("the tree of %v is\n%s\nnot\n%s", keys, treeText(got), treeText(want))
	}
	if !impl.TreeOk(got) {
		t.Fatalf("the tree of %v is not TreeOk: %s", keys, treeText(got))
	}
}

// putAll puts the keys, in this order, into an empty tree.
func putAll(t *testing.T, order []string, keys map[string]int) impl.Tree {
	t.Helper()
	var tree impl.Tree
	for _, key := range order {
		next, ok := impl.TreePut(tree, []byte(key), keys[key])
		if !ok {
			t.Fatalf("%q is not put into %s", key, treeText(tree))
		}
		tree = next
	}
	return tree
}

// mustTell holds what is told of a tree against its keys, asked for one text.
func mustTell(t *testing.T, tree impl.Tree, keys map[string]int, text string) {
	t.Helper()
	val, has := impl.TreeGet(tree, []byte(text))
	if want, is := keys[text]; val != want || has != is {
		t.Fatalf("TreeGet(%s, %q) is %d, %v", treeText(tree), text, val, has)
	}
	var list [][]byte
	for _, key := range modelTreeKeys(keys, text) {
		list = append(list, []byte(key))
	}
	if got := impl.TreeKeys(tree, []byte(text)); !same(got, list) {
		t.Fatalf("TreeKeys(%s, %q) is %q, not %q", treeText(tree), text, got, list)
	}
	longest, is := impl.TreeLongest(tree, []byte(text))
	if want, found := modelLongest(keys, text); string(longest) != want || is != found {
		t.Fatalf("TreeLongest(%s, %q) is %q, %v", treeText(tree), text, longest, is)
	}
	next, is := impl.TreeNext(tree, []byte(text))
	if want, found := modelNext(keys, text); string(next) != want || is != found {
		t.Fatalf("TreeNext(%s, %q) is %q, %v", treeText(tree), text, next, is)
	}
}

// mustTurn holds what a put, a delete and a drop make of a tree against its keys, at one text.
func mustTurn(t *testing.T, tree impl.Tree, keys map[string]int, text string, val int) {
	t.Helper()
	put, ok := impl.TreePut(tree, []byte(text), val)
	if !ok {
		t.Fatalf("%q is not put into %s", text, treeText(tree))
	}
	mustBeTree(t, put, with(keys, text, val))
	left, had := impl.TreeDel(tree, []byte(text))
	if _, has := keys[text]; had != has {
		t.Fatalf("TreeDel of %q from %s tells %v", text, treeText(tree), had)
	}
	mustBeTree(t, left, without(keys, func(key string) bool { return key == text }))
	rest, gone := impl.TreeDrop(tree, []byte(text))
	others := without(keys, func(key string) bool { return strings.HasPrefix(key, text) })
	if gone != len(keys)-len(others) {
		t.Fatalf("TreeDrop of %q from %s tells %d", text, treeText(tree), gone)
	}
	mustBeTree(t, rest, others)
}

// Promise 13 over all sets of a few keys that begin alike in many ways.
func TestAllSetsOfKeys(t *testing.T) {
	t.Parallel()
	all := []string{"", "a", "ab", "abc", "abcde", "abd", "abdx", "ac", "b", "b\x00", "b\xff"}
	asked := append([]string{"abcd", "abcdef", "abcx", "abdxy", "ad", "a\x00", "b\x01", "c", "\x00", "\xff", "`", longKey, tooLongKey}, all...)
	for set := range 1 << len(all) {
		keys := make(map[string]int)
		for i, key := range all {
			if set>>i&1 == 1 {
				keys[key] = i
			}
		}
		ascending := slices.Sorted(maps.Keys(keys))
		tree := putAll(t, ascending, keys)
		mustBeTree(t, tree, keys)
		descending := slices.Clone(ascending)
		slices.Reverse(descending)
		mustBeTree(t, putAll(t, descending, keys), keys)
		if size := impl.TreeSize(tree); size != len(keys) {
			t.Fatalf("TreeSize(%s) is %d", treeText(tree), size)
		}
		for _, text := range asked {
			mustTell(t, tree, keys, text)
			if len(text) <= impl.MaxText {
				mustTurn(t, tree, keys, text, 77)
			}
		}
	}
}

// In which order keys are put plays no part, nor in which others come and go.
func TestAllOrdersOfKeys(t *testing.T) {
	keys := map[string]int{"": 1, "ab": 2, "abc": 3, "abd": 4, "abcx": 5, "b": 6, "a": 7}
	order := slices.Sorted(maps.Keys(keys))
	eachOrder(order, 0, func(order []string) {
		tree := putAll(t, order, keys)
		mustBeTree(t, tree, keys)
		left := maps.Clone(keys)
		for _, key := range order {
			next, had := impl.TreeDel(tree, []byte(key))
			if !had {
				t.Fatalf("%q is not in %s", key, treeText(tree))
			}
			delete(left, key)
			mustBeTree(t, next, left)
			tree = next
		}
	})
}

// eachOrder calls f with each order of what stands from the place on.
func eachOrder(list []string, from int, f func(list []string)) {
	if from == len(list) {
		f(list)
		return
	}
	for i := from; i < len(list); i++ {
		list[from], list[i] = list[i], list[from]
		eachOrder(list, from+1, f)
		list[from], list[i] = list[i], list[from]
	}
}

func TestEdgesAreSplitAndJoined(t *testing.T) {
	for _, c := range []struct{ what, keys, put, is string }{
		{"the first key", "", "abc", `""["abc"=9]`},
		{"the key of the root", "a", "", `""=9["a"=1]`},
		{"a key below another one", "ab", "abcd", `""["ab"=1["cd"=9]]`},
		{"an edge split where the key ends", "abcd", "ab", `""["ab"=9["cd"=1]]`},
		{"an edge split ahead of its last byte", "abcd", "abc", `""["abc"=9["d"=1]]`},
		{"an edge split behind its first byte", "abcd", "a", `""["a"=9["bcd"=1]]`},
		{"an edge split in two, the new one behind", "abcd", "abxy", `""["ab"["cd"=1 "xy"=9]]`},
		{"an edge split in two, the new one ahead", "abxy", "abcd", `""["ab"["cd"=9 "xy"=1]]`},
		{"an edge that is no part's beginning", "abcd", "xbcd", `""["abcd"=1 "xbcd"=9]`},
		{"a third kid between two", "aa ac", "ab", `""["a"["a"=1 "b"=9 "c"=2]]`},
		{"a part that gets its key", "aa ac", "a", `""["a"=9["a"=1 "c"=2]]`},
		{"a key with another Val", "a ab", "a", `""["a"=9["b"=2]]`},
		{"an edge with kids split", "abcx abcy", "ab", `""["ab"=9["c"["x"=1 "y"=2]]]`},
		{"an edge with a key and kids split in two", "abc abcx", "abd", `""["ab"["c"=1["x"=2] "d"=9]]`},
		{"a lower edge split", "a abc b", "abd", `""["a"=1["b"["c"=2 "d"=9]] "b"=3]`},
	} {
		keys := numberedKeys(c.keys)
		before := modelTree(keys)
		after, ok := impl.TreePut(before, []byte(c.put), 9)
		if !ok || treeText(after) != c.is {
			t.Errorf("%s: %s, not %s", c.what, treeText(after), c.is)
		}
		if _, had := keys[c.put]; had {
			continue
		}
		if back, had := impl.TreeDel(after, []byte(c.put)); !had || !same(back, before) {
			t.Errorf("%s, taken out again: %s", c.what, treeText(back))
		}
	}
}

// numberedKeys answers the words of a text, with their numbers from 1 on; a dot is the empty key.
func numberedKeys(text string) map[string]int {
	keys := make(map[string]int)
	for i, key := range strings.Fields(text) {
		keys[strings.TrimPrefix(key, ".")] = i + 1
	}
	return keys
}

func TestTreeDelJoins(t *testing.T) {
	for _, c := range []struct {
		what, keys, gone string
		had              bool
		is               string
	}{
		{"a leaf", "ab b", "ab", true, `""["b"=2]`},
		{"the last one", "ab", "ab", true, `""`},
		{"the root's key", ". a", "", true, `""["a"=2]`},
		{"the root's key alone", ".", "", true, `""`},
		{"the root's key, which is not there", "a", "", false, `""["a"=1]`},
		{"a part with one kid", "a abc", "a", true, `""["abc"=2]`},
		{"a part with two kids stays", "a ab ac", "a", true, `""["a"["b"=2 "c"=3]]`},
		{"one of two kids of a part without a key", "abc abd", "abc", true, `""["abd"=2]`},
		{"the other one", "abc abd", "abd", true, `""["abc"=1]`},
		{"one of two kids of a part with a key", "ab abc abd", "abc", true, `""["ab"=1["d"=3]]`},
		{"one of three kids", "aba abb abc", "abb", true, `""["ab"["a"=1 "c"=3]]`},
		{"what is joined keeps its kids", "abc abd abdx abdy", "abc", true, `""["abd"=2["x"=3 "y"=4]]`},
		{"what is joined has kids, but no key", "abc abdx abdy", "abc", true, `""["abd"["x"=2 "y"=3]]`},
		{"no join with the root", "a b", "a", true, `""["b"=2]`},
		{"no join with the root, lower", "a bc bd", "a", true, `""["b"["c"=2 "d"=3]]`},
		{"no join above a key", "a abc abd", "abc", true, `""["a"=1["bd"=3]]`},
		{"others beside what is joined", "a bc bd c", "bc", true, `""["a"=1 "bd"=3 "c"=4]`},
		{"the first one beside others", "a b c", "a", true, `""["b"=2 "c"=3]`},
		{"the last one beside others", "a b c", "c", true, `""["a"=1 "b"=2]`},
		{"a part without a key", "abc abd", "ab", false, `""["ab"["c"=1 "d"=2]]`},
		{"within an edge", "abc abd", "a", false, `""["ab"["c"=1 "d"=2]]`},
		{"behind a leaf", "abc", "abcd", false, `""["abc"=1]`},
		{"beside", "abc", "abd", false, `""["abc"=1]`},
		{"longer than any", "abc", "abc" + tooLongKey, false, `""["abc"=1]`},
		{"from nothing", "", "a", false, `""`},
		{"nothing from nothing", "", "", false, `""`},
	} {
		got, had := impl.TreeDel(modelTree(numberedKeys(c.keys)), []byte(c.gone))
		if had != c.had || treeText(got) != c.is {
			t.Errorf("%s: %s, %v, not %s", c.what, treeText(got), had, c.is)
		}
	}
}

func TestTreeDropJoins(t *testing.T) {
	for _, c := range []struct {
		what, keys, prefix string
		gone               int
		is                 string
	}{
		{"all", ". a ab b", "", 4, `""`},
		{"all, without the root's key", "a ab b", "", 3, `""`},
		{"nothing of nothing", "", "", 0, `""`},
		{"from nothing", "", "a", 0, `""`},
		{"a branch", ". a ab b", "a", 2, `""=1["b"=4]`},
		{"a prefix within an edge", ". abc b", "ab", 1, `""=1["b"=3]`},
		{"a prefix within an edge with kids", "abcd abce b", "ab", 2, `""["b"=3]`},
		{"a prefix that ends at an edge's last byte but one", "abcx abcy b", "ab", 2, `""["b"=3]`},
		{"a prefix that is a part without a key", "abcx abcy b", "abc", 2, `""["b"=3]`},
		{"a prefix that turns within an edge", "abc b", "ax", 0, `""["abc"=1 "b"=2]`},
		{"a prefix that turns at the end of an edge", "abc b", "abx", 0, `""["abc"=1 "b"=2]`},
		{"a prefix behind a leaf", "abc b", "abcd", 0, `""["abc"=1 "b"=2]`},
		{"a prefix that no edge begins with", "b d", "c", 0, `""["b"=1 "d"=2]`},
		{"what is left is joined", "abc abd abdx", "abd", 2, `""["abc"=1]`},
		{"what is left is joined, with kids", "abc abdx abdy", "abc", 1, `""["abd"["x"=2 "y"=3]]`},
		{"what is left is joined, the prefix within an edge", "abc abdefx abdefy", "abde", 2, `""["abc"=1]`},
		{"what is left has a key", "ab abc abd", "abc", 1, `""["ab"=1["d"=3]]`},
		{"what is left has a key and no kids", "ab abc abcd", "abc", 2, `""["ab"=1]`},
		{"what is left has two kids", "aba abb abc", "abb", 1, `""["ab"["a"=1 "c"=3]]`},
		{"no join with the root", "a b", "a", 1, `""["b"=2]`},
		{"others beside what is joined", "a bc bd c", "bd", 1, `""["a"=1 "bc"=2 "c"=4]`},
		{"a prefix longer than any key", "abc", "abc" + tooLongKey, 0, `""["abc"=1]`},
	} {
		got, gone := impl.TreeDrop(modelTree(numberedKeys(c.keys)), []byte(c.prefix))
		if gone != c.gone || treeText(got) != c.is {
			t.Errorf("%s: %s, %d, not %s, %d", c.what, treeText(got), gone, c.is, c.gone)
		}
	}
}

func TestKeysOfATree(t *testing.T) {
	keys := numberedKeys(". ab abc abd b ba")
	tree := modelTree(keys)
	for prefix, want := range map[string]string{"": " ab abc abd b ba", "a": "ab abc abd", "ab": "ab abc abd", "abc": "abc", "abcd": "", "b": "b ba", "c": "", "ac": "", "aa": ""} {
		if got := texts(impl.TreeKeys(tree, []byte(prefix))); got != want {
			t.Errorf("TreeKeys of %q are %q, not %q", prefix, got, want)
		}
	}
	for text, want := range map[string]string{"": "", "a": "", "ab": "ab", "abb": "ab", "abc": "abc", "abcd": "abc", "abz": "ab", "b": "b", "c": "", "bab": "ba", "abd" + tooLongKey: "abd"} {
		if got, ok := impl.TreeLongest(tree, []byte(text)); !ok || string(got) != want {
			t.Errorf("TreeLongest of %q is %q, %v, not %q", text, got, ok, want)
		}
	}
	for key, want := range map[string]string{"": "ab", "\x00": "ab", "a": "ab", "ab": "abc", "ab\x00": "abc", "abb": "abc", "abc": "abd", "abc\x00": "abd", "abd": "b", "abe": "b", "az": "b", "b": "ba", "b" + tooLongKey: "", "ba": "", "c": ""} {
		if got, ok := impl.TreeNext(tree, []byte(key)); ok != (want != "") || string(got) != want {
			t.Errorf("TreeNext of %q is %q, %v, not %q", key, got, ok, want)
		}
	}
	rootless := modelTree(numberedKeys("ab b"))
	if got, ok := impl.TreeLongest(rootless, []byte("a")); ok || len(got) != 0 {
		t.Errorf("TreeLongest without the root's key is %q, %v", got, ok)
	}
	if got, ok := impl.TreeLongest(rootless, nil); ok || len(got) != 0 {
		t.Errorf("TreeLongest of nothing is %q, %v", got, ok)
	}
	if got, ok := impl.TreeNext(impl.Tree{}, nil); ok || len(got) != 0 {
		t.Errorf("TreeNext of an empty tree is %q, %v", got, ok)
	}
	if got := impl.TreeKeys(impl.Tree{}, nil); len(got) != 0 {
		t.Errorf("TreeKeys of an empty tree are %q", got)
	}
	if got := impl.TreeKeys(keyed(""), nil); len(got) != 1 || len(got[0]) != 0 {
		t.Errorf("TreeKeys of the root's key alone are %q", got)
	}
	if impl.TreeSize(impl.Tree{}) != 0 || impl.TreeSize(keyed("")) != 1 || impl.TreeSize(tree) != 6 {
		t.Error("TreeSize")
	}
}

// A put that would make more than MaxTree parts leaves the tree as it is; one that meets them is done.
func TestFullTrees(t *testing.T) {
	for kids := 196; kids <= 199; kids++ {
		full := fork("", fan(kids)...)
		for _, c := range []struct {
			what, key string
			parts     int
		}{
			{"the root", "", 0},
			{"a key that is there", "\x05x", 0},
			{"a new kid", "\xffq", 1},
			{"a kid of a kid", "\x05xy", 1},
			{"an edge split where the key ends", "\x05", 1},
			{"an edge split in two", "\x05y", 2},
		} {
			got, ok := impl.TreePut(full, []byte(c.key), 5)
			if room := 1+kids+c.parts <= impl.MaxTree; ok != room || !room && !same(got, full) {
				t.Errorf("%d kids, %s: %v, %s", kids, c.what, ok, treeText(got))
			}
			if ok && (!modelTreeOk(got) || len(placedParts(got)) != 1+kids+c.parts) {
				t.Errorf("%d kids, %s: %d parts", kids, c.what, len(placedParts(got)))
			}
			for _, refused := range []struct {
				key string
				val int
			}{{c.key, -1}, {c.key, impl.MaxNum + 1}, {c.key + tooLongKey, 5}} {
				if got, ok := impl.TreePut(full, []byte(refused.key), refused.val); ok || !same(got, impl.Tree{}) {
					t.Errorf("%d kids, %q, %d: %v, %s", kids, refused.key, refused.val, ok, treeText(got))
				}
			}
		}
	}
	full := fork("", fan(199)...)
	if impl.TreeSize(full) != 199 || len(impl.TreeKeys(full, nil)) != 199 {
		t.Error("not all keys are told")
	}
	if _, gone := impl.TreeDrop(full, nil); gone != 199 {
		t.Errorf("%d are dropped", gone)
	}
	less, _ := impl.TreeDel(full, []byte("\x05x"))
	if _, ok := impl.TreePut(less, []byte("\xff"), 1); !ok {
		t.Error("no room for what another one left")
	}
}

// The deepest tree has each beginning of a key of MaxText bytes.
func TestDeepestTree(t *testing.T) {
	keys := make(map[string]int)
	for size := range impl.MaxText + 1 {
		keys[longKey[:size]] = size
	}
	tree := putAll(t, slices.Sorted(maps.Keys(keys)), keys)
	mustBeTree(t, tree, keys)
	if all := placedParts(tree); len(all) != 21 || all[20].depth != 20 {
		t.Errorf("%d parts", len(all))
	}
	for size := range impl.MaxText + 1 {
		mustTell(t, tree, keys, longKey[:size])
		mustTurn(t, tree, keys, longKey[:size], impl.MaxNum)
	}
	mustTell(t, tree, keys, tooLongKey)
	if got, ok := impl.TreePut(tree, []byte(tooLongKey), 1); ok || !same(got, impl.Tree{}) {
		t.Errorf("a way of %d bytes is put", len(tooLongKey))
	}
	// With a second way at each depth there are twice as many parts.
	for size := range impl.MaxText {
		key := longKey[:size] + "\xff"
		keys[key] = 1
		tree, _ = impl.TreePut(tree, []byte(key), 1)
	}
	mustBeTree(t, tree, keys)
	for size := range impl.MaxText {
		mustTurn(t, tree, keys, longKey[:size], 7)
	}
}

// Promise 13 over trees that come about by puts, deletes and drops of drawn keys.
func TestDrawnTrees(t *testing.T) {
	t.Parallel()
	refused, largest := 0, 0
	for seed := range int64(24) {
		r := rand.New(rand.NewSource(600 + seed))
		letters := [][]byte{[]byte("ab"), []byte("a/b"), {0, 1, 127, 128, 255}, []byte("abcdefghijklmnopqrstuvwxyz")}[seed%4]
		var tree impl.Tree
		keys := make(map[string]int)
		for range 400 {
			text := drawText(r, letters, keys)
			switch kind := r.Intn(40); {
			case kind < 30:
				val := r.Intn(impl.MaxNum)
				next, ok := impl.TreePut(tree, []byte(text), val)
				more := with(keys, text, val)
				if room := modelTreeOk(modelTree(more)); ok != room || !room && !same(next, tree) {
					t.Fatalf("%q into %s: %v", text, treeText(tree), ok)
				}
				if !ok {
					refused++
					more = keys
				}
				tree, keys = next, more
			case kind < 38:
				tree, _ = impl.TreeDel(tree, []byte(text))
				keys = without(keys, func(key string) bool { return key == text })
			default:
				prefix := text[:min(len(text), 1+r.Intn(4))]
				tree, _ = impl.TreeDrop(tree, []byte(prefix))
				keys = without(keys, func(key string) bool { return strings.HasPrefix(key, prefix) })
			}
			mustBeTree(t, tree, keys)
			mustTell(t, tree, keys, drawText(r, letters, keys))
			largest = max(largest, len(placedParts(tree)))
		}
	}
	if refused < 100 || largest != impl.MaxTree {
		t.Errorf("%d puts were refused, the largest tree has %d parts", refused, largest)
	}
}

// drawText answers a new text, or one of the keys, cut or with something behind it.
func drawText(r *rand.Rand, letters []byte, keys map[string]int) string {
	var text []byte
	if len(keys) > 0 && r.Intn(3) > 0 {
		sorted := slices.Sorted(maps.Keys(keys))
		text = []byte(sorted[r.Intn(len(sorted))])
		text = text[:r.Intn(len(text)+1)]
	}
	for range r.Intn(8) {
		text = append(text, letters[r.Intn(len(letters))])
	}
	return string(text[:min(len(text), impl.MaxText)])
}

func keysOfRows(s impl.State) map[string]int {
	keys := make(map[string]int)
	for _, row := range s.Rows {
		keys[string(row.Key)] = row.Turned
	}
	return keys
}

func TestTreeOf(t *testing.T) {
	mustBeTree(t, impl.TreeOf(impl.State{}), nil)
	mustBeTree(t, impl.TreeOf(filled()), keysOfRows(filled()))
	for _, bad := range badStates() {
		if got := impl.TreeOf(bad); !same(got, impl.Tree{}) {
			t.Errorf("TreeOf a bad state is %s", treeText(got))
		}
	}
	s := impl.State{Index: impl.MaxIndex}
	for i := range impl.MaxKeys {
		s.Rows = append(s.Rows, impl.Row{Key: []byte(longKey[:i+1]), Turned: impl.MaxIndex - i})
	}
	mustBeTree(t, impl.TreeOf(s), keysOfRows(s))
	// Tombs, sessions and values are no part of it.
	bare := filled()
	bare.Tombs, bare.Lost, bare.Lasts = nil, 0, nil
	for i := range bare.Rows {
		bare.Rows[i].Val, bare.Rows[i].Holder = nil, 0
	}
	bare.Sess = nil
	if !same(impl.TreeOf(bare), impl.TreeOf(filled())) {
		t.Error("TreeOf tells more than rows")
	}
}

// A state's tree has its keys, whatever commands led to it.
func TestTreesOfStates(t *testing.T) {
	rows := 0
	for seed := range int64(12) {
		w := newWalk(seed)
		for range 250 {
			w.s, _ = impl.Apply(w.s, w.command())
			tree := impl.TreeOf(w.s)
			mustBeTree(t, tree, keysOfRows(w.s))
			for _, prefix := range []string{"", "a", "a/", "b", "b/c", "b/cx", "ax", "c"} {
				if got, want := impl.TreeKeys(tree, []byte(prefix)), impl.Keys(w.s, []byte(prefix)); !same(got, want) {
					t.Fatalf("TreeKeys of %q are %q, Keys %q", prefix, got, want)
				}
			}
			rows = max(rows, len(w.s.Rows))
		}
	}
	if rows != impl.MaxKeys {
		t.Errorf("%d rows at most", rows)
	}
}

func TestTreesInMemory(t *testing.T) {
	trees := []impl.Tree{
		{Edge: []byte{}, Kids: []impl.Tree{}},
		modelTree(numberedKeys(". ab abc abd abdx abdy b")),
		modelTree(numberedKeys("abcd abce abcf")),
		modelTree(numberedKeys("a ab abc abcd " + longKey)),
		fork("", fan(199)...), fork("", fan(198)...), keyed(""),
	}
	for _, plain := range trees {
		for _, text := range []string{"", "a", "ab", "abc", "abcd", "abd", "abdq", "\x05", "\x05x", "\x05y", "\xff", "q", longKey, tooLongKey} {
			tree, key := withRoom(plain), roomy([]byte(text))
			what := fmt.Sprintf("%q, %s", text, treeText(tree))
			args := []any{tree, key}
			mustKeep(t, "TreePut of "+what, args, func() []any { return two(impl.TreePut(tree, key, 5)) })
			mustKeep(t, "TreeDel of "+what, args, func() []any { return two(impl.TreeDel(tree, key)) })
			mustKeep(t, "TreeDrop of "+what, args, func() []any { return two(impl.TreeDrop(tree, key)) })
			mustKeep(t, "TreeKeys of "+what, args, func() []any { return []any{impl.TreeKeys(tree, key)} })
			mustKeep(t, "TreeLongest of "+what, args, func() []any { return two(impl.TreeLongest(tree, key)) })
			mustKeep(t, "TreeNext of "+what, args, func() []any { return two(impl.TreeNext(tree, key)) })
			mustKeep(t, "TreeGet of "+what, args, func() []any { return two(impl.TreeGet(tree, key)) })
			mustKeep(t, "numbers of "+what, args, func() []any { return []any{impl.TreeOk(tree), impl.TreeSize(tree)} })
			if !same(allTold(tree, key), allTold(plain, []byte(text))) {
				t.Errorf("%s: told otherwise with room behind lists", what)
			}
		}
	}
	for _, s := range []impl.State{withRoom(filled()), withRoom(impl.State{}), withRoom(badStates()[0])} {
		mustKeep(t, "TreeOf", []any{s}, func() []any { return []any{impl.TreeOf(s)} })
	}
}

func two[A, B any](a A, b B) []any {
	return []any{a, b}
}

// allTold answers what each function tells of a tree and a text.
func allTold(tree impl.Tree, text []byte) []any {
	return slices.Concat(
		two(impl.TreePut(tree, text, 5)), two(impl.TreeDel(tree, text)), two(impl.TreeDrop(tree, text)),
		two(impl.TreeGet(tree, text)), two(impl.TreeLongest(tree, text)), two(impl.TreeNext(tree, text)),
		two(impl.TreeKeys(tree, text), impl.TreeSize(tree)),
	)
}

// A list, an edge or a part that stands at several places of a tree is turned at one of them alone.
func TestSharedParts(t *testing.T) {
	shared := []impl.Tree{keyed("x"), keyed("y")}
	edge := []byte("ab")
	tree := fork("", impl.Tree{Edge: edge, Kids: shared}, impl.Tree{Edge: edge[1:], Has: true, Kids: shared})
	keys := map[string]int{"abx": 1, "aby": 1, "b": 0, "bx": 1, "by": 1}
	mustBeTree(t, tree, keys)
	for _, text := range []string{"abx", "aby", "ab", "a", "b", "bx", "by", "", "abxq"} {
		mustTell(t, tree, keys, text)
		mustTurn(t, tree, keys, text, 3)
	}
	mustBeTree(t, tree, keys)
	for _, key := range []string{"abx", "bx", "q"} {
		mustKeep(t, "shared parts", []any{tree}, func() []any { return two(impl.TreePut(tree, []byte(key), 2)) })
		mustKeep(t, "shared parts", []any{tree}, func() []any { return two(impl.TreeDel(tree, []byte(key))) })
		mustKeep(t, "shared parts", []any{tree}, func() []any { return two(impl.TreeDrop(tree, []byte(key))) })
	}
}

// Nothing is kept: an earlier answer stays as it was when others are asked for and written over.
func TestNothingOfTreesIsKept(t *testing.T) {
	keys := numberedKeys("ab abc abd b")
	key := []byte("abq")
	first, _ := impl.TreePut(modelTree(keys), key, 9)
	key[2] = 'z'
	mustBeTree(t, first, with(keys, "abq", 9))
	again, _ := impl.TreePut(modelTree(keys), []byte("abq"), 9)
	again.Kids[0].Edge[0], again.Kids[0].Kids[2].Edge[0], again.Kids[1].Has = 'z', 'z', false
	told := impl.TreeKeys(first, nil)
	told[0][0], told[1][0] = 'z', 'z'
	mustBeTree(t, first, with(keys, "abq", 9))
	third, _ := impl.TreePut(modelTree(keys), []byte("abq"), 9)
	if !same(third, first) || texts(impl.TreeKeys(first, nil)) != "ab abc abd abq b" {
		t.Error("an answer turned")
	}
}
