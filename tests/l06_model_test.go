package tests

import (
	"fmt"
	"maps"
	"slices"
	"strings"

	"loop.example/g00365/impl"
)

// Trees told a second time: what is in a tree is a map of keys, from which the one tree is made at once.

// modelTree answers the one tree that has just these keys.
func modelTree(keys map[string]int) impl.Tree {
	return modelBranch(slices.Sorted(maps.Keys(keys)), 0, 0, keys)
}

// modelBranch wants keys that ascend and begin alike up to the end of the part, whose edge begins at from.
func modelBranch(sorted []string, from, end int, keys map[string]int) impl.Tree {
	if len(sorted) == 0 {
		return impl.Tree{}
	}
	made := impl.Tree{Edge: []byte(sorted[0][from:end])}
	if len(sorted[0]) == end {
		made.Has, made.Val = true, keys[sorted[0]]
		sorted = sorted[1:]
	}
	for len(sorted) > 0 {
		size := 1
		for size < len(sorted) && sorted[size][end] == sorted[0][end] {
			size++
		}
		// Of ascending texts the first and the last one begin alike just as far as all do.
		first, last, alike := sorted[0], sorted[size-1], end+1
		for alike < len(first) && alike < len(last) && first[alike] == last[alike] {
			alike++
		}
		made.Kids = append(made.Kids, modelBranch(sorted[:size], end, alike, keys))
		sorted = sorted[size:]
	}
	return made
}

type placedPart struct {
	part  impl.Tree
	depth int
	way   string
	root  bool
}

// placedParts lays a tree flat; it stops at 1000 parts or 30 deep, which no rule allows.
func placedParts(t impl.Tree) []placedPart {
	all := []placedPart{{part: t, way: string(t.Edge), root: true}}
	for i := 0; i < len(all) && len(all) < 1000; i++ {
		for _, kid := range all[i].part.Kids {
			if all[i].depth < 30 && len(all) < 1000 {
				all = append(all, placedPart{part: kid, depth: all[i].depth + 1, way: all[i].way + string(kid.Edge)})
			}
		}
	}
	return all
}

func modelTreeOk(t impl.Tree) bool {
	all := placedParts(t)
	ok := len(all) <= 200
	for _, p := range all {
		ok = ok && p.root == (len(p.part.Edge) == 0)
		ok = ok && (p.part.Has && p.part.Val >= 0 && p.part.Val <= 2147483647 || !p.part.Has && p.part.Val == 0)
		ok = ok && (p.root || p.part.Has || len(p.part.Kids) >= 2)
		ok = ok && p.depth <= 24 && len(p.way) <= 20
		var firsts []byte
		for _, kid := range p.part.Kids {
			firsts = append(firsts, (string(kid.Edge) + "\x00")[0])
		}
		ok = ok && slices.IsSorted(firsts) && len(slices.Compact(firsts)) == len(p.part.Kids)
	}
	return ok
}

func modelTreeKeys(keys map[string]int, prefix string) []string {
	var all []string
	for key := range keys {
		if strings.HasPrefix(key, prefix) {
			all = append(all, key)
		}
	}
	slices.Sort(all)
	return all
}

func modelLongest(keys map[string]int, text string) (string, bool) {
	for size := len(text); size >= 0; size-- {
		if _, has := keys[text[:size]]; has {
			return text[:size], true
		}
	}
	return "", false
}

func modelNext(keys map[string]int, key string) (string, bool) {
	least, found := "", false
	for other := range keys {
		if other > key && (!found || other < least) {
			least, found = other, true
		}
	}
	return least, found
}

func without(keys map[string]int, gone func(key string) bool) map[string]int {
	left := make(map[string]int)
	for key, val := range keys {
		if !gone(key) {
			left[key] = val
		}
	}
	return left
}

// treeText writes a tree down: an edge, =Val where it has a key, and its kids.
func treeText(t impl.Tree) string {
	out := fmt.Sprintf("%q", t.Edge)
	if t.Has || t.Val != 0 {
		out += fmt.Sprintf("=%d", t.Val)
	}
	if t.Val != 0 && !t.Has {
		out += "(without Has)"
	}
	if len(t.Kids) == 0 {
		return out
	}
	var kids []string
	for _, kid := range t.Kids {
		kids = append(kids, treeText(kid))
	}
	return out + "[" + strings.Join(kids, " ") + "]"
}
