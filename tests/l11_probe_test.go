package tests

import (
	"fmt"
	"math"
	"math/rand"
	"slices"
	"testing"

	"loop.example/g00365/impl"
)

func TestCodesAndLimitsOfProbes(t *testing.T) {
	if limits := []int{impl.MaxHelpers, impl.PrWait, impl.PrHelp}; !same(limits, []int{3, 2, 4}) {
		t.Errorf("the limits are %v", limits)
	}
	if codes := []int{impl.PbIdle, impl.PbDirect, impl.PbHelped}; !same(codes, []int{0, 1, 2}) {
		t.Errorf("the codes are %v", codes)
	}
}

// Seeds whose Mix is 0 and MaxNum - 1: the least and the greatest that it tells.
const (
	seedTo0   = 1695422176
	seedToTop = 287745176
)

var badSeeds = []int{math.MinInt, -impl.MaxNum, -2, -1, impl.MaxNum + 1, impl.MaxNum + 2, 1 << 40, math.MaxInt}

func TestMix(t *testing.T) {
	for _, c := range []struct{ seed, want int }{
		{-1, 0}, {0, 11}, {1, 16818}, {2, 33625}, {41, 689098},
		{127772, 2147464015}, {127773, 2147480822}, {127774, 13982},
		{impl.MaxNum - 1, 2147466851}, {impl.MaxNum, 11}, {impl.MaxNum + 1, 0},
		{seedTo0, 0}, {seedToTop, impl.MaxNum - 1},
	} {
		if got := impl.Mix(c.seed); got != c.want || modelMix(c.seed) != c.want {
			t.Errorf("Mix(%d) = %d, not %d", c.seed, got, c.want)
		}
	}
	for _, seed := range badSeeds {
		if got := impl.Mix(seed); got != 0 {
			t.Errorf("Mix(%d) = %d", seed, got)
		}
	}
	r := rand.New(rand.NewSource(11))
	for range 20000 {
		seed := r.Intn(impl.MaxNum + 1)
		if got := impl.Mix(seed); got != modelMix(seed) || !isIn(got, 0, impl.MaxNum-1) {
			t.Fatalf("Mix(%d) = %d, not %d", seed, got, modelMix(seed))
		}
	}
}

// upTo answers the numbers below n, in order.
func upTo(n int) []int {
	var list []int
	for i := range n {
		list = append(list, i)
	}
	return list
}

func TestShuffle(t *testing.T) {
	for _, c := range []struct {
		list []int
		seed int
		want []int
		last int
	}{
		{nil, 0, nil, 0},
		{[]int{}, 1, nil, 1},
		{nil, impl.MaxNum, nil, impl.MaxNum},
		{[]int{7}, 0, []int{7}, 0},
		{[]int{7}, 5, []int{7}, 5},
		{[]int{7}, impl.MaxNum, []int{7}, impl.MaxNum},
		{[]int{1, 2}, 0, []int{1, 2}, 11},
		{[]int{1, 2}, 1, []int{2, 1}, 16818},
		{[]int{1, 2}, impl.MaxNum - 1, []int{1, 2}, 2147466851},
		{[]int{1, 2}, impl.MaxNum, []int{1, 2}, 11},
		{[]int{1, 2}, seedTo0, []int{2, 1}, 0},
		{[]int{1, 2, 3}, 0, []int{2, 1, 3}, 184888},
		{[]int{1, 2, 3}, 1, []int{3, 2, 1}, 282660137},
		{[]int{1, 2, 3}, 2, []int{3, 1, 2}, 565135386},
		{[]int{1, 2, 3}, 5, []int{1, 3, 2}, 1412561133},
		{[]int{1, 2, 3}, seedTo0, []int{3, 2, 1}, 11},
		{[]int{1, 2, 3, 4}, 1, []int{2, 1, 4, 3}, 435095406},
		{[]int{4, 4}, 1, []int{4, 4}, 16818},
		{[]int{4, 4, 5}, 0, []int{4, 4, 5}, 184888},
		{[]int{4, 4, 5}, 2, []int{5, 4, 4}, 565135386},
		{[]int{4, 4, 5}, 5, []int{4, 5, 4}, 1412561133},
		{[]int{-9, 0, math.MaxInt, math.MinInt, 0}, 2, []int{0, 0, math.MinInt, math.MaxInt, -9}, 1451614276},
		{upTo(12), 0, []int{1, 9, 8, 4, 6, 3, 5, 2, 7, 10, 0, 11}, 1743085428},
		{upTo(12), 1, []int{0, 10, 7, 2, 9, 3, 4, 5, 8, 11, 1, 6}, 419166221},
		{upTo(12), impl.MaxNum - 1, []int{1, 7, 9, 8, 2, 3, 6, 10, 5, 4, 0, 11}, 919520988},
		{upTo(12), impl.MaxNum, []int{1, 9, 8, 4, 6, 3, 5, 2, 7, 10, 0, 11}, 1743085428},
		{upTo(13), 1, nil, 0},
		{upTo(13), 0, nil, 0},
		{make([]int, 1000000), 1, nil, 0},
	} {
		what := fmt.Sprintf("Shuffle(%v, %d)", c.list[:min(len(c.list), 20)], c.seed)
		if got, last := impl.Shuffle(c.list, c.seed); !same(got, c.want) || last != c.last {
			t.Errorf("%s = %v, %d, not %v, %d", what, got, last, c.want, c.last)
		}
		if got, last := modelShuffle(c.list, c.seed); !same(got, c.want) || last != c.last {
			t.Errorf("the model: %s = %v, %d", what, got, last)
		}
	}
	for _, seed := range badSeeds {
		for _, size := range []int{0, 1, 2, 3, 12, 13} {
			if got, last := impl.Shuffle(upTo(size), seed); len(got) > 0 || last != 0 {
				t.Errorf("Shuffle of %d with %d: %v, %d", size, seed, got, last)
			}
		}
	}
}

// Promise 17: a shuffled list has the same numbers. Each of two or more draws one seed, and each order of few comes about.
func TestShuffledListsHaveTheSameNumbers(t *testing.T) {
	t.Parallel()
	r := rand.New(rand.NewSource(17))
	for size := range impl.MaxMembers + 1 {
		orders := make(map[string]int)
		for i := range 2000 {
			seed := r.Intn(impl.MaxNum + 1)
			list := upTo(size)
			if i%2 == 1 {
				for place := range list {
					list[place] = r.Intn(5) - 1
				}
			}
			got, last := impl.Shuffle(list, seed)
			want, drawn := modelShuffle(list, seed)
			if !same(got, want) || last != drawn {
				t.Fatalf("Shuffle(%v, %d) = %v, %d, not %v, %d", list, seed, got, last, want, drawn)
			}
			if !same(slices.Sorted(slices.Values(got)), slices.Sorted(slices.Values(list))) {
				t.Fatalf("Shuffle(%v, %d) = %v", list, seed, got)
			}
			for range size - 1 {
				seed = impl.Mix(seed)
			}
			if last != seed {
				t.Fatalf("%v: the last seed is %d, not %d", list, last, seed)
			}
			if i%2 == 0 {
				orders[fmt.Sprint(got)]++
			}
		}
		if all := []int{1, 1, 2, 6, 24, 120}; size < len(all) && len(orders) != all[size] {
			t.Errorf("%d orders of %d", len(orders), size)
		}
	}
}

type proberEdge struct {
	what   string
	ok     bool
	prober impl.Prober
}

func proberEdges() []proberEdge {
	edges := []proberEdge{
		{"zero", true, impl.Prober{}},
		{"no Order, but not nil", true, impl.Prober{Order: []int{}}},
		{"no Order, Next 1", false, roundOf(0, 1)},
		{"no Order, Next -1", false, roundOf(0, -1)},
		{"MaxMembers", true, roundOf(1, 3, upTo(12)...)},
		{"MaxMembers, all done", true, roundOf(1, 12, upTo(12)...)},
		{"MaxMembers, one more than done", false, roundOf(1, 13, upTo(12)...)},
		{"MaxMembers + 1", false, roundOf(1, 3, upTo(13)...)},
		{"one more, the first again", false, roundOf(1, 3, append(upTo(12), 0)...)},
		{"one more, with -1", false, roundOf(1, 3, append([]int{-1}, upTo(12)...)...)},
		{"far too many", false, roundOf(1, 3, make([]int, 1000000)...)},
		{"in another order", true, roundOf(1, 3, 11, 0, 10, 1, 9, 2, 8, 3, 7, 4, 6, 5)},
		{"a number twice, beside it", false, roundOf(1, 0, 4, 4)},
		{"a number twice, apart", false, roundOf(1, 0, 4, 2, 7, 4)},
		{"a number twice, at the end", false, roundOf(1, 0, 4, 2, 7, 7)},
		{"a number twice, behind Next", false, roundOf(1, 1, 4, 2, 7, 7)},
		{"a number twice, ahead of Next", false, roundOf(1, 2, 7, 7, 4)},
		{"0 twice", false, roundOf(1, 0, 0, 0)},
		{"-1 alone", false, roundOf(1, 0, -1)},
		{"-1 last", false, roundOf(1, 0, 3, -1)},
		{"MaxMembers as a number, alone", false, roundOf(1, 0, 12)},
		{"MaxMembers as a number, first", false, roundOf(1, 1, 12, 3)},
		{"the last number", true, roundOf(1, 0, 11)},
		{"numbers far below and above", false, roundOf(1, 0, math.MinInt, math.MaxInt)},
		{"Who and Wait of one that is idle", false, waits(roundOf(1, 1, 4, 2, 7), 0, 4, 1)},
	}
	for _, c := range []struct {
		what string
		good []int
		bad  []int
		set  func(p *impl.Prober, n int)
	}{
		{"Next", []int{0, 1, 2, 3}, []int{math.MinInt, -1, 4, math.MaxInt}, func(p *impl.Prober, n int) { p.Next = n }},
		{"Seed", []int{0, 1, impl.MaxNum - 1, impl.MaxNum}, badSeeds, func(p *impl.Prober, n int) { p.Seed = n }},
		{"Who while it waits", []int{0, 1, 4, 5, 10, 11}, []int{math.MinInt, -1, 12, math.MaxInt}, func(p *impl.Prober, n int) { p.State, p.Who = 1+p.State%2, n }},
		{"Wait of one asked", []int{0, 1, 2, 3, 4}, []int{math.MinInt, -1, 5, math.MaxInt}, func(p *impl.Prober, n int) { p.State, p.Wait = 1, n }},
		{"Wait for help", []int{0, 1, 2, 3, 4}, []int{math.MinInt, -1, 5, math.MaxInt}, func(p *impl.Prober, n int) { p.State, p.Wait = 2, n }},
		{"State without Who and Wait", []int{0, 1, 2}, []int{math.MinInt, -1, 3, math.MaxInt}, func(p *impl.Prober, n int) { p.State, p.Who, p.Wait = n, 0, 0 }},
		{"State with Who", []int{1, 2}, []int{math.MinInt, -1, 0, 3, math.MaxInt}, func(p *impl.Prober, n int) { p.State, p.Who, p.Wait = n, 3, 0 }},
		{"State with Wait", []int{1, 2}, []int{math.MinInt, -1, 0, 3, math.MaxInt}, func(p *impl.Prober, n int) { p.State, p.Who, p.Wait = n, 0, 1 }},
		{"Who of one that is idle", []int{0}, []int{-1, 1, 2, 11, 12}, func(p *impl.Prober, n int) { p.State, p.Who, p.Wait = 0, n, 0 }},
		{"Wait of one that is idle", []int{0}, []int{-1, 1, 4, 5}, func(p *impl.Prober, n int) { p.State, p.Who, p.Wait = 0, 0, n }},
	} {
		for i, n := range append(slices.Clone(c.good), c.bad...) {
			for _, base := range []impl.Prober{roundOf(9, 1, 4, 2, 7), waits(roundOf(9, 1, 4, 2, 7), 1, 4, 1), waits(roundOf(9, 3, 4, 2, 7), 2, 5, 3)} {
				c.set(&base, n)
				edges = append(edges, proberEdge{fmt.Sprintf("%s %d: %s", c.what, n, proberText(base)), i < len(c.good), base})
			}
		}
	}
	return edges
}

func TestProberOk(t *testing.T) {
	for _, edge := range proberEdges() {
		if impl.ProberOk(edge.prober) != edge.ok {
			t.Errorf("ProberOk, %s: not %v", edge.what, edge.ok)
		}
		if modelProberOk(edge.prober) != edge.ok {
			t.Errorf("the model, %s: not %v", edge.what, edge.ok)
		}
	}
}

func TestProberNew(t *testing.T) {
	for _, seed := range badSeeds {
		if got, ok := impl.ProberNew(seed); ok || !same(got, impl.Prober{}) {
			t.Errorf("ProberNew(%d) = %s, %v", seed, proberText(got), ok)
		}
	}
	for _, seed := range []int{0, 1, 12345, impl.MaxNum - 1, impl.MaxNum} {
		if got, ok := impl.ProberNew(seed); !ok || !same(got, impl.Prober{Seed: seed}) || !impl.ProberOk(got) {
			t.Errorf("ProberNew(%d) = %s, %v", seed, proberText(got), ok)
		}
	}
}

// mixedMembers are, to 4, in each State; the others are 0, 1, 6 and 7.
const mixedMembers = "0a3 1s5 2d7 3l9 4a2 6a1000 7s1000 8d1000 11l0"

type nextCase struct {
	what    string
	members string // of a table whose Self is 4
	have    impl.Prober
	want    impl.Prober
	who     int
}

func nextCases() []nextCase {
	return []nextCase{
		{"the first one", mixedMembers, roundOf(1, 0, 6, 1, 0, 7), roundOf(1, 1, 6, 1, 0, 7), 6},
		{"the second one, which is suspect", mixedMembers, roundOf(1, 1, 6, 1, 0, 7), roundOf(1, 2, 6, 1, 0, 7), 1},
		{"the third one, which is 0", mixedMembers, roundOf(1, 2, 6, 1, 0, 7), roundOf(1, 3, 6, 1, 0, 7), 0},
		{"the last of Order", mixedMembers, roundOf(1, 3, 6, 1, 0, 7), roundOf(1, 4, 6, 1, 0, 7), 7},
		{"the only one", mixedMembers, roundOf(1, 0, 7), roundOf(1, 1, 7), 7},
		{"a dead one is left aside", mixedMembers, roundOf(1, 0, 2, 6, 1), roundOf(1, 2, 2, 6, 1), 6},
		{"a dead one in its last life", mixedMembers, roundOf(1, 0, 8, 6, 1), roundOf(1, 2, 8, 6, 1), 6},
		{"one that left is left aside", mixedMembers, roundOf(1, 0, 3, 6, 1), roundOf(1, 2, 3, 6, 1), 6},
		{"Self is left aside", mixedMembers, roundOf(1, 0, 4, 6, 1), roundOf(1, 2, 4, 6, 1), 6},
		{"one that is no member is left aside", mixedMembers, roundOf(1, 0, 5, 6, 1), roundOf(1, 2, 5, 6, 1), 6},
		{"two are left aside", mixedMembers, roundOf(1, 1, 0, 10, 2, 6), roundOf(1, 4, 0, 10, 2, 6), 6},
		{"all are left aside but the last", mixedMembers, roundOf(1, 0, 2, 3, 4, 5, 8, 9, 10, 11, 0), roundOf(1, 9, 2, 3, 4, 5, 8, 9, 10, 11, 0), 0},
		{"nobody was in Order", mixedMembers, roundOf(1, 0), roundOf(435095406, 1, 1, 0, 7, 6), 1},
		{"all of Order are asked", mixedMembers, roundOf(1, 4, 6, 1, 0, 7), roundOf(435095406, 1, 1, 0, 7, 6), 1},
		{"who was asked is not asked again in the round", mixedMembers, roundOf(1, 1, 6, 2), roundOf(435095406, 1, 1, 0, 7, 6), 1},
		{"none in Order is one of the others", mixedMembers, roundOf(1, 0, 2, 3, 4, 5, 8, 9, 10, 11), roundOf(435095406, 1, 1, 0, 7, 6), 1},
		{"the last of Order is dead", mixedMembers, roundOf(1, 2, 6, 1, 8), roundOf(435095406, 1, 1, 0, 7, 6), 1},
		{"with the first seed", mixedMembers, roundOf(0, 2, 6, 1), roundOf(959928980, 1, 6, 0, 1, 7), 6},
		{"with the last seed", mixedMembers, roundOf(impl.MaxNum, 2, 6, 1), roundOf(959928980, 1, 6, 0, 1, 7), 6},
		{"three others", "2a0 4a0 5a0 9s0", roundOf(2, 0), roundOf(565135386, 1, 9, 2, 5), 9},
		{"two others", "2a0 4a0 9s0", roundOf(1, 0), roundOf(16818, 1, 9, 2), 9},
		{"two others, none asked of an older round", "2a0 4a0 9s0", roundOf(0, 2, 1, 3, 5), roundOf(11, 1, 2, 9), 2},
		{"one other: nothing is drawn", "4a0 9a0", roundOf(77, 0), roundOf(77, 1, 9), 9},
		{"one other, again", "4a0 9a0", roundOf(77, 1, 9), roundOf(77, 1, 9), 9},
		{"one other, once more with others asked", "4a0 9a0 10d0", roundOf(77, 2, 9, 10), roundOf(77, 1, 9), 9},
		{"one that came after the round began waits for the next one", "4a0 9a0 10a0", roundOf(77, 0, 9), roundOf(77, 1, 9), 9},
		{"a Self that left asks", "4l0 9a0", roundOf(77, 0, 4, 9), roundOf(77, 2, 4, 9), 9},
		{"a Self that is dead asks", "4d1000 9a0", roundOf(77, 0, 4, 9), roundOf(77, 2, 4, 9), 9},
		{"alone", "4a0", roundOf(9, 0), roundOf(9, 0), -1},
		{"alone, with an older round", "4a0", roundOf(9, 1, 6, 1), roundOf(9, 0), -1},
		{"alone, all asked", "4a0", roundOf(9, 2, 6, 1), roundOf(9, 0), -1},
		{"alone, with itself in Order", "4a0", roundOf(9, 0, 4), roundOf(9, 0), -1},
		{"alone, with the last seed", "4a0", roundOf(impl.MaxNum, 0, 6), roundOf(impl.MaxNum, 0), -1},
		{"all others are dead or left", "1d0 2l0 4a0 6d9", roundOf(9, 0, 1, 2, 6), roundOf(9, 0), -1},
		{"all others are dead or left, Self too", "1d0 2l0 4l0 6d9", roundOf(9, 0, 1, 2, 6), roundOf(9, 0), -1},
	}
}

func TestNextProbe(t *testing.T) {
	for _, c := range nextCases() {
		x := tableOf(4, c.members)
		// Whom it waits for plays no part, and stays.
		for _, waiting := range []impl.Prober{{}, {State: 1}, {State: 1, Who: 6, Wait: 1}, {State: 2, Who: 11, Wait: 4}} {
			have := waits(c.have, waiting.State, waiting.Who, waiting.Wait)
			want := waits(c.want, waiting.State, waiting.Who, waiting.Wait)
			if got, who := impl.NextProbe(have, x); !same(got, want) || who != c.who {
				t.Errorf("%s: %s became %s, %d, not %s, %d", c.what, proberText(have), proberText(got), who, proberText(want), c.who)
			}
		}
	}
}

func TestHelpers(t *testing.T) {
	round := []int{6, 2, 1}
	for _, c := range []struct {
		what    string
		members string // of a table whose Self is 4
		seed    int
		state   int
		who     int
		all     []int // who helps, of three that are wanted
		last    int
	}{
		{"Who is one of the others", mixedMembers, 1, 1, 6, []int{7, 1, 0}, 282660137},
		{"Who is one of the others, helped", mixedMembers, 1, 2, 6, []int{7, 1, 0}, 282660137},
		{"Who is a suspect", mixedMembers, 2, 2, 1, []int{7, 0, 6}, 565135386},
		{"Who is 0", mixedMembers, 5, 2, 0, []int{1, 7, 6}, 1412561133},
		{"idle, so that Who is 0", mixedMembers, 5, 0, 0, []int{1, 7, 6}, 1412561133},
		{"Who is dead", mixedMembers, 1, 2, 2, []int{1, 0, 7}, 435095406},
		{"Who has left", mixedMembers, 1, 2, 3, []int{1, 0, 7}, 435095406},
		{"Who is Self", mixedMembers, 1, 2, 4, []int{1, 0, 7}, 435095406},
		{"Who is no member", mixedMembers, 1, 2, 5, []int{1, 0, 7}, 435095406},
		{"with the first seed", mixedMembers, 0, 2, 7, []int{1, 0, 6}, 184888},
		{"with the last seed", mixedMembers, impl.MaxNum, 2, 7, []int{1, 0, 6}, 184888},
		{"two others besides Who", "2a0 4a0 5a0 9s0", 1, 2, 5, []int{9, 2}, 16818},
		{"two others, without Who", "2a0 4a0 9s0", 1, 2, 5, []int{9, 2}, 16818},
		{"one other besides Who", "4a0 5a0 9s0", 77, 2, 5, []int{9}, 77},
		{"one other, without Who", "4a0 9s0", 77, 2, 5, []int{9}, 77},
		{"Who is the only other", "4a0 5a0", 77, 2, 5, nil, 77},
		{"alone", "4a0", 77, 2, 5, nil, 77},
		{"all others are dead or left", "1d0 2l0 4l0 6d9", 77, 1, 5, nil, 77},
		{"a Self that left", "2a0 4l0 9s0", 1, 2, 5, []int{9, 2}, 16818},
	} {
		x := tableOf(4, c.members)
		have := waits(roundOf(c.seed, 1, round...), c.state, c.who, c.state)
		want := waits(roundOf(c.last, 1, round...), c.state, c.who, c.state)
		for k := range impl.MaxHelpers + 1 {
			got, helpers := impl.Helpers(have, x, k)
			if !same(got, want) || !same(helpers, c.all[:min(k, len(c.all))]) {
				t.Errorf("%s, %d wanted: %s and %v, not %s and of %v", c.what, k, proberText(got), helpers, proberText(want), c.all)
			}
		}
		for _, k := range []int{math.MinInt, -2, -1, impl.MaxHelpers + 1, impl.MaxHelpers + 2, impl.MaxMembers, math.MaxInt} {
			if got, helpers := impl.Helpers(have, x, k); !same(got, impl.Prober{}) || len(helpers) > 0 {
				t.Errorf("%s, %d wanted: %s and %v", c.what, k, proberText(got), helpers)
			}
		}
	}
}

func TestProbeTickOfOneThatIsIdle(t *testing.T) {
	for _, c := range nextCases() {
		want, what, told := waits(c.want, impl.PbDirect, c.who, 0), 1, c.who
		if c.who < 0 {
			want, what, told = c.want, 0, 0
		}
		got, is, who := impl.ProbeTick(c.have, tableOf(4, c.members))
		if !same(got, want) || is != what || who != told {
			t.Errorf("%s: %s became %s and told %d, %d", c.what, proberText(c.have), proberText(got), is, who)
		}
	}
}

func TestProbeTickOfOneThatWaits(t *testing.T) {
	type tick struct{ state, wait, what int } // behind it; what it tells
	for state, ticks := range map[int][]tick{
		impl.PbDirect: {{1, 1, 0}, {2, 0, 2}, {2, 0, 2}, {2, 0, 2}, {2, 0, 2}},
		impl.PbHelped: {{2, 1, 0}, {2, 2, 0}, {2, 3, 0}, {0, 0, 3}, {0, 0, 3}},
	} {
		for wait, want := range ticks {
			// With others and without, Who being one of them or not: all that plays no part, and nothing is drawn.
			for _, members := range []string{mixedMembers, "4a0 6a0", "4a0 6d0", "4a0 6l0", "4a0", "0a0 4l3"} {
				for _, who := range []int{6, 0, 4, 5, 11} {
					for _, round := range []impl.Prober{roundOf(9, 0), roundOf(9, 1, 6, 1), roundOf(9, 2, 2, 8), roundOf(impl.MaxNum, 0, upTo(12)...)} {
						have := waits(round, state, who, wait)
						behind, told := waits(round, want.state, who, want.wait), 0
						if want.what > 0 {
							told = who
						}
						if want.state == impl.PbIdle {
							behind.Who = 0
						}
						got, what, id := impl.ProbeTick(have, tableOf(4, members))
						if !same(got, behind) || what != want.what || id != told {
							t.Errorf("%s with %s became %s and told %d, %d", proberText(have), members, proberText(got), what, id)
						}
					}
				}
			}
		}
	}
}

func TestProbeAck(t *testing.T) {
	ids := []int{math.MinInt, -1, 0, 1, 5, 6, 7, 11, 12, math.MaxInt}
	for _, round := range []impl.Prober{roundOf(9, 0), roundOf(9, 1, 6, 1), roundOf(impl.MaxNum, 12, upTo(12)...)} {
		for _, id := range ids {
			// Of one that is idle Who is 0, but nobody was asked.
			if got, is := impl.ProbeAck(round, id); is || !same(got, round) {
				t.Errorf("%s, idle, heard %d: %s, %v", proberText(round), id, proberText(got), is)
			}
			for _, state := range []int{impl.PbDirect, impl.PbHelped} {
				for _, who := range []int{0, 6, 11} {
					for wait := range impl.PrHelp + 1 {
						have := waits(round, state, who, wait)
						want := have
						if id == who {
							want = round
						}
						if got, is := impl.ProbeAck(have, id); is != (id == who) || !same(got, want) {
							t.Errorf("%s heard %d: %s, %v", proberText(have), id, proberText(got), is)
						}
					}
				}
			}
		}
	}
}

// allProbed answers what each function tells of a prober and a table.
func allProbed(p impl.Prober, x impl.Table, k, id int) []any {
	next, what, who := impl.ProbeTick(p, x)
	return slices.Concat(
		[]any{impl.ProberOk(p), next, what, who},
		two(impl.NextProbe(p, x)), two(impl.Helpers(p, x, k)), two(impl.ProbeAck(p, id)),
	)
}

func modelProbed(p impl.Prober, x impl.Table, k, id int) []any {
	next, what, who := modelProbeTick(p, x)
	return slices.Concat(
		[]any{modelProberOk(p), next, what, who},
		two(modelNextProbe(p, x)), two(modelHelpers(p, x, k)), two(modelProbeAck(p, id)),
	)
}

func mustProbeAs(t *testing.T, p impl.Prober, x impl.Table, k, id int) {
	t.Helper()
	if got, want := allProbed(p, x, k, id), modelProbed(p, x, k, id); !same(got, want) {
		t.Fatalf("%s, %s, %d, %d:\n%v, not\n%v", proberText(p), tableText(x), k, id, got, want)
	}
}

// Each function at each prober of the list with each table of the list, good or bad.
func TestProbersAtEdges(t *testing.T) {
	t.Parallel()
	for i, edge := range proberEdges() {
		for j, table := range tableEdges() {
			mustProbeAs(t, edge.prober, table.table, (i+j)%6-1, edge.prober.Who)
		}
	}
}

func TestBadProbersAndTablesAreRefused(t *testing.T) {
	good := tableOf(4, mixedMembers)
	mustRefuse := func(what string, p impl.Prober, x impl.Table) {
		t.Helper()
		next, told, whom := impl.ProbeTick(p, x)
		if got := []any{next, told, whom}; !same(got, []any{impl.Prober{}, 0, 0}) {
			t.Errorf("ProbeTick, %s: %v", what, got)
		}
		if got := two(impl.NextProbe(p, x)); !same(got, []any{impl.Prober{}, -1}) {
			t.Errorf("NextProbe, %s: %v", what, got)
		}
		for k := -1; k <= impl.MaxHelpers+1; k++ {
			if got := two(impl.Helpers(p, x, k)); !same(got, []any{impl.Prober{}, []int{}}) {
				t.Errorf("Helpers, %s: %v", what, got)
			}
		}
	}
	for _, edge := range proberEdges() {
		if edge.ok {
			continue
		}
		mustRefuse(edge.what, edge.prober, good)
		mustRefuse(edge.what, edge.prober, tableOf(4, "4a0"))
		mustRefuse(edge.what, edge.prober, impl.Table{})
		for _, id := range []int{-1, 0, 4, 6, edge.prober.Who} {
			if got, is := impl.ProbeAck(edge.prober, id); is || !same(got, impl.Prober{}) {
				t.Errorf("ProbeAck, %s: %s, %v", edge.what, proberText(got), is)
			}
		}
	}
	for _, edge := range tableEdges() {
		if edge.ok {
			continue
		}
		for _, p := range []impl.Prober{{}, roundOf(9, 1, 6, 1), waits(roundOf(9, 1, 6, 1), 1, 6, 1), waits(roundOf(9, 1, 6, 1), 2, 6, 3)} {
			mustRefuse(edge.what, p, edge.table)
		}
	}
}

// arranged answers all lists of unlike numbers below n, the empty one first.
func arranged(n int) [][]int {
	lists := [][]int{nil}
	for i := 0; i < len(lists); i++ {
		for id := range n {
			if !slices.Contains(lists[i], id) {
				lists = append(lists, append(slices.Clone(lists[i]), id))
			}
		}
	}
	return lists
}

// All rounds of few, at each place of them, with all small tables.
func TestAllSmallRounds(t *testing.T) {
	t.Parallel()
	tables := smallTables(3, 0)
	orders := arranged(4)
	// A Self is alive or left; each other one is in each State, or not there. 1 + 4 + 12 + 24 + 24 lists.
	if len(tables) != 3*2*5*5 || len(orders) != 65 {
		t.Fatalf("%d tables, %d orders", len(tables), len(orders))
	}
	for i, x := range tables {
		for j, order := range orders {
			for next := range len(order) + 1 {
				p := roundOf([]int{0, 1, 2, 5, impl.MaxNum}[(i+j)%5], next, order...)
				mustProbeAs(t, p, x, (i+next)%4, 0)
				p = waits(p, 1+(i+j+next)%2, (j+next)%4, i%5)
				mustProbeAs(t, p, x, 3, j%4)
			}
		}
	}
}

// mustAskEachOnce asks as often as there are others, and fails if that is not each of them; it answers the prober behind that.
func mustAskEachOnce(t *testing.T, p impl.Prober, x impl.Table, next func(impl.Prober) (impl.Prober, int)) impl.Prober {
	t.Helper()
	others := modelOthers(x, -1)
	var asked []int
	seed := p.Seed
	for i := range others {
		q, who := next(p)
		if !impl.ProberOk(q) || q.Next != i+1 || len(q.Order) != len(others) {
			t.Fatalf("%s with %s became %s", proberText(p), tableText(x), proberText(q))
		}
		if i > 0 && q.Seed != seed {
			t.Fatalf("%s with %s: drawn amid a round", proberText(p), tableText(x))
		}
		asked, p, seed = append(asked, who), q, q.Seed
	}
	if slices.Sort(asked); !same(asked, others) {
		t.Fatalf("%s with %s: asked %v, not %v", proberText(p), tableText(x), asked, others)
	}
	return p
}

// drawCircle draws a table of some members in any State.
func drawCircle(r *rand.Rand) impl.Table {
	x := impl.Table{Self: r.Intn(impl.MaxMembers)}
	dead := r.Intn(4)
	for id := range impl.MaxMembers {
		m := impl.Member{Id: id, State: r.Intn(2), Life: r.Intn(3)}
		if r.Intn(4) < dead {
			m.State = r.Intn(4)
		}
		if id == x.Self && m.State != impl.MbLeft {
			m.State = impl.MbAlive
		}
		if id == x.Self || r.Intn(6) > 0 {
			x.Members = append(x.Members, m)
		}
	}
	return x
}

// Promise 17: in a round of a new prober each other one that lives is asked once; in the rounds behind it, too.
func TestEachOtherOneIsAskedOnceARound(t *testing.T) {
	t.Parallel()
	r := rand.New(rand.NewSource(1700))
	sizes := make(map[int]int)
	for i := range 600 {
		x := drawCircle(r)
		if i < 4*impl.MaxMembers {
			x = allAlive(r.Intn(1+i/4), 1+i/4)
		}
		sizes[len(modelOthers(x, -1))]++
		seed := []int{0, impl.MaxNum, seedTo0, r.Intn(impl.MaxNum + 1)}[i%4]
		p, _ := impl.ProberNew(seed)
		byTicks := p
		for range 4 {
			p = mustAskEachOnce(t, p, x, func(p impl.Prober) (impl.Prober, int) { return impl.NextProbe(p, x) })
			byTicks = mustAskEachOnce(t, byTicks, x, func(p impl.Prober) (impl.Prober, int) {
				return askAndWait(t, p, x, r.Intn(impl.PrWait+impl.PrHelp+1))
			})
			if !same(p, byTicks) {
				t.Fatalf("%s by NextProbe, %s by ProbeTick", proberText(p), proberText(byTicks))
			}
		}
	}
	if len(sizes) != impl.MaxMembers {
		t.Errorf("circles with %d kinds of others", len(sizes))
	}
}

// askAndWait ticks a prober that is idle till it asks, and on till it is answered, so many moments later, or gives up.
func askAndWait(t *testing.T, p impl.Prober, x impl.Table, answered int) (impl.Prober, int) {
	t.Helper()
	p, what, who := impl.ProbeTick(p, x)
	if what != 1 || p.State != impl.PbDirect || p.Who != who {
		t.Fatalf("%s told %d, %d", proberText(p), what, who)
	}
	for moment := range impl.PrWait + impl.PrHelp {
		if moment == answered {
			ended, is := impl.ProbeAck(p, who)
			if !is || ended.State != impl.PbIdle {
				t.Fatalf("%s heard %d: %s, %v", proberText(p), who, proberText(ended), is)
			}
			return ended, who
		}
		next, what, whom := impl.ProbeTick(p, x)
		want, about := map[int]int{impl.PrWait - 1: 2, impl.PrWait + impl.PrHelp - 1: 3}[moment], who
		if want == 0 {
			about = 0
		}
		if what != want || whom != about {
			t.Fatalf("%s told %d, %d at moment %d", proberText(p), what, whom, moment+1)
		}
		p = next
	}
	return p, who
}

// Promise 17: who does not answer is told within PrWait + PrHelp moments, however the table turns and whoever else is heard.
func TestWhoDoesNotAnswerIsTold(t *testing.T) {
	t.Parallel()
	r := rand.New(rand.NewSource(1701))
	for range 500 {
		p := waits(roundOf(r.Intn(impl.MaxNum+1), r.Intn(4), r.Perm(impl.MaxMembers)[:3+r.Intn(10)]...), 1+r.Intn(2), r.Intn(12), r.Intn(5))
		who, told := p.Who, 0
		for moment := 1; told != 3; moment++ {
			if moment > impl.PrWait+impl.PrHelp {
				t.Fatalf("%s is not told of %d", proberText(p), who)
			}
			heard, is := impl.ProbeAck(p, (who+1+r.Intn(11))%12)
			if is || !same(heard, p) {
				t.Fatalf("%s heard another one", proberText(p))
			}
			next, what, whom := impl.ProbeTick(heard, drawCircle(r))
			if what == 1 || what > 0 && whom != who || !impl.ProberOk(next) {
				t.Fatalf("%s told %d, %d", proberText(p), what, whom)
			}
			p, told = next, what
		}
		if p.State != impl.PbIdle {
			t.Fatalf("%s goes on", proberText(p))
		}
	}
}

// Drawn turns of probers in circles that turn, held against the model at each.
func TestDrawnTurnsOfProbers(t *testing.T) {
	t.Parallel()
	told := make(map[int]int)
	rounds, answered, helped := 0, 0, 0
	for seed := range int64(60) {
		r := rand.New(rand.NewSource(1800 + seed))
		p, _ := impl.ProberNew(r.Intn(impl.MaxNum + 1))
		x := drawCircle(r)
		for range 300 {
			if r.Intn(12) == 0 {
				x = drawCircle(r)
			}
			id, k := r.Intn(impl.MaxMembers), r.Intn(impl.MaxHelpers+1)
			if r.Intn(3) == 0 {
				id = p.Who
			}
			mustProbeAs(t, p, x, k, id)
			was := p
			switch kind := r.Intn(10); {
			case kind < 6:
				next, what, _ := impl.ProbeTick(p, x)
				p = next
				told[what]++
			case kind < 7:
				next, who := impl.NextProbe(p, x)
				p = next
				if who >= 0 && p.Next == 1 {
					rounds++
				}
			case kind < 8:
				next, helpers := impl.Helpers(p, x, k)
				p = next
				helped += len(helpers)
			default:
				next, is := impl.ProbeAck(p, id)
				if p = next; is {
					answered++
				}
			}
			if !impl.ProberOk(p) {
				t.Fatalf("%s became %s", proberText(was), proberText(p))
			}
		}
	}
	if len(told) != 4 || told[3] < 100 || rounds < 100 || answered < 500 || helped < 500 {
		t.Errorf("told %v, %d rounds, %d answered, %d helped", told, rounds, answered, helped)
	}
}

func TestProbersInMemory(t *testing.T) {
	tables := []impl.Table{{}, tableOf(4, "4a0"), tableOf(4, "4a0 6a0"), tableOf(4, mixedMembers), allAlive(3, 12), allAlive(3, 13), tableOf(4, "4a0 2a0")}
	probers := []impl.Prober{
		{}, {Order: []int{}}, roundOf(1, 0, 6, 1, 0, 7), roundOf(1, 4, 6, 1, 0, 7), roundOf(1, 0, 2, 3), roundOf(1, 11, upTo(12)...), roundOf(1, 12, upTo(12)...), roundOf(1, 0, upTo(13)...),
		waits(roundOf(1, 1, 6, 1), 1, 6, 0), waits(roundOf(1, 1, 6, 1), 1, 6, 1), waits(roundOf(1, 1, 6, 1), 2, 6, 0), waits(roundOf(1, 1, 6, 1), 2, 6, 3), waits(roundOf(1, 1, 6, 1), 0, 6, 3),
	}
	for _, one := range probers {
		for _, other := range tables {
			p, x := withRoom(one), withRoom(other)
			what := fmt.Sprintf("%s, %s", proberText(p), tableText(x))
			mustKeep(t, "NextProbe: "+what, []any{p, x}, func() []any { return two(impl.NextProbe(p, x)) })
			for k := -1; k <= 4; k++ {
				mustKeep(t, fmt.Sprintf("Helpers: %s, %d", what, k), []any{p, x}, func() []any { return two(impl.Helpers(p, x, k)) })
			}
			mustKeep(t, "ProbeTick: "+what, []any{p, x}, func() []any {
				next, told, who := impl.ProbeTick(p, x)
				return []any{next, told, who}
			})
			for _, id := range []int{0, 6, 7} {
				mustKeep(t, fmt.Sprintf("ProbeAck: %s, %d", what, id), []any{p}, func() []any { return two(impl.ProbeAck(p, id)) })
			}
			mustKeep(t, "ProberOk: "+what, []any{p}, func() []any { return []any{impl.ProberOk(p)} })
			if !same(allProbed(p, x, 2, 6), modelProbed(one, other, 2, 6)) {
				t.Errorf("%s: told otherwise with room behind lists", what)
			}
		}
	}
	for size := range 14 {
		for _, seed := range []int{-1, 0, 1, impl.MaxNum} {
			list := withRoom(upTo(size))
			mustKeep(t, fmt.Sprintf("Shuffle of %d with %d", size, seed), []any{list}, func() []any { return two(impl.Shuffle(list, seed)) })
		}
	}
}

// Who helps lies in memory that ends with what is told: those that were not chosen do not stand behind them.
func TestHelpersHandOutNoMore(t *testing.T) {
	for k := range impl.MaxHelpers + 1 {
		_, helpers := impl.Helpers(waits(roundOf(1, 0), 2, 5, 0), allAlive(3, 12), k)
		for _, id := range helpers[len(helpers):cap(helpers)] {
			if id != 0 {
				t.Errorf("%d wanted: %v, and behind them %v", k, helpers, helpers[len(helpers):cap(helpers)])
			}
		}
	}
}

// Nothing is kept: an earlier answer stays as it was when others are asked for and written over.
func TestNothingOfProbersIsKept(t *testing.T) {
	x := tableOf(4, mixedMembers)
	p := roundOf(1, 2, 6, 1)
	first, who := impl.NextProbe(p, x)
	_, helpers := impl.Helpers(p, x, 3)
	list, _ := impl.Shuffle([]int{1, 2, 3}, 1)
	again, _ := impl.NextProbe(p, x)
	again.Order[0], again.Order[3] = 77, 77
	_, more := impl.Helpers(p, x, 3)
	more[0] = 77
	other, _ := impl.Shuffle([]int{1, 2, 3}, 1)
	other[0] = 77
	acked, _ := impl.ProbeAck(waits(first, 1, 6, 0), 6)
	acked.Order[1] = 77
	ticked, _, _ := impl.ProbeTick(first, x)
	ticked.Order[2] = 77
	third, whom := impl.NextProbe(p, x)
	if want := roundOf(435095406, 1, 1, 0, 7, 6); !same(first, want) || !same(third, want) || who != 1 || whom != 1 {
		t.Errorf("%s and %d, %s and %d", proberText(first), who, proberText(third), whom)
	}
	if !same(helpers, []int{7, 6, 1}) || !same(list, []int{3, 2, 1}) || !same(p, roundOf(1, 2, 6, 1)) {
		t.Errorf("%v, %v, %s", helpers, list, proberText(p))
	}
}
