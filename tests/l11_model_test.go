package tests

import (
	"fmt"
	"math/big"
	"slices"

	"loop.example/g00365/impl"
)

// Probes told a second time: seeds by numbers of any size, lists shuffled from their end by taking one out, probers case by case.

func modelMix(seed int) int {
	if !isIn(seed, 0, 2147483647) {
		return 0
	}
	n := new(big.Int).Mul(big.NewInt(int64(seed)), big.NewInt(16807))
	n.Add(n, big.NewInt(11))
	return int(n.Mod(n, big.NewInt(2147483647)).Int64())
}

func modelShuffle(l []int, seed int) ([]int, int) {
	if len(l) > 12 || !isIn(seed, 0, 2147483647) {
		return nil, 0
	}
	if len(l) < 2 {
		return l, seed
	}
	seed = modelMix(seed)
	last, place := len(l)-1, seed%len(l)
	rest := slices.Clone(l[:last])
	if place < last {
		rest[place] = l[last]
	}
	rest, seed = modelShuffle(rest, seed)
	return append(slices.Clone(rest), l[place]), seed
}

func modelProberOk(p impl.Prober) bool {
	for i, id := range p.Order {
		if i > 11 || !isIn(id, 0, 11) || slices.Index(p.Order, id) < i {
			return false
		}
	}
	if !isIn(p.Next, 0, len(p.Order)) || !isIn(p.Seed, 0, 2147483647) {
		return false
	}
	switch p.State {
	case 0:
		return p.Who == 0 && p.Wait == 0
	case 1, 2:
		return isIn(p.Who, 0, 11) && isIn(p.Wait, 0, 4)
	}
	return false
}

func modelProberNew(seed int) (impl.Prober, bool) {
	p := impl.Prober{Seed: seed}
	if !modelProberOk(p) {
		return impl.Prober{}, false
	}
	return p, true
}

// modelOthers answers those that live but for Self and for gone.
func modelOthers(t impl.Table, gone int) []int {
	var others []int
	for _, id := range modelLive(t) {
		if id != t.Self && id != gone {
			others = append(others, id)
		}
	}
	return others
}

func modelNextProbe(p impl.Prober, t impl.Table) (impl.Prober, int) {
	if !modelProberOk(p) || !modelTableOk(t) {
		return impl.Prober{}, -1
	}
	others := modelOthers(t, -1)
	for place, id := range p.Order {
		if place >= p.Next && slices.Contains(others, id) {
			p.Next = place + 1
			return p, id
		}
	}
	p.Order, p.Seed = modelShuffle(others, p.Seed)
	if len(others) == 0 {
		p.Next = 0
		return p, -1
	}
	p.Next = 1
	return p, p.Order[0]
}

func modelHelpers(p impl.Prober, t impl.Table, k int) (impl.Prober, []int) {
	if !modelProberOk(p) || !modelTableOk(t) || !isIn(k, 0, 3) {
		return impl.Prober{}, nil
	}
	var all, helpers []int
	all, p.Seed = modelShuffle(modelOthers(t, p.Who), p.Seed)
	for i, id := range all {
		if i < k {
			helpers = append(helpers, id)
		}
	}
	return p, helpers
}

func modelProbeTick(p impl.Prober, t impl.Table) (impl.Prober, int, int) {
	if !modelProberOk(p) || !modelTableOk(t) {
		return impl.Prober{}, 0, 0
	}
	switch {
	case p.State == 0:
		next, id := modelNextProbe(p, t)
		if id < 0 {
			return next, 0, 0
		}
		next.State, next.Who, next.Wait = 1, id, 0
		return next, 1, id
	case p.State == 1 && p.Wait < 1, p.State == 2 && p.Wait < 3:
		p.Wait++
		return p, 0, 0
	case p.State == 1:
		p.State, p.Wait = 2, 0
		return p, 2, p.Who
	}
	return impl.Prober{Order: p.Order, Next: p.Next, Seed: p.Seed}, 3, p.Who
}

func modelProbeAck(p impl.Prober, id int) (impl.Prober, bool) {
	if !modelProberOk(p) {
		return impl.Prober{}, false
	}
	if p.State == 0 || p.Who != id {
		return p, false
	}
	return impl.Prober{Order: p.Order, Next: p.Next, Seed: p.Seed}, true
}

// proberText writes a prober down: Order with a stroke where Next is, Seed, and what it waits for.
func proberText(p impl.Prober) string {
	var order string
	for i, id := range p.Order[:min(len(p.Order), 20)] {
		if i == p.Next {
			order += "| "
		}
		order += fmt.Sprint(id, " ")
	}
	return fmt.Sprintf("[%s] Next %d Seed %d State %d Who %d Wait %d", order, p.Next, p.Seed, p.State, p.Who, p.Wait)
}

// roundOf answers a prober that asks nobody.
func roundOf(seed, next int, order ...int) impl.Prober {
	return impl.Prober{Order: order, Next: next, Seed: seed}
}

// waits answers p that asked who.
func waits(p impl.Prober, state, who, wait int) impl.Prober {
	p.State, p.Who, p.Wait = state, who, wait
	return p
}
