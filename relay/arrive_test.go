package relay_test

import (
	"cmp"
	"maps"
	"math/rand/v2"
	"slices"
	"strconv"
	"strings"
	"testing"

	"nuncio/api"
	"nuncio/relay"
)

// order is one in which blocks and relays go by turns.
type order func(t *testing.T, r *rand.Rand, w *relay.World)

func orders() map[string]order {
	wait := func(r *rand.Rand) int { return pick(r, 1, 1, 2, 10, 1000) }
	return map[string]order{
		"each block is carried at once": func(t *testing.T, r *rand.Rand, w *relay.World) {
			for i := range 2 {
				made(t, w, i, wait(r))
				w.Relay(1 - i)
			}
		},
		"each relay is ahead of the block": func(t *testing.T, r *rand.Rand, w *relay.World) {
			for i := range 2 {
				w.Relay(i)
				made(t, w, i, wait(r))
			}
		},
		"both blocks, then both relays": func(t *testing.T, r *rand.Rand, w *relay.World) {
			for i := range 2 {
				made(t, w, i, wait(r))
			}
			for i := range 2 {
				w.Relay(i)
			}
		},
		"one chain is slow": func(t *testing.T, r *rand.Rand, w *relay.World) {
			for range 3 {
				made(t, w, 0, wait(r))
				w.Relay(1)
				w.Relay(0)
			}
			made(t, w, 1, wait(r))
		},
		"whatever comes": func(t *testing.T, r *rand.Rand, w *relay.World) {
			for _, k := range r.Perm(4) {
				if k < 2 {
					made(t, w, k, wait(r))
				} else {
					w.Relay(k - 2)
				}
			}
		},
	}
}

// settle goes by turns till nothing is open, which takes no more turns than most.
func settle(t *testing.T, r *rand.Rand, w *relay.World, by order, most int) {
	t.Helper()
	for range most {
		if len(open(w, 0))+len(open(w, 1)) == 0 {
			return
		}
		by(t, r, w)
		nothingFromNothing(t, w)
	}
	for i := range 2 {
		if l := open(w, i); len(l) > 0 {
			t.Fatalf("behind %d turns chain %d has %d open, %v first", most, i, len(l), l[0])
		}
	}
}

// holding is of an account at a chain.
type holding struct {
	chain          int
	denom, account string
}

// owed is what all have when each packet that was answered `ok` is where it should be, and all others are back.
func owed(w *relay.World) map[holding]uint64 {
	all := map[holding]uint64{{0, "coin", "ann"}: 1000, {1, "gold", "bob"}: 1000}
	for i, name := range []string{"a", "b"} {
		other := []string{"b/", "a/"}[i]
		for _, p := range w.Chain(i).App().Sent() {
			if answered(w, i, p.Seq) != "ok" {
				continue
			}
			x := transferOf(p)
			all[holding{i, x.denom, x.from}] -= x.n
			if home, is := strings.CutPrefix(x.denom, other); is {
				all[holding{1 - i, home, "escrow"}] -= x.n
				all[holding{1 - i, home, x.to}] += x.n
				continue
			}
			all[holding{i, x.denom, "escrow"}] += x.n
			all[holding{1 - i, name + "/" + x.denom, x.to}] += x.n
		}
	}
	return all
}

// paid: both banks have just what is owed.
func paid(t *testing.T, w *relay.World) {
	t.Helper()
	all := owed(w)
	for i := range 2 {
		var want []api.Entry
		for _, h := range slices.SortedFunc(maps.Keys(all), func(x, y holding) int {
			return cmp.Compare(x.denom+"/"+x.account, y.denom+"/"+y.account)
		}) {
			if h.chain == i && all[h] != 0 {
				want = append(want, api.Entry{Key: "bank/" + h.denom + "/" + h.account, Value: strconv.FormatUint(all[h], 10)})
			}
		}
		if got := w.Chain(i).App().Bank().Entries(); !slices.Equal(got, want) {
			t.Fatalf("at chain %d there are %v, not %v", i, got, want)
		}
	}
}

// ends tells how the packets of a world were closed, by hand of what the other chain has: none is received and over.
func ends(w *relay.World, told map[string]int) {
	for i := range 2 {
		for _, p := range w.Chain(i).App().Sent() {
			told["end "+answered(w, i, p.Seq)]++
		}
	}
}

// anySends are some at the i-th chain, there and back, with near and far ends, to such as can't have it too.
func anySends(t *testing.T, r *rand.Rand, w *relay.World, i int) {
	t.Helper()
	for range r.IntN(9) {
		to := pick(r, "ann", "bob", "cid", "cid", "?", "escrow", "")
		denom := pick(r, []string{"coin", "gold"}[i], []string{"b/gold", "a/coin"}[i])
		timeout := w.Chain(i).App().Known() + pick(r, 1, 2, 3, 4, 6, 9, 30, 1<<30)
		w.Submit(i, send(pick(r, "ann", "bob", "cid"), to, denom, 1+r.Uint64N(40), timeout))
	}
}

// TestArrives: each packet is closed, in whatever order blocks and relays go by turns, and then all is where it should be.
func TestArrives(t *testing.T) { // P23.2, P23.3, T5, T7
	r := random()
	told := map[string]int{}
	for name, by := range orders() {
		for range 12 {
			w := world(t, 1+r.IntN(8), 1+r.IntN(8))
			for range 8 + r.IntN(20) {
				for i := range 2 {
					anySends(t, r, w, i)
					if r.IntN(3) > 0 {
						made(t, w, i, 1+r.IntN(50))
					}
					if r.IntN(3) > 0 {
						w.Relay(i)
					}
				}
				nothingFromNothing(t, w)
			}
			settle(t, r, w, by, 80)
			paid(t, w)
			ends(w, told)
			told[name]++
		}
	}
	for what, n := range map[string]int{"end ok": 500, "end no": 200, "end ": 200} {
		if told[what] < n {
			t.Errorf("%q was seen %d times, not %d", what, told[what], n)
		}
	}
}

// TestArrivesAtOnce: how many blocks and relays one packet takes, each way.
func TestArrivesAtOnce(t *testing.T) { // P23.2
	for i := range 2 {
		w := world(t, 8, 8)
		own, denom := []string{"ann", "bob"}[i], []string{"coin", "gold"}[i]
		abroad := []string{"a/", "b/"}[i] + denom
		submit(t, w, i, send(own, "cid", denom, 5, 9))
		made(t, w, i, 1)
		carried(t, w, 1-i, 2)
		made(t, w, 1-i, 1)
		balances(t, w, 1-i, "cid", abroad, 5)
		carried(t, w, i, 2)
		submit(t, w, 1-i, send("cid", "dan", abroad, 2, 9))
		made(t, w, 1-i, 1)
		made(t, w, i, 1)
		if len(open(w, i)) != 0 {
			t.Error("it is not closed")
		}
		carried(t, w, i, 2)
		made(t, w, i, 1)
		balances(t, w, i, "dan", denom, 2)
		balances(t, w, i, "escrow", denom, 3)
		carried(t, w, 1-i, 2)
		made(t, w, 1-i, 1)
		if len(open(w, 1-i)) != 0 {
			t.Error("it is not closed")
		}
		balances(t, w, 1-i, "cid", abroad, 3)
		paid(t, w)
	}
}

// TestMany: more packets than one plan has arrive plan by plan.
func TestMany(t *testing.T) { // P23.2
	w := world(t, 2, 2)
	for range 5 {
		for i := range 2 {
			done(t, w, i, slices.Repeat([]api.Tx{sends(i, 2, 1000)}, 32)...)
		}
	}
	var left []int
	for len(open(w, 0))+len(open(w, 1)) > 0 {
		turn(t, w)
		left = append(left, len(open(w, 0))+len(open(w, 1)))
		if len(left) > 20 {
			t.Fatalf("left are %v", left)
		}
	}
	paid(t, w)
	balances(t, w, 0, "escrow", "coin", 320)
	balances(t, w, 1, "escrow", "gold", 320)
	for i := range 2 {
		for h := 12; h <= w.Chain(i).Height(); h++ {
			for _, e := range w.Chain(i).Results(h) {
				expect(t, "a planned transaction", e, api.OK)
			}
		}
	}
}

// TestLate: a packet that nobody carries in time comes back, by whoever carries that.
func TestLate(t *testing.T) { // P23.2, T5
	for i := range 2 {
		for timeout := 2; timeout < 6; timeout++ {
			w := world(t, 2, 2)
			own, denom := []string{"ann", "bob"}[i], []string{"coin", "gold"}[i]
			done(t, w, i, sends(i, 5, timeout))
			for w.Chain(1-i).Height() < timeout {
				made(t, w, 1-i, 1)
			}
			carried(t, w, 1-i, 1)
			made(t, w, 1-i, 1)
			// It is too late for that, which was right all along.
			done(t, w, i)
			p := w.Chain(i).App().Sent()[0]
			submit(t, w, 1-i, shown(t, api.Receive, p, "", w.Chain(i)))
			submit(t, w, 1-i, update(t, w.Chain(i), w.Chain(i).Height()), shown(t, api.Receive, p, "", w.Chain(i)))
			made(t, w, 1-i, 1)
			results(t, w, 1-i, api.ErrTimeout, api.OK, api.ErrTimeout)
			carried(t, w, i, 2)
			carried(t, w, i, 2)
			made(t, w, i, 1)
			results(t, w, i, api.OK, api.OK, api.ErrOrder, api.ErrDone)
			balances(t, w, i, own, denom, 1000)
			paid(t, w)
			carried(t, w, 1-i, 1)
			carried(t, w, i, 0)
		}
	}
}

// TestChangingPowers: packets arrive while validators come, go and change, as long as each block is carried.
func TestChangingPowers(t *testing.T) { // P23.2, T7
	r := random()
	for range 10 {
		w := world(t, 1+r.IntN(8), 1+r.IntN(8))
		for range 30 {
			for i := range 2 {
				if r.IntN(2) == 0 {
					submit(t, w, i, anyPowers(r, w, i))
				}
				anySends(t, r, w, i)
				made(t, w, i, 1+r.IntN(1000))
				w.Relay(1 - i)
				nothingFromNothing(t, w)
			}
		}
		settle(t, r, w, orders()["each block is carried at once"], 60)
		paid(t, w)
	}
}

// anyPowers are changes of the i-th chain's powers that leave those who sign more than two thirds.
func anyPowers(r *rand.Rand, w *relay.World, i int) api.Tx {
	set := w.Chain(i).App().Set()
	all := 0
	for _, v := range set {
		all += v.Power
	}
	v := set[r.IntN(len(set))]
	if r.IntN(3) == 0 && len(set) > 1 {
		return powers(api.Validator{Key: v.Key})
	}
	s := pick(r, secretsOf(i, 8)...)
	if slices.ContainsFunc(set, func(v api.Validator) bool { return v.Key == keyOf(s) }) {
		return powers(api.Validator{Key: keyOf(s), Power: 1 + r.IntN(1000)})
	}
	return powers(api.Validator{Key: v.Key, Power: 1 + r.IntN(9)})
}

// TestMiddle: what a plan's leap is too far for, whoever carries the block in the middle helps to.
func TestMiddle(t *testing.T) { // P23.2, T2
	w := world(t, 3, 2)
	set := crewOf(0, 3)
	done(t, w, 0, sends(0, 5, 50), powers(api.Validator{Key: set[0].Key}, api.Validator{Key: set[1].Key}))
	made(t, w, 0, 1)
	carried(t, w, 1, 2)
	made(t, w, 1, 1)
	results(t, w, 1, api.ErrTrust, api.ErrRoot)
	nothingFromNothing(t, w)
	submit(t, w, 1, update(t, w.Chain(0), 2))
	carried(t, w, 1, 2)
	made(t, w, 1, 1)
	results(t, w, 1, api.OK, api.OK, api.OK)
	settle(t, random(), w, orders()["each block is carried at once"], 2)
	paid(t, w)
}
