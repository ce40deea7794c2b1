package relay_test

import (
	"math"
	"math/rand/v2"
	"reflect"
	"slices"
	"strconv"
	"testing"

	"nuncio/api"
	"nuncio/chain"
	"nuncio/relay"
)

// plain is a world told plainly, whose chains are layer 22's.
type plain struct {
	chains [2]*chain.Chain
	clock  int
}

func plainly(t *testing.T, a, b int) *plain {
	t.Helper()
	p := &plain{chains: [2]*chain.Chain{founded(t, 0, a), founded(t, 1, b)}, clock: 10}
	for i, c := range p.chains {
		root, e := p.chains[1-i].Light(1)
		expect(t, "Light", e, api.OK)
		expect(t, "Trust", c.Trust(root, 10, trusting), api.OK)
	}
	return p
}

func (p *plain) submit(i int, x api.Tx) api.Errno {
	if i != 0 && i != 1 {
		return api.ErrRelay
	}
	return p.chains[i].Submit(x)
}

func (p *plain) block(i, wait int) api.Errno {
	switch {
	case i != 0 && i != 1:
		return api.ErrRelay
	case wait < 1, wait > 1000:
		return api.ErrArg
	}
	e := p.chains[i].Block(p.clock+wait, 0, nil)
	if e == api.OK {
		p.clock += wait
	}
	return e
}

func (p *plain) relay(i int) (int, api.Errno) {
	if i != 0 && i != 1 {
		return 0, api.ErrRelay
	}
	l := planOf(p.chains[1-i], p.chains[i])
	for n, x := range l {
		if p.chains[i].Submit(x) != api.OK {
			return n, api.OK
		}
	}
	return len(l), api.OK
}

func (p *plain) look(t *testing.T) view {
	t.Helper()
	return view{clock: p.clock, chains: [2]chainView{lookAt(t, p.chains[0]), lookAt(t, p.chains[1])}}
}

// trio are a world, another one that is asked the same, and the plain one.
type trio struct {
	w, twin *relay.World
	p       *plain
	answers map[string]int
}

func (x *trio) agree(t *testing.T, call string, e, twin, want api.Errno) {
	t.Helper()
	if e != want || twin != want {
		t.Fatalf("%s: %d and %d, not %d", call, e, twin, want)
	}
	x.answers[call+" "+strconv.Itoa(int(want))]++
}

// play is one call, of any kind.
func (x *trio) play(t *testing.T, r *rand.Rand) {
	t.Helper()
	i := pick(r, 0, 1, 0, 1, 0, 1, 0, 1, 0, 1, pick(r, 2, -1, math.MaxInt, math.MinInt))
	switch r.IntN(12) {
	case 0, 1, 2:
		wait := pick(r, 1, 1, 2, 3, 40, 1000, pick(r, 0, -1, 1001, math.MinInt, math.MaxInt))
		x.agree(t, "block", x.w.Block(i, wait), x.twin.Block(i, wait), x.p.block(i, wait))
	case 3, 4, 5:
		n, e := x.w.Relay(i)
		m, twin := x.twin.Relay(i)
		k, want := x.p.relay(i)
		if n != k || m != k {
			t.Fatalf("Relay: %d and %d, not %d", n, m, k)
		}
		x.agree(t, "relay", e, twin, want)
		x.answers["carried"] += n
	case 6:
		if r.IntN(8) == 0 && (i == 0 || i == 1) {
			x.byItself(t, r, i)
		}
	default:
		x.submit(t, r, i)
	}
}

// byItself makes a block that the world does not.
func (x *trio) byItself(t *testing.T, r *rand.Rand, i int) {
	t.Helper()
	time, round := x.p.clock+r.IntN(60), r.IntN(3)
	x.agree(t, "by itself", x.w.Chain(i).Block(time, round, nil), x.twin.Chain(i).Block(time, round, nil), x.p.chains[i].Block(time, round, nil))
}

func (x *trio) submit(t *testing.T, r *rand.Rand, i int) {
	t.Helper()
	for range 1 + r.IntN(4)*r.IntN(5) {
		tx := x.anyTx(r, i)
		x.agree(t, "submit", x.w.Submit(i, tx), x.twin.Submit(i, tx), x.p.submit(i, tx))
	}
}

func (x *trio) anyTx(r *rand.Rand, i int) api.Tx {
	if i != 0 && i != 1 {
		return pick(r, api.Tx{}, pay("ann", "bob", "coin", 1))
	}
	own, denom := []string{"ann", "bob"}[i], []string{"coin", "gold"}[i]
	abroad := []string{"b/gold", "a/coin"}[i]
	known := x.p.chains[i].App().Known()
	switch r.IntN(30) {
	case 0:
		return powers(api.Validator{Key: keyOf(pick(r, secretsOf(i, 8)...)), Power: r.IntN(3)})
	case 1:
		return api.Tx{Kind: api.TxKind(r.IntN(10) - 1)}
	case 2, 3:
		return pay(own, "cid", pick(r, denom, abroad), r.Uint64N(10))
	case 4, 5, 6:
		return send("cid", pick(r, "ann", "bob"), abroad, 1+r.Uint64N(10), known+r.IntN(20))
	}
	return send(own, pick(r, "cid", "cid", "?"), denom, 1+r.Uint64N(5), known+r.IntN(12))
}

// judge: the world and its twin tell what the plain one tells, and what one chain is to hear of the other one.
func (x *trio) judge(t *testing.T) {
	t.Helper()
	want := x.p.look(t)
	if got, twin := look(t, x.w), look(t, x.twin); !isSame(got, want) || !isSame(twin, want) {
		t.Fatalf("%+v and %+v, not %+v", got, twin, want)
	}
	for i := range 2 {
		plan := planOf(x.p.chains[i], x.p.chains[1-i])
		got, twin := relay.Plan(x.w.Chain(i), x.w.Chain(1-i)), relay.Plan(x.twin.Chain(i), x.twin.Chain(1-i))
		if !slices.EqualFunc(got, plan, isSameTx) || !reflect.DeepEqual(got, twin) {
			t.Fatalf("%v and %v, not %v", kinds(got), kinds(twin), kinds(plan))
		}
		for _, tx := range got {
			proves(t, x.w.Chain(i), tx)
			x.answers["plan "+strconv.Itoa(int(tx.Kind))]++
		}
		if len(plan) == api.MaxTxs {
			x.answers["plan full"]++
		}
	}
	nothingFromNothing(t, x.w)
}

// TestAnyCalls: any calls on a world, against a plain one.
func TestAnyCalls(t *testing.T) { // P23.1, P23.3, P1, P2
	r := random()
	answers := map[string]int{}
	for range 30 {
		a, b := 1+r.IntN(8), 1+r.IntN(8)
		x := &trio{w: world(t, a, b), twin: world(t, a, b), p: plainly(t, a, b), answers: answers}
		for range 120 {
			x.play(t, r)
			if r.IntN(10) == 0 {
				x.judge(t)
			}
		}
		x.judge(t)
	}
	for what, n := range map[string]int{
		"submit 0": 2000, "submit 221": 800, "submit 231": 300, "block 0": 300, "block 1": 60, "block 153": 10, "block 158": 20, "block 231": 40, "relay 0": 400, "relay 231": 40,
		"by itself 0": 10, "carried": 2000, "plan 3": 300, "plan 4": 2000, "plan 5": 1000, "plan 6": 800, "plan full": 30,
	} {
		if answers[what] < n {
			t.Errorf("%s was answered %d times, not %d", what, answers[what], n)
		}
	}
}
